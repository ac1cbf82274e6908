/- Boxes of events in memory, the program's and the reference's; rows of events that grow. -/
import Derived.Test.YtcffmdimfmpheaaDoorMlM
import Derived.Test.YtcffmdimfmpheaaDoorEMem
import Derived.Deep.RegionLaw
namespace Go.Proofs.YtcffmdimfmpheaaDoor
open Go Go.RowKit

theorem OwE.put {w w' : World} {B : Nat} {v : Value} {xs : List Ev} (h : OwE w B v xs) (hk : ∀ k, v.ownBlock = some k → w'.heap[k]? = w.heap[k]?) : OwE w' B v xs := ownsRow_put h hk
theorem OwE.at_ {w : World} {B n : Nat} {v : Value} {xs : List Ev} (h : OwE w B v xs) (hn : xs.length = n) : ∃ a c, v = .slice a n c := by
  obtain ⟨a, c, e, _⟩ := h.sl
  exact ⟨a, c, by rw [e, hn]⟩
theorem OwE.ev_ {w : World} {B n c : Nat} {a : Option Addr} {xs : List Ev} (h : OwE w B (.slice a n c) xs) : n = xs.length ∧ xs.length ≤ c ∧ EV w a xs := by
  obtain ⟨a', c', e, h1, h2, _⟩ := h.sl
  cases e
  exact ⟨rfl, h1, h2⟩
theorem EV.put {w w' : World} {a : Option Addr} {xs : List Ev} (h : EV w a xs) (hk : ∀ b o, a = some ⟨b, o, none⟩ → w'.heap[b]? = w.heap[b]?) : EV w' a xs := fun j hj => by
  obtain ⟨b, o, e, h0⟩ := h j hj
  refine ⟨b, o, e, fun i v hv => ?_⟩
  rw [World.cell?_of_block (hk b o e)]
  exact h0 i v hv
theorem But.own {a b : World} {row : Option Nat} (hg : a.grownBy b row) : But row.toList a b :=
  ⟨hg.os, hg.tape, hg.output, hg.size, fun k hk hs => hg.block k hk (fun e => hs (by simp [← e]))⟩
theorem At15.but {S : List Nat} {w w' : World} {b o : Nat} {e : Ev} (h : At15 w b o e) (hb : But S w w') (hS : b ∉ S) : At15 w' b o e := fun j v hv => hb.cell' (h j v hv) hS
/-- One event, new. -/
theorem at15_new (w : World) (e : Ev) : At15 (w.alloc (.cells (evA e) 33)) w.heap.size 0 e := fun j v hv => by
  rw [Nat.zero_add]
  exact (Cel.new w (evA e) 33).cell (by simpa [evA, c15] using hv)
theorem ev_one (w : World) (e : Ev) : EV (w.alloc (.cells (evA e) 33)) (some ⟨w.heap.size, 0, none⟩) [e] := fun j hj => by
  obtain rfl : j = 0 := by simpa using hj
  exact ⟨_, _, rfl, at15_new w e⟩

/-- append, by the type of the program's list. -/
theorem run_ownL {w : World} {ty : TypeId} {B : Nat} {v : Value} {xs news : List Ev} (hown : OwE w B v xs) {sp : Option Addr} {m c : Nat} (hl : news.length = m) (hr : EV w sp news) (hk : xs.length + m ≤ 100000) (hb : B ≤ w.heap.size) :
    ∃ v' w', (Builtin.append_ #[56, 56] ty #[v, .slice sp m c]).run Tryd.prog w = .ok v' w' ∧ OwE w' B v' (xs ++ news) ∧ w.grownBy w' v.ownBlock ∧ (v'.ownBlock = v.ownBlock ∨ v'.ownBlock = some w.heap.size) := by
  obtain ⟨v', w', hrun, r1, r2, r3⟩ := run_own (t := 56) (ty := ty) (c := c) (m := m) Tryd.underlying56 infoE rfl (by decide) hown hr.rw_ (by rw [flatE_len, hl]) (flatE_one _) (by unfold maxLen; omega) (by omega) hb
  refine ⟨v', w', hrun, ?_, r2, r3⟩
  unfold OwE
  rw [flatE_app, List.length_append, hl]
  exact r1
theorem wpList_appL {w : World} {ops : Array Oper} {rest : List Oper} {o : Oper} {a : Act} {Q : Exit → Act → World → Prop} (hg : o.guard = none) (s x : Operand) (hop : o.op = Op.call { callee := Callee.builtin Builtin.append, args := #[s, x], argTypes := #[56, 56] })
    (B : Nat) (v : Value) (xs : List Ev) (hs : a.eval s = v) (hown : OwE w B v xs) (sp : Option Addr) (m c : Nat) (news : List Ev) (hx : a.eval x = .slice sp m c) (hl : news.length = m) (hr : EV w sp news)
    (hk : xs.length + m ≤ 100000) (hb : B ≤ w.heap.size)
    (hK : ∀ v' w', OwE w' B v' (xs ++ news) → w.grownBy w' v.ownBlock → (v'.ownBlock = v.ownBlock ∨ v'.ownBlock = some w.heap.size) → wpList Tryd.prog ops Q rest (a.put o.dst v') w') :
    wpList Tryd.prog ops Q (o :: rest) a w := by
  refine wpList_plain hg fun K hK' => ?_
  obtain ⟨v', w', hrun, r1, r2, r3⟩ := run_ownL (ty := o.type) (c := c) hown hl hr hk hb
  unfold Oper.wp execOp
  simp only [hop, resolve, invoke, builtin, Sem.run_bind, Sem.run_pure, Result.andThen_ok, List.map_toArray, List.map_cons, List.map_nil, hs, hx, hrun]
  exact hK' _ _ (hK v' w' r1 r2 r3)
theorem step_appL {w : World} {ops : Array Oper} {o : Oper} {a : Act} {K : Act → World → Prop} {Q : Exit → Act → World → Prop} {E : Prop} (hg : o.guard = none) (s x : Operand) (hop : o.op = Op.call { callee := Callee.builtin Builtin.append, args := #[s, x], argTypes := #[56, 56] })
    (B : Nat) (v : Value) (xs : List Ev) (hs : a.eval s = v) (hown : OwE w B v xs) (sp : Option Addr) (m c : Nat) (news : List Ev) (hx : a.eval x = .slice sp m c) (hl : news.length = m) (hr : EV w sp news)
    (hk : xs.length + m ≤ 100000) (hb : B ≤ w.heap.size)
    (hK : ∀ v' w', OwE w' B v' (xs ++ news) → w.grownBy w' v.ownBlock → (v'.ownBlock = v.ownBlock ∨ v'.ownBlock = some w.heap.size) → K (a.put o.dst v') w') :
    if Region.wanted o (yielded ops a.tmps) = true then Oper.wp Tryd.prog o a w K Q else E := by
  have hw : Region.wanted o (yielded ops a.tmps) = true := by simp [Region.wanted, hg]
  rw [if_pos hw]
  obtain ⟨v', w', hrun, r1, r2, r3⟩ := run_ownL (ty := o.type) (c := c) hown hl hr hk hb
  unfold Oper.wp execOp
  simp only [hop, resolve, invoke, builtin, Sem.run_bind, Sem.run_pure, Result.andThen_ok, List.map_toArray, List.map_cons, List.map_nil, hs, hx, hrun]
  exact hK v' w' r1 r2 r3
theorem step_appE {w : World} {ops : Array Oper} {o : Oper} {a : Act} {K : Act → World → Prop} {Q : Exit → Act → World → Prop} {E : Prop} (hg : o.guard = none) (s x : Operand) (hop : o.op = Op.call { callee := Callee.builtin Builtin.append, args := #[s, x], argTypes := #[34, 34] })
    (B : Nat) (v : Value) (xs : List Ev) (hs : a.eval s = v) (hown : OwE w B v xs) (sp : Option Addr) (m c : Nat) (news : List Ev) (hx : a.eval x = .slice sp m c) (hl : news.length = m) (hr : EV w sp news)
    (hk : xs.length + m ≤ 100000) (hb : B ≤ w.heap.size)
    (hK : ∀ v' w', OwE w' B v' (xs ++ news) → w.grownBy w' v.ownBlock → (v'.ownBlock = v.ownBlock ∨ v'.ownBlock = some w.heap.size) → K (a.put o.dst v') w') :
    if Region.wanted o (yielded ops a.tmps) = true then Oper.wp Tryd.prog o a w K Q else E := by
  have hw : Region.wanted o (yielded ops a.tmps) = true := by simp [Region.wanted, hg]
  rw [if_pos hw]
  obtain ⟨v', w', hrun, r1, r2, r3⟩ := run_ownE (ty := o.type) (c := c) hown hl hr hk hb
  unfold Oper.wp execOp
  simp only [hop, resolve, invoke, builtin, Sem.run_bind, Sem.run_pure, Result.andThen_ok, List.map_toArray, List.map_cons, List.map_nil, hs, hx, hrun]
  exact hK v' w' r1 r2 r3

/-- An object's blocks: its own, and its row's. -/
def bks (B : Nat) (v : Value) : List Nat := B :: v.ownBlock.toList
theorem bks_B {B : Nat} {v : Value} : B ∈ bks B v := by simp [bks]
theorem bks_v {B : Nat} {v : Value} {k : Nat} (h : v.ownBlock = some k) : k ∈ bks B v := by simp [bks, h]
theorem bks_out {B : Nat} {v : Value} {k : Nat} (h : k ∈ bks B v) : k = B ∨ v.ownBlock = some k := by
  simp [bks] at h
  exact h

/-- A box of the program's: its own block B, the slice v of its events. -/
structure BM (w : World) (B N : Nat) (v : Value) (xs : List Ev) : Prop where
  b : w.heap[B]? = some (.cells #[v, .int .i64 N] 58 (0, 0))
  h : OwE w 0 v xs
  vb : v.ownBlock ≠ some B
  n1 : 1 ≤ N
  n2 : N ≤ 1024
section
variable {w w' w2 : World} {B N : Nat} {v v' : Value} {xs ys : List Ev}
theorem BM.lt (h : BM w B N v xs) {x : Nat} (hx : x ∈ bks B v) : x < w.heap.size := by
  rcases bks_out hx with rfl | hx
  · exact (Array.getElem?_eq_some_iff.1 h.b).1
  · exact (h.h.lt hx).2
theorem BM.put (h : BM w B N v xs) (hb : ∀ x ∈ bks B v, w'.heap[x]? = w.heap[x]?) : BM w' B N v xs :=
  ⟨(hb B bks_B).trans h.b, h.h.put (fun _ hx => hb _ (bks_v hx)), h.vb, h.n1, h.n2⟩
theorem BM.but {S : List Nat} (h : BM w B N v xs) (hb : But S w w') (hS : Disj (bks B v) S) : BM w' B N v xs := h.put (fun x hx => hb.block x (h.lt hx) (hS x hx))
theorem BM.keep (h : BM w B N v xs) (hb : But [] w w') : BM w' B N v xs := h.but hb (by simp [Disj])
theorem BM.below (h : BM w B N v xs) (hb : Below w.heap.size w w') : BM w' B N v xs := h.keep (.of_below hb)
theorem BM.drew (h : BM w B N v xs) : BM w.drew B N v xs := h.keep (But.refl [] w).drew
theorem BM.c0 (h : BM w B N v xs) : w.cell? ⟨B, 0, none⟩ = some v := by simp [World.cell?, h.b]
theorem BM.c1 (h : BM w B N v xs) : w.cell? ⟨B, 1, none⟩ = some (.int .i64 N) := by simp [World.cell?, h.b]
theorem BM.fb (h : BM w B N v xs) (j : Nat) : w.frozen? ⟨B, j, none⟩ = false := by simp [World.frozen?, h.b]
/-- Another row. -/
theorem BM.row (h : BM w B N v xs) (hb : But v.ownBlock.toList w w2) (ho : OwE w2 0 v' ys) (hv : v'.ownBlock = v.ownBlock ∨ ∀ x, v'.ownBlock = some x → w.heap.size ≤ x) :
    BM (w2.setCell ⟨B, 0, none⟩ v') B N v' ys ∧ Step (bks B v) w (bks B v') (w2.setCell ⟨B, 0, none⟩ v') ∧ w2.cell? ⟨B, 0, none⟩ = some v ∧ w2.frozen? ⟨B, 0, none⟩ = false := by
  have lB := h.lt (x := B) bks_B
  have nB : v'.ownBlock ≠ some B := fun e => hv.elim (fun e1 => h.vb (e1.symm.trans e)) (fun e1 => by have := e1 _ e; omega)
  have eB : w2.heap[B]? = _ := (hb.block B lB (fun e => h.vb (by simpa using e))).trans h.b
  refine ⟨⟨?_, ho.put (fun x hx => Below.heap_setCell w2 ⟨B, 0, none⟩ _ x (fun e => nB (by rw [hx, e]))), nB, h.n1, h.n2⟩, ⟨(hb.mono (fun x hx => bks_v (by simpa using hx))).set (p := ⟨B, 0, none⟩) bks_B _, fun x hx => ?_⟩, ?_, ?_⟩
  · have := heap_setCell_same w2 B 0 _ 58 v' eB
    rw [this]
    simp
  · rcases bks_out hx with rfl | hx
    · exact .inl bks_B
    · rcases hv with e | e
      · exact .inl (bks_v (e ▸ hx))
      · exact .inr (e x hx)
  · simp [World.cell?, eB]
  · simp [World.frozen?, eB]
/-- Another row, all new. -/
theorem BM.fresh (h : BM w B N v xs) (hb : Below w.heap.size w w2) (ho : OwE w2 w.heap.size v' ys) :
    BM (w2.setCell ⟨B, 0, none⟩ v') B N v' ys ∧ Step (bks B v) w (bks B v') (w2.setCell ⟨B, 0, none⟩ v') ∧ w2.cell? ⟨B, 0, none⟩ = some v ∧ w2.frozen? ⟨B, 0, none⟩ = false :=
  h.row (.of_below hb) (ho.lower (Nat.zero_le _)) (.inr fun _ hx => (ho.lt hx).1)
theorem BM.shape (h : BM w B N v xs) : ∃ a c, v = .slice a xs.length c ∧ EV w a xs ∧ xs.length ≤ c ∧ ((a = none ∧ xs.length = 0 ∧ c = 0) ∨ ∃ g, a = some ⟨g, 0, none⟩ ∧ g ≠ B) := by
  obtain ⟨a, c, e, h1, h2, h3⟩ := h.h.sl
  refine ⟨a, c, e, h2, h1, h3.imp id (fun ⟨g, e2, _⟩ => ⟨g, e2, fun e3 => h.vb (by rw [e, e2, e3]; rfl)⟩)⟩
end
/-- A box of the program's at B, with blocks T. -/
def BQ (w : World) (B : Nat) (T : List Nat) (N : Nat) (xs : List Ev) : Prop := ∃ v, T = bks B v ∧ BM w B N v xs ∧ xs.length ≤ N
section
variable {w w' : World} {B N : Nat} {T : List Nat} {xs : List Ev}
theorem BQ.but {S : List Nat} (h : BQ w B T N xs) (hb : But S w w') (hS : Disj T S) : BQ w' B T N xs := by
  obtain ⟨v, rfl, hm, hl⟩ := h
  exact ⟨v, rfl, hm.but hb hS, hl⟩
theorem BQ.keep (h : BQ w B T N xs) (hb : But [] w w') : BQ w' B T N xs := h.but hb (by simp [Disj])
theorem BQ.below (h : BQ w B T N xs) (hb : Below w.heap.size w w') : BQ w' B T N xs := h.keep (.of_below hb)
theorem BQ.lt (h : BQ w B T N xs) : ∀ x ∈ T, x < w.heap.size := by
  obtain ⟨v, rfl, hm, hl⟩ := h
  exact fun x hx => hm.lt hx
theorem BQ.len (h : BQ w B T N xs) : xs.length ≤ N ∧ N ≤ 1024 := by
  obtain ⟨v, rfl, hm, hl⟩ := h
  exact ⟨hl, hm.n2⟩
end

/-- A box of the reference's: its own block M, the slice v of its events. -/
structure RM (w : World) (M N : Nat) (v : Value) (xs : List Ev) : Prop where
  b : w.heap[M]? = some (.cells #[.int .i64 N, v] 40 (0, 0))
  h : OwE w 0 v xs
  vb : v.ownBlock ≠ some M
section
variable {w w' w2 : World} {M N : Nat} {v v' : Value} {xs ys : List Ev}
theorem RM.lt (h : RM w M N v xs) {x : Nat} (hx : x ∈ bks M v) : x < w.heap.size := by
  rcases bks_out hx with rfl | hx
  · exact (Array.getElem?_eq_some_iff.1 h.b).1
  · exact (h.h.lt hx).2
theorem RM.put (h : RM w M N v xs) (hb : ∀ x ∈ bks M v, w'.heap[x]? = w.heap[x]?) : RM w' M N v xs :=
  ⟨(hb M bks_B).trans h.b, h.h.put (fun _ hx => hb _ (bks_v hx)), h.vb⟩
theorem RM.but {S : List Nat} (h : RM w M N v xs) (hb : But S w w') (hS : Disj (bks M v) S) : RM w' M N v xs := h.put (fun x hx => hb.block x (h.lt hx) (hS x hx))
theorem RM.keep (h : RM w M N v xs) (hb : But [] w w') : RM w' M N v xs := h.but hb (by simp [Disj])
theorem RM.below (h : RM w M N v xs) (hb : Below w.heap.size w w') : RM w' M N v xs := h.keep (.of_below hb)
theorem RM.drew (h : RM w M N v xs) : RM w.drew M N v xs := h.keep (But.refl [] w).drew
theorem RM.c0 (h : RM w M N v xs) : w.cell? ⟨M, 0, none⟩ = some (.int .i64 N) := by simp [World.cell?, h.b]
theorem RM.c1 (h : RM w M N v xs) : w.cell? ⟨M, 1, none⟩ = some v := by simp [World.cell?, h.b]
theorem RM.fb (h : RM w M N v xs) (j : Nat) : w.frozen? ⟨M, j, none⟩ = false := by simp [World.frozen?, h.b]
/-- Another row, all new. -/
theorem RM.fresh (h : RM w M N v xs) (hb : Below w.heap.size w w2) (ho : OwE w2 w.heap.size v' ys) :
    RM (w2.setCell ⟨M, 1, none⟩ v') M N v' ys ∧ Step (bks M v) w (bks M v') (w2.setCell ⟨M, 1, none⟩ v') ∧ w2.cell? ⟨M, 1, none⟩ = some v ∧ w2.frozen? ⟨M, 1, none⟩ = false := by
  have lM := h.lt (x := M) bks_B
  have nM : v'.ownBlock ≠ some M := fun e => by have := (ho.lt e).1; omega
  have eM : w2.heap[M]? = _ := (hb.block M lM).trans h.b
  refine ⟨⟨?_, (ho.lower (Nat.zero_le _)).put (fun x hx => Below.heap_setCell w2 ⟨M, 1, none⟩ _ x (fun e => nM (by rw [hx, e]))), nM⟩, ⟨(But.of_below hb).set (p := ⟨M, 1, none⟩) bks_B _, fun x hx => ?_⟩, ?_, ?_⟩
  · have := heap_setCell_same w2 M 1 _ 40 v' eM
    rw [this]
    simp
  · rcases bks_out hx with rfl | hx
    · exact .inl bks_B
    · exact .inr (ho.lt hx).1
  · simp [World.cell?, eM]
  · simp [World.frozen?, eM]
theorem RM.shape (h : RM w M N v xs) : ∃ a c, v = .slice a xs.length c ∧ EV w a xs ∧ xs.length ≤ c ∧ ((a = none ∧ xs.length = 0 ∧ c = 0) ∨ ∃ g, a = some ⟨g, 0, none⟩ ∧ g ≠ M) := by
  obtain ⟨a, c, e, h1, h2, h3⟩ := h.h.sl
  refine ⟨a, c, e, h2, h1, h3.imp id (fun ⟨g, e2, _⟩ => ⟨g, e2, fun e3 => h.vb (by rw [e, e2, e3]; rfl)⟩)⟩
end
/-- A box of the reference's at M, with blocks R. -/
def RQ (w : World) (M : Nat) (R : List Nat) (N : Nat) (xs : List Ev) : Prop := ∃ v, R = bks M v ∧ RM w M N v xs
section
variable {w w' : World} {M N : Nat} {R : List Nat} {xs : List Ev}
theorem RQ.but {S : List Nat} (h : RQ w M R N xs) (hb : But S w w') (hS : Disj R S) : RQ w' M R N xs := by
  obtain ⟨v, rfl, hm⟩ := h
  exact ⟨v, rfl, hm.but hb hS⟩
theorem RQ.keep (h : RQ w M R N xs) (hb : But [] w w') : RQ w' M R N xs := h.but hb (by simp [Disj])
theorem RQ.below (h : RQ w M R N xs) (hb : Below w.heap.size w w') : RQ w' M R N xs := h.keep (.of_below hb)
theorem RQ.lt (h : RQ w M R N xs) : ∀ x ∈ R, x < w.heap.size := by
  obtain ⟨v, rfl, hm⟩ := h
  exact fun x hx => hm.lt hx
end
end Go.Proofs.YtcffmdimfmpheaaDoor
