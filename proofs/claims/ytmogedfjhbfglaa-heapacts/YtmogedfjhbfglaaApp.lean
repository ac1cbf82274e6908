/- Rows of ints of a call's own; an append to one; the reference's Ints; clones. -/
import Derived.Test.YtmogedfjhbfglaaNew
import Derived.Deep.RegionLaw
namespace Go.Proofs.Ytmogedfjhbfglaa
open Go.RowKit

/-- A slice of ints that the call made. -/
def RowI (w : World) (base : Nat) (v : Value) (xs : List Int) : Prop := w.ownsRow base 3 1 v xs.length (xs.map (Value.int .i64))
theorem row_lower {W : World} {b b' : Nat} {v : Value} {k : Nat} {xs : List Value} (h : W.ownsRow b' 3 1 v k xs) (hb : b ≤ b') : W.ownsRow b 3 1 v k xs :=
  ⟨h.1, h.2.imp id (fun ⟨g, cap, cur, h1, h2, h3⟩ => ⟨g, cap, cur, h1, by omega, h3⟩)⟩

section
variable {w w' : World} {q : List Int}
theorem RowI.but {S : List Nat} {base : Nat} {v : Value} (h : RowI w base v q) (hb : But S w w') (hS : ∀ x ∈ S, x < base) : RowI w' base v q := by
  refine ⟨h.1, ?_⟩
  rcases h.2 with h | ⟨g, cap, cur, h1, h2, h3, h4⟩
  · exact .inl h
  · exact .inr ⟨g, cap, cur, h1, h2, (hb.block g (Array.getElem?_eq_some_iff.1 h3).1 (fun e => by have := hS g e; omega)).trans h3, h4⟩
theorem RowI.below {base : Nat} {v : Value} (h : RowI w base v q) (hb : Below w.heap.size w w') : RowI w' base v q := h.but (S := []) (.of_below hb) (by simp)
theorem RowI.shape {base : Nat} {v : Value} (h : RowI w base v q) : ∃ a c, v = .slice a q.length c ∧ q.length ≤ c ∧ c ≤ maxLen ∧ (a = none → c = 0) ∧ ∀ j x, q[j]? = some x → ∃ g, a = some ⟨g, 0, none⟩ ∧ w.cell? ⟨g, j, none⟩ = some (.int .i64 x) := by
  have h' := h
  rcases h.2 with ⟨rfl, h0⟩ | ⟨g, cap, cur, rfl, hg, hb, hc, hm, _⟩
  · exact ⟨none, 0, by rw [h0], by omega, by unfold maxLen; omega, fun _ => rfl, fun j x hx => by have := (List.getElem?_eq_some_iff.1 hx).1; omega⟩
  · refine ⟨_, cap, rfl, hc, hm, (fun e => (by cases e)), fun j x hx => ⟨g, rfl, ?_⟩⟩
    have hj := (List.getElem?_eq_some_iff.1 hx).1
    have := World.ownsRow.cellAt h' j (by omega)
    rw [this, List.getElem?_map, hx]
    rfl
end

/-- A slice's numbers can be read. -/
def Reads (w : World) (sp : Option Addr) (c : Nat) (xs : List Int) : Prop := (sp = none ∧ c = 0 ∧ xs = []) ∨ ∃ ad, sp = some ad ∧ ∀ j x, xs[j]? = some x → w.cell? (ad.add j) = some (.int .i64 x)

theorem run_app {w : World} {base : Nat} {v : Value} {k : Nat} {xs : List Int} {ty : TypeId} (hown : w.ownsRow base 3 1 v k (xs.map (Value.int .i64))) {sp : Option Addr} {m c : Nat} {news : List Int} (hl : news.length = m) (hr : Reads w sp c news)
    (hk : k + m ≤ 100000) (hb : base ≤ w.heap.size) :
    ∃ v' w', (Builtin.append_ #[32, 32] ty #[v, .slice sp m c]).run Try.prog w = .ok v' w' ∧ w'.ownsRow base 3 1 v' (k + m) ((xs ++ news).map (Value.int .i64)) ∧ w.grownBy w' v.ownBlock := by
  obtain ⟨i0, hi, hz0, hz1, hz2⟩ := info_parts info3
  rcases hr with ⟨rfl, rfl, rfl⟩ | ⟨ad, rfl, hc⟩
  · obtain rfl : m = 0 := by simpa using hl.symm
    refine ⟨v, w, run_append_owned_none w base 32 ty 3 i0 1 Try.underlying32 hi v k _ hown, by simpa using hown, ⟨rfl, rfl, rfl, Nat.le_refl _, fun _ _ _ => rfl⟩⟩
  · obtain ⟨v', w', h1, h2, h3, _⟩ := run_append_own (P := Try.prog) w base 32 ty 3 i0 (.int .i64 0) 1 8 Try.underlying32 hi hz0 hz1 hz2 rfl (by decide) v k _ hown ad m c (news.map (Value.int .i64)) (by simpa using hl)
      (fun j u hu => by rw [List.getElem?_map] at hu; obtain ⟨x, hx, rfl⟩ := Option.map_eq_some_iff.1 hu; exact hc j x hx) (fun u hu => by obtain ⟨x, _, rfl⟩ := List.mem_map.1 hu; rfl) (by unfold maxLen; omega) (by omega) hb
    exact ⟨v', w', h1, by rw [List.map_append]; exact h2, h3⟩

theorem wpList_app {w : World} {ops : Array Oper} {rest : List Oper} {o : Oper} {a : Act} {Q : Exit → Act → World → Prop} (hg : o.guard = none) (s x : Operand) (hop : o.op = Op.call { callee := Callee.builtin Builtin.append, args := #[s, x], argTypes := #[32, 32] })
    (base : Nat) (v : Value) (k : Nat) (xs : List Int) (hs : a.eval s = v) (hown : w.ownsRow base 3 1 v k (xs.map (Value.int .i64))) (sp : Option Addr) (m c : Nat) (news : List Int) (hx : a.eval x = .slice sp m c) (hl : news.length = m) (hr : Reads w sp c news)
    (hk : k + m ≤ 100000) (hb : base ≤ w.heap.size)
    (hK : ∀ v' w', w'.ownsRow base 3 1 v' (k + m) ((xs ++ news).map (Value.int .i64)) → w.grownBy w' v.ownBlock → wpList Try.prog ops Q rest (a.put o.dst v') w') :
    wpList Try.prog ops Q (o :: rest) a w := by
  refine wpList_plain hg fun K hK' => ?_
  obtain ⟨v', w', hrun, r1, r2⟩ := run_app (ty := o.type) hown hl hr hk hb
  unfold Oper.wp
  simp [execOp, hop, resolve, invoke, builtin, hs, hx, hrun, Result.andThen]
  exact hK' _ _ (hK v' w' r1 r2)

theorem step_app {w : World} {ops : Array Oper} {o : Oper} {a : Act} {K : Act → World → Prop} {Q : Exit → Act → World → Prop} {E : Prop} (hg : o.guard = none) (s x : Operand) (hop : o.op = Op.call { callee := Callee.builtin Builtin.append, args := #[s, x], argTypes := #[32, 32] })
    (base : Nat) (v : Value) (k : Nat) (xs : List Int) (hs : a.eval s = v) (hown : w.ownsRow base 3 1 v k (xs.map (Value.int .i64))) (sp : Option Addr) (m c : Nat) (news : List Int) (hx : a.eval x = .slice sp m c) (hl : news.length = m) (hr : Reads w sp c news)
    (hk : k + m ≤ 100000) (hb : base ≤ w.heap.size)
    (hK : ∀ v' w', w'.ownsRow base 3 1 v' (k + m) ((xs ++ news).map (Value.int .i64)) → w.grownBy w' v.ownBlock → K (a.put o.dst v') w') :
    if Region.wanted o (yielded ops a.tmps) = true then Oper.wp Try.prog o a w K Q else E := by
  have hw : Region.wanted o (yielded ops a.tmps) = true := by simp [Region.wanted, hg]
  rw [if_pos hw]
  obtain ⟨v', w', hrun, r1, r2⟩ := run_app (ty := o.type) hown hl hr hk hb
  unfold Oper.wp
  simp [execOp, hop, resolve, invoke, builtin, hs, hx, hrun, Result.andThen]
  exact hK v' w' r1 r2

theorem own_shape {w : World} {base k : Nat} {v : Value} {xs : List Value} (h : w.ownsRow base 3 1 v k xs) : ∃ a c, v = .slice a k c := by
  rcases h.2 with ⟨rfl, h0⟩ | ⟨g, cap, cur, rfl, _⟩
  · exact ⟨none, 0, by rw [h0]⟩
  · exact ⟨_, cap, rfl⟩
theorem But.grown {S : List Nat} {a b c : World} {row : Option Nat} (h : But S a b) (hg : b.grownBy c row) (hr : ∀ k, row = some k → a.heap.size ≤ k) : But S a c :=
  ⟨hg.os.trans h.os, hg.tape.trans h.tape, hg.output.trans h.output, Nat.le_trans h.size hg.size, fun k hk hs =>
    (hg.block k (Nat.lt_of_lt_of_le hk h.size) (fun e => by have := hr k e.symm; omega)).trans (h.block k hk hs)⟩
theorem Reads.but {w w' : World} {sp : Option Addr} {c : Nat} {xs : List Int} (h : Reads w sp c xs) (hb : But [] w w') : Reads w' sp c xs :=
  h.imp id (fun ⟨ad, e, hc⟩ => ⟨ad, e, fun j x hx => hb.cell (hc j x hx)⟩)
theorem reads_one (w : World) (x : Int) : Reads (w.alloc (.cells #[.int .i64 x] 3)) (some ⟨w.heap.size, 0, none⟩) 1 [x] := by
  refine .inr ⟨_, rfl, fun j y hj => ?_⟩
  cases j with
  | zero =>
    simp at hj
    subst hj
    simp [Addr.add, go_sem]
  | succ j => simp at hj
theorem own_none (w : World) : (w.alloc (.cells #[] 3)).ownsRow w.heap.size 3 1 (.slice (some ⟨w.heap.size, 0, none⟩) 0 0) 0 (([] : List Int).map (Value.int .i64)) := by
  have := World.ownsRow_lit (base := w.heap.size) (e := 3) (size := 1) w #[] 0 (Nat.le_refl _) (Nat.zero_le _) rfl
  exact this
theorem own_one (w : World) (x : Int) : (w.alloc (.cells #[.int .i64 x] 3)).ownsRow w.heap.size 3 1 (.slice (some ⟨w.heap.size, 0, none⟩) 1 1) 1 ([x].map (Value.int .i64)) := by
  have := World.ownsRow_lit (base := w.heap.size) (e := 3) (size := 1) w #[.int .i64 x] 1 (Nat.le_refl _) (by unfold maxLen; omega) rfl
  exact this
/-- A slice's numbers, from its block's first cell on. -/
def IntsR (w : World) (a : Option Addr) (xs : List Int) : Prop := ∀ j x, xs[j]? = some x → ∃ g, a = some ⟨g, 0, none⟩ ∧ w.cell? ⟨g, j, none⟩ = some (.int .i64 x)
theorem RowI.open' {w : World} {base : Nat} {v : Value} {q : List Int} (h : RowI w base v q) : ∃ a c, v = .slice a q.length c ∧ IntsR w a q := by
  obtain ⟨a, c, e, _, _, _, hx⟩ := h.shape
  exact ⟨a, c, e, hx⟩

set_option maxHeartbeats 1000000 in
theorem ints_any (a b : Option Addr) (c d : Nat) (xs : List Int) (w : World) (hn : xs.length ≤ 4096) (ha : IntsR w a xs) (hb : IntsR w b xs) :
    Calls Try.prog 18 #[.slice a xs.length c, .slice b xs.length d] w fun e w' => e = .returned (.bool true) ∧ Below w.heap.size w w' := by
  go_enter Try.func18, Try.ntmps18
  go_wp2_with fail
  go_loopw [13, 5] (fun q _ wr => ∃ j : Nat, j ≤ xs.length ∧ q = .int .i64 j ∧ Drawn w wr) (fun q _ _ => 4096 - (intOf q).toNat)
  case atStart => exact ⟨0, by omega, rfl, Drawn.refl _⟩
  case round =>
    obtain ⟨j, hj, rfl, hB⟩ := hrel
    by_cases hlt : j < xs.length
    · obtain ⟨g1, rfl, hc1⟩ := ha j (xs[j]) (by simp)
      obtain ⟨g2, rfl, hc2⟩ := hb j (xs[j]) (by simp)
      generalize xs[j] = x at hc1 hc2
      replace hc1 := (Drawn.but (S := []) hB).cell hc1
      replace hc2 := (Drawn.but (S := []) hB).cell hc2
      have h1 : (j : Int) < (xs.length : Int) := by omega
      have h0 : (0 : Int) ≤ (j : Int) := by omega
      go_wp2_with fail
      go_quiet (fail)
      go_wp2_with fail
      go_roundw
      case rel => exact ⟨j + 1, by omega, by simp, hB.trans ⟨nq, rfl⟩⟩
      case measure =>
        simp [intOf]
        omega
    · obtain rfl : j = xs.length := by omega
      go_wp2_with fail
      go_ret
      exact ⟨rfl, (Drawn.but (S := []) hB).below (Nat.le_refl _) (by simp)⟩


theorem RowI.reads {w : World} {lo : Nat} {a : Option Addr} {c l : Nat} {q : List Int} (h : RowI w lo (.slice a l c) q) : Reads w a c q := by
  obtain ⟨a', c', e, _, _, hn, hx⟩ := h.shape
  simp only [Value.slice.injEq] at e
  obtain ⟨rfl, rfl, rfl⟩ := e
  cases a with
  | none =>
    refine .inl ⟨rfl, hn rfl, ?_⟩
    cases q with
    | nil => rfl
    | cons y t => obtain ⟨g, e, _⟩ := hx 0 y rfl; cases e
  | some ad =>
    refine .inr ⟨ad, rfl, fun j x hj => ?_⟩
    obtain ⟨g, e, hc⟩ := hx j x hj
    cases e
    rw [WideShapes.add_plain, Nat.zero_add]
    exact hc

theorem IntsR.below {w w' : World} {a : Option Addr} {xs : List Int} (h : IntsR w a xs) (hb : Below w.heap.size w w') : IntsR w' a xs := fun j x hx => by
  obtain ⟨g, e, hc⟩ := h j x hx
  exact ⟨g, e, cell_on hb hc⟩

theorem RowI.at {W : World} {base n : Nat} {a : Option Addr} {c : Nat} {xs : List Int} (h : RowI W base (.slice a n c) xs) : IntsR W a xs := by
  obtain ⟨a', c', e, hi⟩ := h.open'
  injection e with h1 h2 h3
  subst h1
  exact hi

theorem eql_s52 (a : Addr) (n c : Nat) (W : World) : Sem.run Try.prog (binOp .eql 52 (.slice (some a) n c) (.slice none 0 0)) W = .ok (.bool false) W := by kernel_rfl
theorem eql_n52 (W : World) : Sem.run Try.prog (binOp .eql 52 (.slice none 0 0) (.slice none 0 0)) W = .ok (.bool true) W := by kernel_rfl
theorem eql_s32 (a : Addr) (n c : Nat) (W : World) : Sem.run Try.prog (binOp .eql 32 (.slice (some a) n c) (.slice none 0 0)) W = .ok (.bool false) W := by kernel_rfl

theorem clone_int {W : World} {G c n : Nat} {zs : List Int} (h : Row W G 3 (zs.map (Value.int .i64))) (hl : zs.length = n) (h1 : 1 ≤ n) (hn : n ≤ 8192) :
    Calls Try.prog 41 #[.slice (some ⟨G, 0, none⟩) n c] W fun e w' => ∃ H d, e = .returned (.slice (some ⟨H, 0, none⟩) n d) ∧ Row w' H 3 (zs.map (Value.int .i64)) ∧ W.heap.size ≤ H ∧ Below W.heap.size W w' := by
  have OW := own_none W
  have HR : Reads (W.alloc (.cells #[] 3)) (some ⟨G, 0, none⟩) c zs := .inr ⟨_, rfl, fun j x hx => by
    rw [WideShapes.add_plain, Nat.zero_add]
    exact ((But.refl [] W).alloc _).cell (h.cell (by rw [List.getElem?_map, hx]; rfl))⟩
  have eq := eql_s32 ⟨G, 0, none⟩ n c
  go_enter Try.func41, Try.ntmps41
  go_wp2_with (first
    | (at_builtin; refine wpList_app rfl _ _ rfl W.heap.size _ 0 [] rfl OW _ _ _ zs rfl hl HR (by omega) (by simp) ?_; intro v2 w2 ho2 hg2; have hb2 : But [] W w2 := ((But.refl [] W).alloc _).grown hg2 (fun k e => by cases e; exact Nat.le_refl _)))
  go_ret
  rw [List.nil_append, Nat.zero_add] at ho2
  rcases ho2.2 with ⟨_, h0⟩ | ⟨g, cap, cur, rfl, hg, hc, h3, _, _, h6⟩
  · omega
  · refine ⟨g, cap, rfl, ⟨cur, hc, fun j v hv => ?_⟩, hg, hb2.to_below⟩
    have hj := (List.getElem?_eq_some_iff.1 hv).1
    rw [List.length_map, hl] at hj
    have : (cur.toList.take (n * 1))[j]? = (zs.map (Value.int .i64))[j]? := by rw [h6]
    rw [List.getElem?_take_of_lt (by omega), Array.getElem?_toList] at this
    rw [this]
    exact hv

theorem clone_thing {W : World} {v : Value} {xs : List Th} (h : W.ownsRow 0 60 2 v xs.length (flat xs)) (hn : xs.length ≤ 8192) :
    Calls Try.prog 39 #[v] W fun e w' => ∃ v', e = .returned v' ∧ w'.ownsRow 0 60 2 v' xs.length (flat xs) ∧ (∀ x, v'.ownBlock = some x → W.heap.size ≤ x) ∧ Below W.heap.size W w' := by
  rcases h.2 with ⟨rfl, h0⟩ | ⟨g, cap, cur, rfl, hg, hc, h3, h4, h5, h6⟩
  · have e : xs = [] := List.eq_nil_of_length_eq_zero h0
    subst e
    have eq := eql_n52
    go_enter Try.func39, Try.ntmps39
    go_wp2_with fail
    go_ret
    exact ⟨_, rfl, World.ownsRow_nil _ _ _ _, (fun x e => by cases e), Below.refl _ _⟩
  · have OW : (W.alloc (.cells #[] 60)).ownsRow 0 60 2 (.slice (some ⟨W.heap.size, 0, none⟩) 0 0) ([] : List Th).length (flat []) := World.ownsRow_lit (base := 0) (e := 60) (size := 2) W #[] 0 (Nat.zero_le _) (Nat.zero_le _) rfl
    have HR : ∀ j u, (flat xs)[j]? = some u → (W.alloc (.cells #[] 60)).cell? ((⟨g, 0, none⟩ : Addr).add j) = some u := fun j u hu => ((But.refl [] W).alloc _).cell (h.cells rfl j u hu)
    clear h h3 h4 h5 h6 hc
    have eq := eql_s52 ⟨g, 0, none⟩ xs.length cap
    go_enter Try.func39, Try.ntmps39
    go_wp2_with (first
      | (at_builtin; refine wpList_appT rfl _ _ rfl (.slice (some ⟨W.heap.size, 0, none⟩) 0 0) [] rfl OW _ _ _ xs rfl rfl HR (by simp; omega) ?_; intro v2 w2 ho2 hg2 hv2))
    go_ret
    rw [List.nil_append, List.length_nil, Nat.zero_add] at ho2
    refine ⟨v2, rfl, ho2, fun x hx => ?_, (((But.refl [] W).alloc _).grown hg2 (fun k e => by cases e; exact Nat.le_refl _)).to_below⟩
    rcases hv2 with e | e
    · rw [e] at hx
      cases hx
      exact Nat.le_refl _
    · rw [e] at hx
      cases hx
      simp

end Go.Proofs.Ytmogedfjhbfglaa
