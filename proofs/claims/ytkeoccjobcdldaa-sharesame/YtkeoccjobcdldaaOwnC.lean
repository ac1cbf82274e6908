/- Rows of claims that the call made: appends to them, a weight that is written. -/
import Derived.Test.YtkeoccjobcdldaaUse
import Derived.Test.YtkeoccjobcdldaaSameM
import Derived.Maps.AppendAt
import Derived.Deep.RegionLaw
namespace Go.Proofs.Ytkeoccjobcdldaa
open Go.RowKit

theorem mid_of {α : Type} {xs : List α} {i : Nat} {p : α} (h : xs[i]? = some p) : ∃ u v, xs = u ++ p :: v ∧ u.length = i ∧ ∀ r, xs.set i r = u ++ r :: v := by
  obtain ⟨hi, e⟩ := List.getElem?_eq_some_iff.1 h
  have e1 : xs = xs.take i ++ p :: xs.drop (i + 1) := by
    rw [← e, ← List.drop_eq_getElem_cons hi, List.take_append_drop]
  have hl : (xs.take i).length = i := by rw [List.length_take]; omega
  refine ⟨xs.take i, xs.drop (i + 1), e1, hl, fun r => ?_⟩
  rw [List.set_eq_take_append_cons_drop, if_pos hi]

/-- Claims as cells. -/
def flatC (xs : List (Int × Int)) : List Value := xs.flatMap (fun p => [.int .i64 p.1, .int .i64 p.2])
theorem flatC_cons (p : Int × Int) (xs : List (Int × Int)) : flatC (p :: xs) = .int .i64 p.1 :: .int .i64 p.2 :: flatC xs := rfl
theorem flatC_app (xs ys : List (Int × Int)) : flatC (xs ++ ys) = flatC xs ++ flatC ys := by simp [flatC]
theorem flatC_len : ∀ xs : List (Int × Int), (flatC xs).length = xs.length * 2
  | [] => rfl
  | p :: xs => by
    rw [flatC_cons, List.length_cons, List.length_cons, flatC_len xs, List.length_cons]
    omega
theorem flatC_0 {xs : List (Int × Int)} {i : Nat} {p : Int × Int} (h : xs[i]? = some p) : (flatC xs)[i * 2]? = some (.int .i64 p.1) := by
  obtain ⟨u, v, e, hu, _⟩ := mid_of h
  rw [e, flatC_app, flatC_cons, List.getElem?_append_right (by rw [flatC_len]; omega), flatC_len, hu]
  simp
theorem flatC_1 {xs : List (Int × Int)} {i : Nat} {p : Int × Int} (h : xs[i]? = some p) : (flatC xs)[i * 2 + 1]? = some (.int .i64 p.2) := by
  obtain ⟨u, v, e, hu, _⟩ := mid_of h
  rw [e, flatC_app, flatC_cons, List.getElem?_append_right (by rw [flatC_len]; omega), flatC_len, hu]
  simp
theorem flatC_set0 {xs : List (Int × Int)} {i : Nat} {p : Int × Int} (k : Int) (h : xs[i]? = some p) : flatC (xs.set i (k, p.2)) = (flatC xs).set (i * 2) (.int .i64 k) := by
  obtain ⟨u, v, e, hu, hs⟩ := mid_of h
  rw [hs, e, flatC_app, flatC_cons, flatC_app, flatC_cons]
  have hl : (flatC u).length = i * 2 := by rw [flatC_len, hu]
  rw [List.set_append_right _ _ (by omega), hl]
  simp

/-- A slice of claims that the call made. -/
def OC (w : World) (B : Nat) (v : Value) (cs : List (Int × Int)) : Prop := w.ownsRow B 30 2 v cs.length (flatC cs)
theorem OC.cl {w : World} {B : Nat} {v : Value} {cs : List (Int × Int)} (h : OC w B v cs) : ∃ a c, v = .slice a cs.length c ∧ CL w a cs := by
  have h' := h
  rcases h.2 with ⟨rfl, h0⟩ | ⟨g, cap, cur, rfl, hg, hb, hc, hm, _⟩
  · exact ⟨none, 0, by rw [h0], fun j hj => by omega⟩
  · refine ⟨_, cap, rfl, fun j hj => ⟨g, 0, rfl, ?_, ?_⟩⟩
    · have := World.ownsRow.cellAt h' (j * 2) (by omega)
      rw [Nat.zero_add, this]
      exact flatC_0 (cl_get hj)
    · have := World.ownsRow.cellAt h' (j * 2 + 1) (by omega)
      rw [Nat.zero_add, this]
      exact flatC_1 (cl_get hj)
theorem OC.below {w w' : World} {B : Nat} {v : Value} {cs : List (Int × Int)} (h : OC w B v cs) (hb : Below w.heap.size w w') : OC w' B v cs :=
  ownsRow_put h (fun k hk => hb.block k (World.ownsRow.lt h k hk).2)
theorem OC.form {w : World} {B : Nat} {v : Value} {cs : List (Int × Int)} (h : OC w B v cs) (hn : 0 < cs.length) : ∃ g cap, v = .slice (some ⟨g, 0, none⟩) cs.length cap ∧ B ≤ g := by
  rcases h.2 with ⟨rfl, h0⟩ | ⟨g, cap, cur, rfl, hg, _⟩
  · omega
  · exact ⟨g, cap, rfl, hg⟩

theorem info30 : (Try.prog.info? 30).map (fun i => (i.zero, i.size, i.bytes)) = some (some (.agg #[.int .i64 0, .int .i64 0]), 2, 16) := by kernel_rfl

/-- Claims that can be read from there. -/
def Src (w : World) (sp : Option Addr) (c : Nat) (news : List (Int × Int)) : Prop := (sp = none ∧ c = 0 ∧ news = []) ∨ ∃ ad, sp = some ad ∧ ∀ j u, (flatC news)[j]? = some u → w.cell? (ad.add j) = some u
theorem Src.of_cl {w : World} {sp : Option Addr} {c : Nat} {ls : List (Int × Int)} (h : CL w sp ls) (hc : sp = none → c = 0) : Src w sp c ls := by
  cases sp with
  | none =>
    refine .inl ⟨rfl, hc rfl, ?_⟩
    by_cases h0 : ls.length = 0
    · exact List.eq_nil_of_length_eq_zero h0
    · obtain ⟨b, o, e, _⟩ := h 0 (by omega)
      cases e
  | some ad =>
    refine .inr ⟨ad, rfl, fun j u hu => ?_⟩
    have hj := (List.getElem?_eq_some_iff.1 hu).1
    rw [flatC_len] at hj
    obtain ⟨q, hq, hm⟩ : ∃ q, q < ls.length ∧ (j = q * 2 ∨ j = q * 2 + 1) := ⟨j / 2, by omega, by omega⟩
    obtain ⟨b, o, e, c0, c1⟩ := h q hq
    cases e
    rw [WideShapes.add_plain]
    rcases hm with rfl | rfl
    · rw [flatC_0 (cl_get hq)] at hu
      cases hu
      exact c0
    · rw [flatC_1 (cl_get hq)] at hu
      cases hu
      exact c1
theorem Src.below {w w' : World} {sp : Option Addr} {c : Nat} {ls : List (Int × Int)} (h : Src w sp c ls) (hb : Below w.heap.size w w') : Src w' sp c ls :=
  h.imp id (fun ⟨ad, e, hc⟩ => ⟨ad, e, fun j x hx => cell_on hb (hc j x hx)⟩)

theorem run_appC {w : World} {B : Nat} {v : Value} {xs : List (Int × Int)} {ty : TypeId} (hown : OC w B v xs) {sp : Option Addr} {m c : Nat} {news : List (Int × Int)} (hl : news.length = m) (hr : Src w sp c news)
    (hk : xs.length + m ≤ 100000) (hb : B ≤ w.heap.size) :
    ∃ v' w', (Builtin.append_ #[22, 22] ty #[v, .slice sp m c]).run Try.prog w = .ok v' w' ∧ OC w' B v' (xs ++ news) ∧ w.grownBy w' v.ownBlock := by
  obtain ⟨i0, hi, hz0, hz1, hz2⟩ := info_parts info30
  rcases hr with ⟨rfl, rfl, rfl⟩ | ⟨ad, rfl, hc⟩
  · obtain rfl : m = 0 := by simpa using hl.symm
    refine ⟨v, w, run_append_owned_none w B 22 ty 30 i0 2 Try.underlying22 hi v _ _ hown, by simpa using hown, ⟨rfl, rfl, rfl, Nat.le_refl _, fun _ _ _ => rfl⟩⟩
  · obtain ⟨v', w', h1, h2, h3, _, h5⟩ := run_append_own_at (P := Try.prog) w B 22 ty 30 i0 (.agg #[.int .i64 0, .int .i64 0]) 2 16 Try.underlying22 hi hz0 hz1 hz2 rfl (by decide) v _ _ hown ad m c (flatC news) (by rw [flatC_len, hl]) hc
      (fun u hu => by unfold flatC at hu; obtain ⟨x, _, hx⟩ := List.mem_flatMap.1 hu; simp at hx; rcases hx with rfl | rfl <;> rfl) (by unfold maxLen; omega) (by omega) hb
    refine ⟨v', w', h1, ?_, h3⟩
    unfold OC
    rw [flatC_app, List.length_append, hl]
    exact h2

theorem wpList_appC {w : World} {ops : Array Oper} {rest : List Oper} {o : Oper} {a : Act} {Q : Exit → Act → World → Prop} (hg : o.guard = none) (s x : Operand) (hop : o.op = Op.call { callee := Callee.builtin Builtin.append, args := #[s, x], argTypes := #[22, 22] })
    (B : Nat) (v : Value) (xs : List (Int × Int)) (hs : a.eval s = v) (hown : OC w B v xs) (sp : Option Addr) (m c : Nat) (news : List (Int × Int)) (hx : a.eval x = .slice sp m c) (hl : news.length = m) (hr : Src w sp c news)
    (hk : xs.length + m ≤ 100000) (hb : B ≤ w.heap.size)
    (hK : ∀ v' w', OC w' B v' (xs ++ news) → w.grownBy w' v.ownBlock → wpList Try.prog ops Q rest (a.put o.dst v') w') :
    wpList Try.prog ops Q (o :: rest) a w := by
  refine wpList_plain hg fun K hK' => ?_
  obtain ⟨v', w', hrun, r1, r2⟩ := run_appC (ty := o.type) hown hl hr hk hb
  unfold Oper.wp execOp
  simp only [hop, resolve, invoke, builtin, Sem.run_bind, Sem.run_pure, Result.andThen_ok, List.map_toArray, List.map_cons, List.map_nil, hs, hx, hrun]
  exact hK' _ _ (hK v' w' r1 r2)

/-- What is grown turns no block below the row's. -/
theorem below_grown {B : Nat} {w W w1 : World} {v : Value} {xs : List (Int × Int)} (h : Below B w W) (hg : W.grownBy w1 v.ownBlock) (ho : OC W B v xs) (hB : B ≤ W.heap.size) : Below B w w1 :=
  h.trans ⟨hg.os, hg.tape, hg.output, hg.size, fun k hk => hg.block k (by omega) (fun e => by have := (World.ownsRow.lt ho k e.symm).1; omega)⟩
theorem oc_none (w : World) (B : Nat) (hB : B ≤ w.heap.size) : OC (w.alloc (.cells #[] 30)) B (.slice (some ⟨w.heap.size, 0, none⟩) 0 0) [] :=
  World.ownsRow_lit (base := B) (e := 30) (size := 2) w #[] 0 hB (Nat.zero_le _) rfl
theorem src_one (w : World) (p q : Int) : Src (w.alloc (.cells #[.int .i64 p, .int .i64 q] 30)) (some ⟨w.heap.size, 0, none⟩) 1 [(p, q)] := by
  refine .inr ⟨_, rfl, fun j y hj => ?_⟩
  match j, hj with
  | 0, hj =>
    simp [flatC] at hj
    subst hj
    simp [Addr.add, go_sem]
  | 1, hj =>
    simp [flatC] at hj
    subst hj
    simp [Addr.add, go_sem]
  | j + 2, hj => simp [flatC] at hj
theorem OC.set {w : World} {B g n cap i : Nat} {cs : List (Int × Int)} {p : Int × Int} (h : OC w B (.slice (some ⟨g, 0, none⟩) n cap) cs) (hn : cs.length = n) (hp : cs[i]? = some p) (k : Int) :
    OC (w.setCell ⟨g, i * 2, none⟩ (.int .i64 k)) B (.slice (some ⟨g, 0, none⟩) n cap) (cs.set i (k, p.2)) := by
  subst hn
  have h1 := (World.ownsRow.stored h (i * 2) (.int .i64 k)).1
  unfold OC
  rw [flatC_set0 k hp, List.length_set]
  exact h1
/-- Ints that lie beyond the row are kept where it grows. -/
theorem ix_grown {W W0 w1 : World} {B : Nat} {v : Value} {cs : List (Int × Int)} {a : Option Addr} {xs : List Int} (h : IX W a xs) (hg : W.grownBy w1 v.ownBlock) (ho : OC W0 B v cs) (hn : ∀ b o, a = some ⟨b, o, none⟩ → W0.heap.size ≤ b) : IX w1 a xs := fun j hj => by
  obtain ⟨b, o, e, h0⟩ := h j hj
  refine ⟨b, o, e, ?_⟩
  have hb := hn b o e
  exact (World.cell?_of_block (hg.block b (World.block_lt_of_cell? W _ h0) (fun e => by have := (World.ownsRow.lt ho b e.symm).2; omega))).trans h0
theorem OC.at0 {w : World} {B g n cap i : Nat} {cs : List (Int × Int)} {p : Int × Int} (h : OC w B (.slice (some ⟨g, 0, none⟩) n cap) cs) (hn : cs.length = n) (hp : cs[i]? = some p) : w.cell? ⟨g, i * 2, none⟩ = some (.int .i64 p.1) := by
  subst hn
  have hj := (List.getElem?_eq_some_iff.1 hp).1
  rw [World.ownsRow.cellAt h (i * 2) (by omega)]
  exact flatC_0 hp
theorem OC.fz {w : World} {B g n cap : Nat} {cs : List (Int × Int)} (h : OC w B (.slice (some ⟨g, 0, none⟩) n cap) cs) (hn : cs.length = n) (j : Nat) : w.frozen? ⟨g, j, none⟩ = false := by
  subst hn
  exact World.ownsRow.frozenAt h j
end Go.Proofs.Ytkeoccjobcdldaa
