/- Rows of rows of ints; contract of Skip. -/
import Derived.Test.YtmjjghhlalaeiaaLives
namespace Go.Proofs.Ytmjjghhlalaeiaa
open Go.RowKit

/-- What so many ticks wake, those alone that wake some; and who waits then. -/
def skW : Nat → Nat → List Nat → List (List Nat)
  | 0, _, _ => []
  | k + 1, n, wh => (if wakeL (n + 1) wh = [] then [] else [wakeL (n + 1) wh]) ++ skW k (n + 1) (wakeS (n + 1) wh)
def skS : Nat → Nat → List Nat → List Nat
  | 0, _, wh => wh
  | k + 1, n, wh => skS k (n + 1) (wakeS (n + 1) wh)
theorem skW_len : ∀ (k n : Nat) (wh : List Nat), (skW k n wh).length ≤ k
  | 0, _, _ => by simp [skW]
  | k + 1, n, wh => by
    have := skW_len k (n + 1) (wakeS (n + 1) wh)
    unfold skW
    split <;> simp <;> omega
theorem skS_len : ∀ (k n : Nat) (wh : List Nat), (skS k n wh).length = wh.length
  | 0, _, _ => rfl
  | k + 1, n, wh => by
    unfold skS
    rw [skS_len k, wakeS_len]

/-- A row of the call's own, whose elements are rows of its own. -/
def RowLL (w : World) (base : Nat) (v : Value) (L : List (List Nat)) : Prop := ∃ vs : List Value, w.ownsRow base 32 1 v L.length vs ∧ vs.length = L.length ∧ ∀ (j : Nat) (u : Value) (x : List Nat), vs[j]? = some u → L[j]? = some x → RowI w base u (ints x)

section
variable {w w' : World} {base : Nat} {v u : Value} {L : List (List Nat)} {x : List Nat}
theorem own_but {e s k : Nat} {xs : List Value} {S : List Nat} (h : w.ownsRow base e s v k xs) (hb : But S w w') (hS : ∀ x ∈ S, x < base) : w'.ownsRow base e s v k xs := by
  refine ⟨h.1, ?_⟩
  rcases h.2 with h | ⟨g, cap, cur, h1, h2, h3, h4⟩
  · exact .inl h
  · exact .inr ⟨g, cap, cur, h1, h2, (hb.block g (Array.getElem?_eq_some_iff.1 h3).1 (fun e => by have := hS g e; omega)).trans h3, h4⟩
theorem RowLL.but {S : List Nat} (h : RowLL w base v L) (hb : But S w w') (hS : ∀ x ∈ S, x < base) : RowLL w' base v L := by
  obtain ⟨vs, h1, h2, h3⟩ := h
  exact ⟨vs, own_but h1 hb hS, h2, fun j u x hu hx => (h3 j u x hu hx).but hb hS⟩
theorem RowLL.nil (w : World) (base : Nat) : RowLL w base (.slice none 0 0) [] := ⟨[], World.ownsRow_nil w base 32 1, rfl, fun j u x hu => by simp at hu⟩
theorem RowLL.shape (h : RowLL w base v L) : ∃ a c, v = .slice a L.length c := by
  obtain ⟨vs, h1, h2, h3⟩ := h
  rcases h1.2 with ⟨rfl, h0⟩ | ⟨g, cap, cur, rfl, _⟩
  · exact ⟨none, 0, by rw [h0]⟩
  · exact ⟨_, cap, rfl⟩
/-- An inner row is kept where the outer one grows. -/
theorem RowI.grown {q : List Int} {o : Option Nat} (h : RowI w base u q) (hg : w.grownBy w' o) (ho : ∀ g, o = some g → ∃ cur, w.heap[g]? = some (.cells cur 32 (0, 0))) : RowI w' base u q := by
  refine ⟨h.1, ?_⟩
  rcases h.2 with h | ⟨g, cap, cur, h1, h2, h3, h4⟩
  · exact .inl h
  · refine .inr ⟨g, cap, cur, h1, h2, (hg.block g (Array.getElem?_eq_some_iff.1 h3).1 (fun e => ?_)).trans h3, h4⟩
    obtain ⟨cur', h'⟩ := ho g e.symm
    rw [h3] at h'
    simp at h'
theorem own_at {k : Nat} {xs : List Value} (h : w.ownsRow base 32 1 v k xs) : ∀ g, v.ownBlock = some g → ∃ cur, w.heap[g]? = some (.cells cur 32 (0, 0)) := by
  intro g hg
  rcases h.2 with ⟨rfl, _⟩ | ⟨g', cap, cur, rfl, h2, h3, h4⟩
  · simp [Value.ownBlock] at hg
  · simp [Value.ownBlock] at hg
    subst hg
    exact ⟨cur, h3⟩
theorem own_alloc {e s k : Nat} {xs : List Value} (h : w.ownsRow base e s v k xs) (o : Obj) : (w.alloc o).ownsRow base e s v k xs := by
  refine ⟨h.1, ?_⟩
  rcases h.2 with h | ⟨g, cap, cur, h1, h2, h3, h4⟩
  · exact .inl h
  · exact .inr ⟨g, cap, cur, h1, h2, (Below.heap_alloc _ _ _ (Array.getElem?_eq_some_iff.1 h3).1).trans h3, h4⟩
theorem RowLL.snoc {vs : List Value} {o : Obj} {v' : Value} (h1 : w.ownsRow base 32 1 v L.length vs) (h2 : vs.length = L.length) (h3 : ∀ (j : Nat) (u : Value) (x : List Nat), vs[j]? = some u → L[j]? = some x → RowI w base u (ints x)) (hu : RowI w base u (ints x))
    (hown : w'.ownsRow base 32 1 v' (L.length + 1) (vs ++ [u])) (hg : (w.alloc o).grownBy w' v.ownBlock) : RowLL w' base v' (L ++ [x]) := by
  have hk : ∀ {q : List Int} {r : Value}, RowI w base r q → RowI w' base r q := fun h => RowI.grown (own_alloc h o) hg (own_at (own_alloc h1 o))
  refine ⟨vs ++ [u], by rw [List.length_append]; exact hown, by simp [h2], fun j r y hr hy => ?_⟩
  rcases Nat.lt_or_ge j L.length with hj | hj
  · rw [List.getElem?_append_left (by omega)] at hr
    rw [List.getElem?_append_left hj] at hy
    exact hk (h3 j r y hr hy)
  · rw [List.getElem?_append_right (by omega)] at hr
    rw [List.getElem?_append_right hj] at hy
    rw [h2] at hr
    cases e : j - L.length with
    | zero =>
      rw [e] at hr hy
      simp at hr hy
      subst hr hy
      exact hk hu
    | succ i =>
      rw [e] at hr
      simp at hr
end

theorem info32 : (Try.prog.info? 32).map (fun i => (i.zero, i.size, i.bytes)) = some (some (.slice none 0 0), 1, 24) := by kernel_rfl

/-- An append of one row to a row of rows. -/
theorem wpList_appL {w : World} {ops : Array Oper} {rest : List Oper} {o : Oper} {a : Act} {Q : Exit → Act → World → Prop} (hg : o.guard = none) (s x : Operand) (hop : o.op = Op.call { callee := Callee.builtin Builtin.append, args := #[s, x], argTypes := #[43, 43] })
    (base : Nat) (v : Value) (L : List (List Nat)) (hs : a.eval s = v) (h : RowLL w base v L) (u : Value) (xs : List Nat) (hu : RowI w base u (ints xs)) (hu1 : u.oneCell' = true) (hx : a.eval x = .slice (some ⟨w.heap.size, 0, none⟩) 1 1)
    (hk : L.length ≤ 200000) (hb : base ≤ w.heap.size)
    (hK : ∀ v' w', RowLL w' base v' (L ++ [xs]) → Below base w w' → wpList Try.prog ops Q rest (a.put o.dst v') w') :
    wpList Try.prog ops Q (o :: rest) a (w.alloc (.cells #[u] 32)) := by
  obtain ⟨i0, hi, hz0, hz1, hz2⟩ := info_parts info32
  obtain ⟨vs, h1, h2, h3⟩ := h
  refine wpList_append_own _ hg s x 43 hop base 32 i0 (.slice none 0 0) 1 24 Try.underlying43 hi hz0 hz1 hz2 rfl (by decide) v L.length vs hs (own_alloc h1 _) ⟨w.heap.size, 0, none⟩ 1 1 [u] hx rfl (cell_one_new _ _ _) (fun r hr => by simp at hr; subst hr; exact hu1) (by unfold maxLen; omega) (by omega) (by simp; omega) ?_
  intro v' w' hown hgr _
  refine hK v' w' (RowLL.snoc h1 h2 h3 hu hown hgr) ?_
  have hB0 : Below base w (w.alloc (.cells #[u] 32)) := (Below.refl base w).alloc hb _
  exact hB0.grown hgr (by simp; omega) (fun k e => (h1.lt k e).1)

/-- How many ticks Skip does. -/
def skN (k : Int) : Nat := if 100000 < k then 100000 else k.toNat

section
variable {w : World} {T : Wp} {N n : Nat} {wh : List Nat}
set_option maxRecDepth 100000 in
set_option maxHeartbeats 4000000 in
theorem skip_any (h : WQ w T N n wh) (k : Int) (hT : Tm (n + 100000)) :
    Calls Try.prog 20 #[.pointer (some ⟨T.B, 0, none⟩), .int .i64 k] w fun e w' => ∃ v, e = .returned v ∧ RowLL w' w.heap.size v (skW (skN k) n wh) ∧ WQ w' T N (n + skN k) (skS (skN k) n wh) ∧ But T.S w w' := by
  obtain ⟨i0, hi, hz0, hz1, hz2⟩ := info_parts info32
  obtain ⟨us, ls, hm, hp⟩ := h.pair
  have HM := wmade_any hm
  have hlt0 : ∀ x ∈ T.S, x < w.heap.size := fun x hx => hm.lt hx
  have hK : skN k ≤ 100000 := by unfold skN; split <;> omega
  have hKv : min (max k 0) 100000 = (skN k : Int) := by unfold skN; split <;> omega
  clear hm hp
  go_enter Try.func20, Try.ntmps20
  go_wp2_with (first
    | (go_at_call 31; refine HM.mono ?_; rintro e w' ⟨rfl, hw⟩; subst w'))
  clear hKv HM
  go_loopw [5, 13] (fun p q wr => ∃ (j : Nat) (L : List (List Nat)) (wj : List Nat), j ≤ skN k ∧ L.length ≤ j ∧ q = .int .i64 j ∧ RowLL wr w.heap.size p L ∧ WQ wr T N (n + j) wj ∧ L ++ skW (skN k - j) (n + j) wj = skW (skN k) n wh ∧ skS (skN k - j) (n + j) wj = skS (skN k) n wh ∧ But T.S w wr) (fun _ q _ => 100000 - (intOf q).toNat)
  case atStart => exact ⟨0, [], wh, by omega, by simp, rfl, RowLL.nil _ _, h, rfl, rfl, But.refl _ _⟩
  case round =>
    obtain ⟨j, L, wj, hj, hLl, rfl, hr, hQ, hW, hS, hB⟩ := hrel
    by_cases hlt : j < skN k
    · have hlt' : (j : Int) < (skN k : Int) := by omega
      have hTj : Tm (n + j + 1) := by unfold Tm at hT ⊢; omega
      have HT := tick_any hQ hTj
      obtain ⟨m, hm⟩ : ∃ m, skN k - j = m + 1 := ⟨skN k - j - 1, by omega⟩
      have hm' : skN k - (j + 1) = m := by omega
      rw [hm] at hW hS
      simp only [skW, skS] at hW hS
      rw [← List.append_assoc] at hW
      have hl4 : (wakeL (n + j + 1) wj).length ≤ 4096 := by
        have h1 := List.length_filter_le (fun t => wt wj t == n + j + 1) (List.range wj.length)
        have h2 := hQ.len
        have h3 := hQ.sizes
        unfold wakeL
        rw [List.length_range] at h1
        omega
      obtain ⟨pa, pc, rfl⟩ := hr.shape
      have hsj : w.heap.size ≤ wr.heap.size := hB.size
      by_cases hw0 : wakeL (n + j + 1) wj = []
      · rw [hw0, if_pos rfl, List.append_nil] at hW
        rw [hw0] at HT
        clear hQ
        go_wp2_with (first
          | (go_at_call 22; refine HT.mono ?_; rintro e w2 ⟨v2, rfl, r2, h2, b2⟩; obtain ⟨va, vc, rfl, -⟩ := r2.open'; rw [show (ints []).length = 0 from rfl]))
        go_roundw
        case rel =>
          exact ⟨j + 1, L, _, by omega, by omega, by simp, hr.but b2 hlt0, h2, by rw [hm']; exact hW, by rw [hm']; exact hS, hB.trans b2⟩
        case measure =>
          simp [intOf]
          omega
      · rw [if_neg hw0] at hW
        have hpos : 0 < (wakeL (n + j + 1) wj).length := List.length_pos_iff.2 hw0
        generalize hwk : wakeL (n + j + 1) wj = wk at *
        have hpos' : (0 : Int) < (wk.length : Int) := by omega
        clear hQ hwk hw0
        go_wp2_with (first
          | (go_at_call 22; refine HT.mono ?_; rintro e w2 ⟨v2, rfl, r2, h2, b2⟩; obtain ⟨va, vc, rfl, -⟩ := r2.open'; rw [ints_len] at r2 ⊢)
          | (at_builtin; refine wpList_appL rfl _ _ rfl w.heap.size _ L rfl (hr.but b2 hlt0) _ wk (row_lower r2 hsj) rfl rfl (by omega) (by have := b2.size; omega) ?_; intro v3 w3 ho3 hb3; obtain ⟨oa, oc, rfl⟩ := ho3.shape))
        go_roundw
        case rel =>
          have h3' := But.of_from hb3
          have ho3' : RowLL w3 w.heap.size (.slice oa (L.length + 1) oc) (L ++ [wk]) := by rw [List.length_append] at ho3; exact ho3
          exact ⟨j + 1, L ++ [wk], _, by omega, by simp; omega, by simp, ho3', h2.but h3' (fun x hx => But.from_not (hlt0 x hx)), by rw [hm']; exact hW, by rw [hm']; exact hS, (hB.trans b2).trans_new h3' (fun x hx => .inr (List.mem_range'_1.1 hx).1)⟩
        case measure =>
          simp [intOf]
          omega
    · obtain rfl : j = skN k := by omega
      rw [Nat.sub_self] at hW hS
      simp only [skW, skS, List.append_nil] at hW hS
      subst hW hS
      go_wp2_with fail
      go_ret
      exact ⟨_, rfl, hr, hQ, hB⟩
end
end Go.Proofs.Ytmjjghhlalaeiaa
