/- StrideTurns: how its rows are laid. -/
import Derived.Test.YtdfccjhmpgoacaaStTnM
import Derived.Test.YtdfccjhmpgoacaaStShW
import Derived.Test.YtdfccjhmpgoacaaStHold
import Derived.Deep.CutRange
import Derived.Deep.RegionWith
namespace Go.Proofs.Ytdfccjhmpgoacaa.Str
open Go.RowKit Go.Proofs.Ytdfccjhmpgoacaa.Big

theorem heap3 (w : World) (o1 o2 o3 : Obj) : (((w.alloc o1).alloc o2).alloc o3).heap[w.heap.size]? = some o1 ∧ (((w.alloc o1).alloc o2).alloc o3).heap[w.heap.size + 1]? = some o2 ∧ (((w.alloc o1).alloc o2).alloc o3).heap[w.heap.size + 1 + 1]? = some o3 ∧ Below w.heap.size w (((w.alloc o1).alloc o2).alloc o3) := by
  have e2 := heap_alloc_new (w.alloc o1) o2
  have e3 := heap_alloc_new ((w.alloc o1).alloc o2) o3
  simp only [World.size_alloc] at e2 e3
  refine ⟨?_, ?_, e3, (((Below.refl _ w).alloc (Nat.le_refl _) _).alloc (by simp) _).alloc (by simp; omega) _⟩
  · rw [Below.heap_alloc _ _ _ (by simp; omega), Below.heap_alloc _ _ _ (by simp), heap_alloc_new]
  · rw [Below.heap_alloc _ _ _ (by simp), e2]
/-- Three new rows of noughts. -/
theorem Tn.made (w : World) (m : Nat) {W : World} (hW : W = (((w.alloc (.cells (madeCells #[.int .i64 0] m) 3)).alloc (.cells (madeCells #[.int .i64 0] m) 3)).alloc (.cells (madeCells #[.int .i64 0] m) 3)).drew) {a b c : Nat}
    (ha : a = w.heap.size ∨ a = w.heap.size + 1 ∨ a = w.heap.size + 1 + 1) (hb : b = w.heap.size ∨ b = w.heap.size + 1 ∨ b = w.heap.size + 1 + 1) (hc : c = w.heap.size ∨ c = w.heap.size + 1 ∨ c = w.heap.size + 1 + 1) (d1 : a ≠ b) (d2 : a ≠ c) (d3 : b ≠ c) :
    Tn w a b c m (fun _ => 0) (fun _ => 0) (fun _ => 0) W := by
  subst hW
  obtain ⟨e1, e2, e3, k⟩ := heap3 w (.cells (madeCells #[.int .i64 0] m) 3) (.cells (madeCells #[.int .i64 0] m) 3) (.cells (madeCells #[.int .i64 0] m) 3)
  have r : ∀ x, (x = w.heap.size ∨ x = w.heap.size + 1 ∨ x = w.heap.size + 1 + 1) → Row (((w.alloc (.cells (madeCells #[.int .i64 0] m) 3)).alloc (.cells (madeCells #[.int .i64 0] m) 3)).alloc (.cells (madeCells #[.int .i64 0] m) 3)).drew x 3 (lst m (fun _ => 0)) := fun x hx => by
    rw [lst_zero]
    rcases hx with rfl | rfl | rfl
    · exact row_made e1
    · exact row_made e2
    · exact row_made e3
  exact ⟨k.drew, r a ha, r b hb, r c hc, by omega, by omega, by omega, d1, d2, d3⟩
theorem bnd_small {T : List Int} (hg : allB T = true) (hn : T.length ≤ 8) {i : Nat} (hi : i < T.length) : bndI T i ≤ 524304 := by
  have h : oneB T i = true := one_iff.2 ⟨⟨by omega, by omega, by omega⟩, hg⟩
  rw [show bndI T i = sumG (oftI (strI (ix T (i : Int).toNat))) T T.length from if_pos h]
  have hs := str_bd (ix T (i : Int).toNat)
  have := (sum_bd (g := oftI (strI (ix T (i : Int).toNat))) (xs := T) (K := 65538) (fun j hj => by have := oft_bd hs.1 hs.2 (all_ix hg hj); unfold oftI; omega) T.length (Nat.le_refl _)).2
  have : (T.length : Int) * 65538 ≤ 8 * 65538 := by omega
  omega
theorem ahead_least {p : Nat → Nat} {j b : Nat} (h : ∀ i, i < j → p b ≤ p i) : if aheadB (p j : Int) (j : Int) (p b : Int) (b : Int) = true then ∀ i, i < j + 1 → p j ≤ p i else ∀ i, i < j + 1 → p b ≤ p i := by
  split
  · rename_i e
    unfold aheadB at e
    simp at e
    intro i hi
    by_cases e2 : i = j
    · rw [e2]; exact Nat.le_refl _
    · have := h i (by omega)
      omega
  · rename_i e
    unfold aheadB at e
    simp at e
    intro i hi
    by_cases e2 : i = j
    · rw [e2]; omega
    · exact h i (by omega)
/-- Just that world. -/
def IsW (V W : World) : Prop := W = V
theorem below_drewN (w : World) (k : Nat) : Below w.heap.size w (w.drewN k) := ⟨rfl, rfl, rfl, Nat.le_refl _, fun _ _ => rfl⟩
theorem below_drew (w : World) : Below w.heap.size w w.drew := (Below.refl _ _).drew
theorem RowI.ixc {w : World} {base : Nat} {v : Value} {q : List Int} (h : RowI w base v q) : ∃ a c, q.length ≤ c ∧ c ≤ maxLen ∧ v = .slice a q.length c ∧ IX w a q := by
  obtain ⟨a, c, e, h1, h2, _, hx⟩ := h.shape
  refine ⟨a, c, h1, h2, e, fun j hj => ?_⟩
  obtain ⟨g, e1, h1⟩ := hx j _ (ix_get hj)
  exact ⟨g, 0, e1, by rw [Nat.zero_add]; exact h1⟩
end Go.Proofs.Ytdfccjhmpgoacaa.Str
