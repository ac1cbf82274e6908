/- All, as who waits has it. -/
import Derived.Test.YtmjjghhlalaeiaaWall
namespace Go.Proofs.Ytmjjghhlalaeiaa
open Go.RowKit

/-- Who waits, by times, of one time by ids. -/
def ltW (wh : List Nat) (a b : Nat) : Bool := ltU (fun t => (wt wh t : Int)) a b
def allL (wh : List Nat) : List Nat := (waitL wh).mergeSort (fun a b => !ltW wh b a)
theorem ltW_tr {wh : List Nat} {a b c : Nat} (h1 : ltW wh b a = false) (h2 : ltW wh c b = false) : ltW wh c a = false := by
  unfold ltW ltU at *
  simp at *
  omega
theorem ltW_as {wh : List Nat} {a b : Nat} (h1 : ltW wh b a = false) (h2 : ltW wh a b = false) : a = b := by
  unfold ltW ltU at *
  simp at *
  omega
theorem allL_sorted (wh : List Nat) : (allL wh).Pairwise (fun a b => ltW wh b a = false) := by
  have := List.pairwise_mergeSort (le := fun a b => !ltW wh b a) (fun a b c h1 h2 => by simp at *; exact ltW_tr h1 h2) (fun a b => by
    unfold ltW ltU
    simp
    omega) (waitL wh)
  exact this.imp (fun h => by simpa using h)
theorem allL_perm (wh : List Nat) : (allL wh).Perm (waitL wh) := List.mergeSort_perm _ _
theorem allL_is {wh r : List Nat} (hp : r.Perm (waitL wh)) (hs : r.Pairwise (fun a b => ltW wh b a = false)) : r = allL wh :=
  List.Perm.eq_of_pairwise (le := fun a b => ltW wh b a = false) (fun _ _ _ _ h1 h2 => ltW_as h1 h2) hs (allL_sorted wh) (hp.trans (allL_perm wh).symm)
theorem allL_le (wh : List Nat) : (allL wh).length ≤ wh.length := by
  rw [(allL_perm wh).length_eq]
  exact waitL_le wh

theorem wall_any {w : World} {T : Wp} {N n : Nat} {wh : List Nat} (h : WQ w T N n wh) (hT : Tm n) :
    Calls Try.prog 19 #[.pointer (some ⟨T.B, 0, none⟩)] w fun e w' => ∃ v, e = .returned v ∧ RowI w' w.heap.size v (ints (allL wh)) ∧ Below w.heap.size w w' := by
  obtain ⟨us, ls, hm, hp⟩ := h.pair
  refine ((callsIn_wide (n := 5)).1 (wall_in hm hT)).mono ?_
  rintro e w' ⟨v, r, rfl, h1, h2, h3, h4⟩
  have hpm := h1.trans (cat_perm hm hp)
  have hu : ∀ t ∈ r, us.getD t 0 = (wt wh t : Int) := fun t ht => by
    have h0 := mem_waitL.1 (hpm.subset ht)
    have hN : t < N := h.1.tlt h0
    rw [List.getD_eq_getElem?_getD, hp.us t hN h0]
    rfl
  have : r = allL wh := allL_is hpm (h2.imp_of_mem (fun {a b} ha hb h => by
    have h' : decide (us.getD b 0 < us.getD a 0 ∨ us.getD b 0 = us.getD a 0 ∧ b < a) = false := h
    rw [hu a ha, hu b hb] at h'
    exact h'))
  rw [this] at h3
  exact ⟨v, rfl, h3, h4⟩

end Go.Proofs.Ytmjjghhlalaeiaa
