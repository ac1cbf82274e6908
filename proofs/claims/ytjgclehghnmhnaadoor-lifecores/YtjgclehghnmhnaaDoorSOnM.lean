/- What lives, by ids. -/
import Derived.Test.YtjgclehghnmhnaaDoorSAll
namespace Go.Proofs.YtjgclehghnmhnaaDoor
open Go.RowKit

/-- An id's parts. -/
theorem idI_parts {i a : Nat} (hi : i < 65536) (h1 : 1 ≤ a) (h2 : a ≤ 2147483647) : right (idI i a) ∧ ix (idI i a) = i ∧ idI i a / 65536 = (a : Int) := by
  have e : idI (i : Int) (a : Int) = (a : Int) * 65536 + i := by unfold idI; rw [if_pos (by omega)]
  rw [e]
  refine ⟨by omega, ?_, by omega⟩
  unfold ix
  omega

theorem known_of {ag : List Nat} {x : Int} {a : Nat} (hr : right x) (ha : ag[ix x]? = some a) (hl : x / 65536 ≤ (a : Int)) : knownB ag x = true := by
  unfold knownB
  rw [decide_eq_true hr, ha]
  simpa using hl
theorem live_of {ag : List Nat} {tk : List Bool} {x : Int} {a : Nat} (hr : right x) (ht : tk[ix x]? = some true) (ha : ag[ix x]? = some a) (hl : x / 65536 = (a : Int)) : liveB ag tk x = true := by
  unfold liveB
  rw [decide_eq_true hr, ha, ht]
  simpa using hl
theorem live_iff {ag : List Nat} {tk : List Bool} {x : Int} (h : liveB ag tk x = true) : right x ∧ tk[ix x]? = some true ∧ ∃ a, ag[ix x]? = some a ∧ x / 65536 = (a : Int) := by
  have hk := live_known h
  obtain ⟨hr, a, ha, _⟩ := known_iff hk
  unfold liveB at h
  rw [ha] at h
  simp only [Bool.and_eq_true, beq_iff_eq] at h
  exact ⟨hr, h.1.2, a, ha, h.2⟩

end Go.Proofs.YtjgclehghnmhnaaDoor
