/- Next and When of a wheel at rest. -/
import Derived.Test.YtmjjghhlalaeiaaNext
import Derived.Test.YtmjjghhlalaeiaaAdd
namespace Go.Proofs.Ytmjjghhlalaeiaa
open Go.RowKit
section
variable {w : World} {T : Wp} {N n : Nat} {wh : List Nat}
theorem wnext_any (h : WQ w T N n wh) (hT : Tm n) :
    Calls Try.prog 15 #[.pointer (some ⟨T.B, 0, none⟩)] w fun e w' => e = .returned (.tuple #[.int .i64 (nextN wh : Nat), .bool (decide (nextN wh ≠ 0))]) ∧ Below w.heap.size w w' := by
  obtain ⟨us, ls, hm, hp⟩ := h.pair
  exact (callsIn_wide (n := 5)).1 (next_in hm hp h.2 hT)
theorem wwhen_any (h : WQ w T N n wh) (t : Int) :
    Calls Try.prog 17 #[.pointer (some ⟨T.B, 0, none⟩), .int .i64 t] w fun e w' => e = .returned (.tuple #[.int .i64 (if inN N t then (wt wh t.toNat : Nat) else 0), .bool (inN N t && decide (wt wh t.toNat ≠ 0))]) ∧ w' = w := by
  obtain ⟨us, ls, hm, hp⟩ := h.pair
  refine (when_any hm t).mono ?_
  rintro e w' ⟨rfl, hw⟩
  refine ⟨?_, hw⟩
  cases ht : inN N t with
  | false =>
    rw [WP.inB_out hm t ht]
    rfl
  | true =>
    rw [WP.inB hm hp t ht]
    obtain ⟨k, rfl, hk⟩ := inN_out ht
    rw [Int.toNat_natCast]
    by_cases h0 : wt wh k = 0
    · simp [h0]
    · have hu := hp.us k hk h0
      simp [h0, hu]
end
end Go.Proofs.Ytmjjghhlalaeiaa
