/- The contract of the reference's Sub. -/
import Derived.Test.YtmogedfjhbfglaaBigRefC
namespace Go.Proofs.Ytmogedfjhbfglaa.Big
open Go.RowKit
theorem big_int {a : Int} (ha0 : -9223372036854775808 ≤ a) (ha1 : a ≤ 9223372036854775807) : absI a < pw 1000 := by
  have h1 := abs_bd ha0 ha1
  have h2 := pw_le (show 4 ≤ 1000 by omega)
  rw [pw4] at h2
  omega
set_option maxHeartbeats 400000 in
theorem rsub_any (a b : Int) (w : World) (ha0 : -9223372036854775808 ≤ a) (ha1 : a ≤ 9223372036854775807) (hb0 : -9223372036854775808 ≤ b) (hb1 : b ≤ 9223372036854775807) :
    Calls Try.prog 44 #[.int .i64 a, .int .i64 b] w fun e w' => e = .returned (.tuple #[.int .i64 (toldI (a - b)), .bool (fitsB (a - b))]) ∧ Below w.heap.size w w' := by
  go_enter Try.func44, Try.ntmps44
  go_wp2_with fail
  refine (of_any a _ ha0 ha1).mono ?_
  rintro e w1 ⟨x1, rfl, hx1, b1⟩
  go_wp2_with fail
  refine (of_any b _ hb0 hb1).mono ?_
  rintro e w2 ⟨x2, rfl, hx2, b2⟩
  have k2 := below2 b1 b1.size b2
  go_wp2_with fail
  refine (wminus_any x2 b _ hx2).mono ?_
  rintro e w3 ⟨x3, rfl, hx3, b3⟩
  have k3 := below2 k2 k2.size b3
  go_wp2_with fail
  refine (wplus_any x1 x3 a (-b) _ ((hx1.below b2).below b3) hx3 (big_int ha0 ha1) (by rw [pw_abs_neg]; exact big_int hb0 hb1)).mono ?_
  rw [show a + -b = a - b by omega]
  rintro e w4 ⟨x4, rfl, hx4, b4⟩
  have k4 := below2 k3 k3.size b4
  go_wp2_with fail
  refine (told_any x4 (a - b) _ hx4).mono ?_
  rintro e w5 ⟨rfl, b5⟩
  have k5 := below2 k4 k4.size b5
  go_wp2_with fail
  go_ret2
  exact ⟨rfl, k5⟩
end Go.Proofs.Ytmogedfjhbfglaa.Big
