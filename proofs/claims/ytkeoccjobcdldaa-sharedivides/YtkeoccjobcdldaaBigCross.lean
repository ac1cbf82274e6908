/- The contract of the reference's Cross. -/
import Derived.Test.YtkeoccjobcdldaaBigTimes
namespace Go.Proofs.Ytkeoccjobcdldaa.Big
open Go.RowKit
theorem big_int {a : Int} (ha0 : -9223372036854775808 ≤ a) (ha1 : a ≤ 9223372036854775807) : absI a < pw 1000 := by
  have h1 := abs_bd ha0 ha1
  have h2 := pw_le (show 4 ≤ 1000 by omega)
  rw [pw4] at h2
  omega
set_option maxHeartbeats 400000 in
theorem rcross_any (a b c d : Int) (w : World) (ha0 : -9223372036854775808 ≤ a) (ha1 : a ≤ 9223372036854775807) (hb0 : -9223372036854775808 ≤ b) (hb1 : b ≤ 9223372036854775807) (hc0 : -9223372036854775808 ≤ c) (hc1 : c ≤ 9223372036854775807) (hd0 : -9223372036854775808 ≤ d) (hd1 : d ≤ 9223372036854775807) :
    Calls Try.prog 14 #[.int .i64 a, .int .i64 b, .int .i64 c, .int .i64 d] w fun e w' => e = .returned (.int .i64 (cmpI (a * d) (c * b))) ∧ Below w.heap.size w w' := by
  go_enter Try.func14, Try.ntmps14
  go_wp2_with fail
  refine (of_any a _ ha0 ha1).mono ?_
  rintro e w1 ⟨x1, rfl, hx1, b1⟩
  go_wp2_with fail
  refine (of_any d _ hd0 hd1).mono ?_
  rintro e w2 ⟨x2, rfl, hx2, b2⟩
  have k2 := below2 b1 b1.size b2
  go_wp2_with fail
  refine (wtimes_any x1 x2 a d _ (hx1.below b2) hx2 (big_int ha0 ha1) (big_int hd0 hd1)).mono ?_
  rintro e w3 ⟨x3, rfl, hx3, b3⟩
  have k3 := below2 k2 k2.size b3
  go_wp2_with fail
  refine (of_any c _ hc0 hc1).mono ?_
  rintro e w4 ⟨x4, rfl, hx4, b4⟩
  have k4 := below2 k3 k3.size b4
  go_wp2_with fail
  refine (of_any b _ hb0 hb1).mono ?_
  rintro e w5 ⟨x5, rfl, hx5, b5⟩
  have k5 := below2 k4 k4.size b5
  go_wp2_with fail
  refine (wtimes_any x4 x5 c b _ (hx4.below b5) hx5 (big_int hc0 hc1) (big_int hb0 hb1)).mono ?_
  rintro e w6 ⟨x6, rfl, hx6, b6⟩
  have k6 := below2 k5 k5.size b6
  go_wp2_with fail
  refine (wcmp_any x3 x6 (a * d) (c * b) _ (((hx3.below b4).below b5).below b6) hx6).mono ?_
  rintro e w7 ⟨rfl, b7⟩
  have k7 := below2 k6 k6.size b7
  go_wp2_with fail
  go_ret
  exact ⟨rfl, k7⟩
end Go.Proofs.Ytkeoccjobcdldaa.Big
