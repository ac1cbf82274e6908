/- Contracts of the reference's Add, Sub, Mul, Cross, Near, Clamp and Gcd. -/
import Derived.Test.YtdfccjhmpgoacaaNTimes
namespace Go.Proofs.Ytdfccjhmpgoacaa.Big
open Go.RowKit

theorem big_int {a : Int} (ha0 : -9223372036854775808 ≤ a) (ha1 : a ≤ 9223372036854775807) : absI a < pw 1000 := by
  have h1 := abs_bd ha0 ha1
  have h2 := pw_le (show 4 ≤ 1000 by omega)
  rw [pw4] at h2
  omega
theorem pw9 : pw 9 = 22300745198530623141535718272648361505980416 := rfl
theorem big_of {V : Int} (h0 : -22300745198530623141535718272648361505980416 < V) (h1 : V < 22300745198530623141535718272648361505980416) : absI V < pw 1000 := by
  have h2 := pw_le (show 9 ≤ 1000 by omega)
  rw [pw9] at h2
  unfold absI; split <;> omega

set_option maxHeartbeats 400000 in
theorem radd_any (a b : Int) (w : World) (ha0 : -9223372036854775808 ≤ a) (ha1 : a ≤ 9223372036854775807) (hb0 : -9223372036854775808 ≤ b) (hb1 : b ≤ 9223372036854775807) :
    Calls Try.prog 9 #[.int .i64 a, .int .i64 b] w fun e w' => e = .returned (.tuple #[.int .i64 (toldI (a + b)), .bool (fitsB (a + b))]) ∧ Below w.heap.size w w' := by
  go_enter Try.func9, Try.ntmps9
  go_wp2_with fail
  refine (of_any a _ ha0 ha1).mono ?_
  rintro e w1 ⟨x1, rfl, hx1, b1⟩
  go_wp2_with fail
  refine (of_any b _ hb0 hb1).mono ?_
  rintro e w2 ⟨x2, rfl, hx2, b2⟩
  have k2 := below2 b1 b1.size b2
  go_wp2_with fail
  refine (wplus_any x1 x2 a b _ (hx1.below b2) hx2 (big_int ha0 ha1) (big_int hb0 hb1)).mono ?_
  rintro e w3 ⟨x3, rfl, hx3, b3⟩
  have k3 := below2 k2 k2.size b3
  go_wp2_with fail
  refine (told_any x3 (a + b) _ hx3).mono ?_
  rintro e w4 ⟨rfl, b4⟩
  have k4 := below2 k3 k3.size b4
  go_wp2_with fail
  go_ret2
  exact ⟨rfl, k4⟩

theorem rclamp_any (x l m : Int) (w : World) :
    Calls Try.prog 31 #[.int .i64 x, .int .i64 l, .int .i64 m] w fun e w' => e = .returned (.int .i64 (clampI x l m)) ∧ w' = w := by
  by_cases h1 : m < x
  · by_cases h2 : m < l
    · rw [show clampI x l m = l by unfold clampI; rw [if_neg (by omega), if_neg (by omega)]]
      go_enter Try.func31, Try.ntmps31
      go_wp2
      go_ret
      exact ⟨rfl, rfl⟩
    · rw [show clampI x l m = m by unfold clampI; rw [if_neg (by omega)]; split <;> omega]
      have h2' : decide (m < l) = false := by simpa using h2
      go_enter Try.func31, Try.ntmps31
      go_wp2
      go_ret
      exact ⟨rfl, rfl⟩
  · have h1' : decide (m < x) = false := by simpa using h1
    by_cases h2 : x < l
    · rw [show clampI x l m = l by unfold clampI; split <;> split <;> omega]
      clear h1
      go_enter Try.func31, Try.ntmps31
      go_wp2
      go_ret
      exact ⟨rfl, rfl⟩
    · rw [show clampI x l m = x by unfold clampI; split <;> split <;> omega]
      have h2' : decide (x < l) = false := by simpa using h2
      clear h1 h2
      go_enter Try.func31, Try.ntmps31
      go_wp2
      go_ret
      exact ⟨rfl, rfl⟩
end Go.Proofs.Ytdfccjhmpgoacaa.Big
