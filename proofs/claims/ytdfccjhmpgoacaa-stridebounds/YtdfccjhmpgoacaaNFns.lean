/- Contracts of num's own functions: Add, Sub, Mul, Div, Cross, Near, Clamp, Gcd. -/
import Derived.Test.YtdfccjhmpgoacaaNWide
namespace Go.Proofs.Ytdfccjhmpgoacaa.Big
open Go.RowKit

theorem add_any (a b : Int) (w : World) (ha0 : -9223372036854775808 ≤ a) (ha1 : a ≤ 9223372036854775807) (hb0 : -9223372036854775808 ≤ b) (hb1 : b ≤ 9223372036854775807) :
    Calls Try.prog 23 #[.int .i64 a, .int .i64 b] w fun e w' => e = .returned (.tuple #[.int .i64 (toldI (a + b)), .bool (fitsB (a + b))]) ∧ w' = w := by
  cases hf : fitsB (a + b)
  · rw [show toldI (a + b) = 0 by simp [toldI, hf]]
    have hf' : a + b < -9223372036854775808 ∨ 9223372036854775807 < a + b := by unfold fitsB at hf; simp at hf; omega
    clear hf
    rcases hf' with h | h
    · have h1 : b < 0 := by omega
      have h2 : a < -9223372036854775808 - b := by omega
      go_enter Try.func23, Try.ntmps23
      go_wp2
      go_ret2
      exact ⟨rfl, rfl⟩
    · have h1 : 0 < b := by omega
      have h2 : 9223372036854775807 - b < a := by omega
      go_enter Try.func23, Try.ntmps23
      go_wp2
      go_ret2
      exact ⟨rfl, rfl⟩
  · rw [show toldI (a + b) = a + b by simp [toldI, hf]]
    have hf0 : -9223372036854775808 ≤ a + b := by unfold fitsB at hf; simp at hf; omega
    have hf1 : a + b ≤ 9223372036854775807 := by unfold fitsB at hf; simp at hf; omega
    clear hf
    by_cases h : 0 < b
    · have h2 : ¬ 9223372036854775807 - b < a := by omega
      have h3 : ¬ b < 0 := by omega
      go_enter Try.func23, Try.ntmps23
      go_wp2
      go_ret2
      exact ⟨rfl, rfl⟩
    · by_cases h3 : b < 0
      · have h4 : ¬ a < -9223372036854775808 - b := by omega
        go_enter Try.func23, Try.ntmps23
        go_wp2
        go_ret2
        exact ⟨rfl, rfl⟩
      · go_enter Try.func23, Try.ntmps23
        go_wp2
        go_ret2
        exact ⟨rfl, rfl⟩

end Go.Proofs.Ytdfccjhmpgoacaa.Big
