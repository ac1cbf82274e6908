/- Contracts of num's own functions: Add, Sub, Mul, Div, Cross, Near, Clamp, Gcd. -/
import Derived.Test.YtlhiabfhokeihaaWide
namespace Go.Proofs.Ytlhiabfhokeihaa
open Go.RowKit

theorem add_any (a b : Int) (w : World) (ha0 : -9223372036854775808 ≤ a) (ha1 : a ≤ 9223372036854775807) (hb0 : -9223372036854775808 ≤ b) (hb1 : b ≤ 9223372036854775807) :
    Calls Try.prog 9 #[.int .i64 a, .int .i64 b] w fun e w' => e = .returned (.tuple #[.int .i64 (toldI (a + b)), .bool (fitsB (a + b))]) ∧ w' = w := by
  cases hf : fitsB (a + b)
  · rw [show toldI (a + b) = 0 by simp [toldI, hf]]
    have hf' : a + b < -9223372036854775808 ∨ 9223372036854775807 < a + b := by unfold fitsB at hf; simp at hf; omega
    clear hf
    rcases hf' with h | h
    · have h1 : b < 0 := by omega
      have h2 : a < -9223372036854775808 - b := by omega
      go_enter Try.func9, Try.ntmps9
      go_wp2
      go_ret2
      exact ⟨rfl, rfl⟩
    · have h1 : 0 < b := by omega
      have h2 : 9223372036854775807 - b < a := by omega
      go_enter Try.func9, Try.ntmps9
      go_wp2
      go_ret2
      exact ⟨rfl, rfl⟩
  · rw [show toldI (a + b) = a + b by simp [toldI, hf]]
    have hf0 : -9223372036854775808 ≤ a + b := by unfold fitsB at hf; simp at hf; omega
    have hf1 : a + b ≤ 9223372036854775807 := by unfold fitsB at hf; simp at hf; omega
    clear hf
    by_cases h : 0 < b
    · have h2 : ¬ 9223372036854775807 - b < a := by omega
      have h3 : ¬ b < 0 := by omega
      go_enter Try.func9, Try.ntmps9
      go_wp2
      go_ret2
      exact ⟨rfl, rfl⟩
    · by_cases h3 : b < 0
      · have h4 : ¬ a < -9223372036854775808 - b := by omega
        go_enter Try.func9, Try.ntmps9
        go_wp2
        go_ret2
        exact ⟨rfl, rfl⟩
      · go_enter Try.func9, Try.ntmps9
        go_wp2
        go_ret2
        exact ⟨rfl, rfl⟩

theorem sub_any (a b : Int) (w : World) (ha0 : -9223372036854775808 ≤ a) (ha1 : a ≤ 9223372036854775807) (hb0 : -9223372036854775808 ≤ b) (hb1 : b ≤ 9223372036854775807) :
    Calls Try.prog 11 #[.int .i64 a, .int .i64 b] w fun e w' => e = .returned (.tuple #[.int .i64 (toldI (a - b)), .bool (fitsB (a - b))]) ∧ w' = w := by
  cases hf : fitsB (a - b)
  · rw [show toldI (a - b) = 0 by simp [toldI, hf]]
    have hf' : a - b < -9223372036854775808 ∨ 9223372036854775807 < a - b := by unfold fitsB at hf; simp at hf; omega
    clear hf
    rcases hf' with h | h
    · have h1 : 0 < b := by omega
      have h2 : a < -9223372036854775808 + b := by omega
      go_enter Try.func11, Try.ntmps11
      go_wp2
      go_ret2
      exact ⟨rfl, rfl⟩
    · have h1 : b < 0 := by omega
      have h2 : 9223372036854775807 + b < a := by omega
      go_enter Try.func11, Try.ntmps11
      go_wp2
      go_ret2
      exact ⟨rfl, rfl⟩
  · rw [show toldI (a - b) = a - b by simp [toldI, hf]]
    have hf0 : -9223372036854775808 ≤ a - b := by unfold fitsB at hf; simp at hf; omega
    have hf1 : a - b ≤ 9223372036854775807 := by unfold fitsB at hf; simp at hf; omega
    clear hf
    by_cases h : 0 < b
    · have h2 : ¬ a < -9223372036854775808 + b := by omega
      have h3 : ¬ b < 0 := by omega
      go_enter Try.func11, Try.ntmps11
      go_wp2
      go_ret2
      exact ⟨rfl, rfl⟩
    · by_cases h3 : b < 0
      · have h4 : ¬ 9223372036854775807 + b < a := by omega
        go_enter Try.func11, Try.ntmps11
        go_wp2
        go_ret2
        exact ⟨rfl, rfl⟩
      · go_enter Try.func11, Try.ntmps11
        go_wp2
        go_ret2
        exact ⟨rfl, rfl⟩

theorem mul_any (a b : Int) (w : World) (ha0 : -9223372036854775808 ≤ a) (ha1 : a ≤ 9223372036854775807) (hb0 : -9223372036854775808 ≤ b) (hb1 : b ≤ 9223372036854775807) :
    Calls Try.prog 13 #[.int .i64 a, .int .i64 b] w fun e w' => e = .returned (.tuple #[.int .i64 (toldI (a * b)), .bool (fitsB (a * b))]) ∧ Below w.heap.size w w' := by
  go_enter Try.func13, Try.ntmps13
  go_wp2_with fail
  refine (times_any a b _ ha0 ha1 hb0 hb1).mono ?_
  rintro e w1 ⟨rfl, hb⟩
  go_wp2_with fail
  refine (whole_any (a * b) _).mono ?_
  rintro e w2 ⟨rfl, hb2⟩
  go_wp2_with fail
  go_ret2
  exact ⟨rfl, hb.trans (hb2.mono hb.size)⟩

theorem cross_any (a b c d : Int) (w : World) (ha0 : -9223372036854775808 ≤ a) (ha1 : a ≤ 9223372036854775807) (hb0 : -9223372036854775808 ≤ b) (hb1 : b ≤ 9223372036854775807) (hc0 : -9223372036854775808 ≤ c) (hc1 : c ≤ 9223372036854775807) (hd0 : -9223372036854775808 ≤ d) (hd1 : d ≤ 9223372036854775807) :
    Calls Try.prog 20 #[.int .i64 a, .int .i64 b, .int .i64 c, .int .i64 d] w fun e w' => e = .returned (.int .i64 (cmpI (a * d) (c * b))) ∧ Below w.heap.size w w' := by
  go_enter Try.func20, Try.ntmps20
  go_wp2_with fail
  refine (times_any a d _ ha0 ha1 hd0 hd1).mono ?_
  rintro e w1 ⟨rfl, h1⟩
  go_wp2_with fail
  refine (times_any c b _ hc0 hc1 hb0 hb1).mono ?_
  rintro e w2 ⟨rfl, h2⟩
  go_wp2_with fail
  refine (compare_any (a * d) (c * b) _).mono ?_
  rintro e w3 ⟨rfl, h3⟩
  go_wp2_with fail
  go_ret
  exact ⟨rfl, (h1.trans (h2.mono h1.size)).trans (h3.mono (Nat.le_trans h1.size h2.size))⟩

end Go.Proofs.Ytlhiabfhokeihaa
