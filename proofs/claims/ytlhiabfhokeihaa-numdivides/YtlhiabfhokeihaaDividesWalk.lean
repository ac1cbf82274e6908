/- The walk of NumDivides. -/
import Derived.Test.YtlhiabfhokeihaaPartA
namespace Go.Proofs.Ytlhiabfhokeihaa
open Go.RowKit

theorem both_div (a b : Int) (ha0 : -9223372036854775808 ≤ a) (ha1 : a ≤ 9223372036854775807) (hb0 : -9223372036854775808 ≤ b) (hb1 : b ≤ 9223372036854775807) :
    ∃ (q r : Int) (ok : Bool), (∀ W, Calls Try.prog 16 #[.int .i64 a, .int .i64 b] W fun e w' => e = .returned (.tuple #[.int .i64 q, .int .i64 r, .bool ok]) ∧ Below W.heap.size W w') ∧ (∀ W, Calls Try.prog 17 #[.int .i64 a, .int .i64 b] W fun e w' => e = .returned (.tuple #[.int .i64 q, .int .i64 r, .bool ok]) ∧ Below W.heap.size W w') := by
  by_cases h : b = 0 ∨ a = -9223372036854775808 ∧ b = -1
  · refine ⟨0, 0, false, fun W => (div_no a b W h).mono ?_, fun W => rdiv_no a b W h⟩
    rintro e w' ⟨rfl, rfl⟩
    exact ⟨rfl, Below.refl _ _⟩
  · have hb : ¬ b = 0 := fun h' => h (Or.inl h')
    have hn : ¬ (a = -9223372036854775808 ∧ b = -1) := fun h' => h (Or.inr h')
    obtain ⟨Q, R, hQR⟩ : ∃ Q R, DivOf a b Q R := ⟨_, _, part_div hb⟩
    refine ⟨Q, R, true, fun W => (div_yes a b W ha0 ha1 hb0 hb1 hb hn).mono ?_, fun W => (rdiv_yes a b W ha0 ha1 hb0 hb1 hb hn).mono ?_⟩
    · rintro e w' ⟨q, r, rfl, hD, h3⟩
      obtain ⟨rfl, rfl⟩ := divof_uniq hD hQR
      exact ⟨rfl, h3⟩
    · rintro e w' ⟨q, r, hD, rfl, h3⟩
      obtain ⟨rfl, rfl⟩ := divof_uniq hD hQR
      exact ⟨rfl, h3⟩

theorem both_muldiv (a b c : Int) (ha0 : -9223372036854775808 ≤ a) (ha1 : a ≤ 9223372036854775807) (hb0 : -9223372036854775808 ≤ b) (hb1 : b ≤ 9223372036854775807) (hc1 : c ≤ 9223372036854775807) :
    ∃ (n : Int) (ok : Bool), (∀ W, Calls Try.prog 18 #[.int .i64 a, .int .i64 b, .int .i64 c] W fun e w' => e = .returned (.tuple #[.int .i64 n, .bool ok]) ∧ Below W.heap.size W w') ∧ (∀ W, Calls Try.prog 19 #[.int .i64 a, .int .i64 b, .int .i64 c] W fun e w' => e = .returned (.tuple #[.int .i64 n, .bool ok]) ∧ Below W.heap.size W w') := by
  by_cases h : c < 1
  · refine ⟨0, false, fun W => (muldiv_no a b c W h).mono ?_, fun W => rmuldiv_no a b c W h⟩
    rintro e w' ⟨rfl, rfl⟩
    exact ⟨rfl, Below.refl _ _⟩
  · exact ⟨_, _, fun W => muldiv_any a b c W ha0 ha1 hb0 hb1 (by omega) hc1, fun W => rmuldiv_any a b c W ha0 ha1 hb0 hb1 (by omega) hc1⟩

set_option maxHeartbeats 1000000 in
theorem divides_walk (a b c : Int) (w : World) (ha0 : -9223372036854775808 ≤ a) (ha1 : a ≤ 9223372036854775807) (hb0 : -9223372036854775808 ≤ b) (hb1 : b ≤ 9223372036854775807) (_hc0 : -9223372036854775808 ≤ c) (hc1 : c ≤ 9223372036854775807) :
    Calls Try.prog 4 #[.int .i64 a, .int .i64 b, .int .i64 c] w fun e w' => e = .returned (.bool true) ∧ Below w.heap.size w w' := by
  obtain ⟨q, r, ok, D, RD⟩ := both_div a b ha0 ha1 hb0 hb1
  obtain ⟨n, can, M, RM⟩ := both_muldiv a b c ha0 ha1 hb0 hb1 hc1
  have HD := Hid.mk D
  have HRD := Hid.mk RD
  have HM := Hid.mk M
  have HRM := Hid.mk RM
  clear D RD M RM
  go_enter Try.func4, Try.ntmps4
  go_wp2_with fail
  refine (HD.out _).mono ?_
  rintro e w1 ⟨rfl, k1⟩
  go_wp2_with fail
  refine (HRD.out _).mono ?_
  rintro e w2 ⟨rfl, b2⟩
  have k2 := below2 k1 k1.size b2
  go_wp2_with fail
  refine (HM.out _).mono ?_
  rintro e w3 ⟨rfl, b3⟩
  have k3 := below2 k2 k2.size b3
  go_wp2_with fail
  refine (HRM.out _).mono ?_
  rintro e w4 ⟨rfl, b4⟩
  have k4 := below2 k3 k3.size b4
  go_wp2_with fail
  refine (lives_any _).mono ?_
  rintro e w5 ⟨rfl, b5⟩
  have k5 := below2 k4 k4.size b5
  go_wp2_with fail
  go_ret
  exact ⟨rfl, k5⟩
end Go.Proofs.Ytlhiabfhokeihaa
