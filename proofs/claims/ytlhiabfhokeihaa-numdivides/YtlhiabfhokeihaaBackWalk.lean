/- The walk of NumBack. -/
import Derived.Test.YtlhiabfhokeihaaMulDivB
namespace Go.Proofs.Ytlhiabfhokeihaa
open Go.RowKit

theorem told_fits {V : Int} (h : fitsB V = true) : toldI V = V := by simp [toldI, h]
theorem told_not {V : Int} (h : fitsB V = false) : toldI V = 0 := by simp [toldI, h]
theorem fits_mk {V : Int} (h0 : -9223372036854775808 ≤ V) (h1 : V ≤ 9223372036854775807) : fitsB V = true := by unfold fitsB; simp; omega
theorem fits_bd {V : Int} (h : fitsB V = true) : -9223372036854775808 ≤ V ∧ V ≤ 9223372036854775807 := by unfold fitsB at h; simpa using h
theorem wrap_back {q b r a : Int} (h : q * b + r = a) (h0 : -9223372036854775808 ≤ a) (h1 : a ≤ 9223372036854775807) : (wrap64 (wrap64 (q * b) + r) == a) = true := by
  simp only [beq_iff_eq]; unfold wrap64; omega

set_option maxHeartbeats 1000000 in
theorem back_walk (a b : Int) (w : World) (ha0 : -9223372036854775808 ≤ a) (ha1 : a ≤ 9223372036854775807) (hb0 : -9223372036854775808 ≤ b) (hb1 : b ≤ 9223372036854775807) :
    Calls Try.prog 6 #[.int .i64 a, .int .i64 b] w fun e w' => e = .returned (.bool true) ∧ Below w.heap.size w w' := by
  cases hf : fitsB (a + b)
  · by_cases hd : b = 0 ∨ a = -9223372036854775808 ∧ b = -1
    · go_enter Try.func6, Try.ntmps6
      go_wp2_with fail
      refine (add_any a b _ ha0 ha1 hb0 hb1).mono ?_
      rw [told_not hf, hf]
      rintro e w1 ⟨rfl, hw1⟩
      rw [hw1]
      clear hw1 w1
      go_wp2_with fail
      refine (div_no a b _ hd).mono ?_
      rintro e w1 ⟨rfl, hw1⟩
      rw [hw1]
      clear hw1 w1
      go_wp2_with fail
      all_goals
        refine (lives_any _).mono ?_
        rintro e w2 ⟨rfl, h2⟩
        go_wp2_with fail
        go_ret
        exact ⟨rfl, h2⟩
    · go_enter Try.func6, Try.ntmps6
      go_wp2_with fail
      refine (add_any a b _ ha0 ha1 hb0 hb1).mono ?_
      rw [told_not hf, hf]
      rintro e w1 ⟨rfl, hw1⟩
      rw [hw1]
      clear hw1 w1
      go_wp2_with fail
      refine (div_yes a b _ ha0 ha1 hb0 hb1 (by omega) (by omega)).mono ?_
      rintro e w1 ⟨q, r, rfl, ⟨hq, hr⟩, k1⟩
      have m1 := k1.size
      have hw := wrap_back hq ha0 ha1
      clear hq
      rcases hr with ⟨hr1, hr2, hr3⟩ | ⟨hr1, hr2, hr3⟩
      · go_wp2_with fail
        refine (lives_any _).mono ?_
        rintro e w2 ⟨rfl, h2⟩
        go_wp2_with fail
        go_ret
        exact ⟨rfl, below2 k1 m1 h2⟩
      · have hr4 : decide (0 < b) = false := by simp; omega
        go_wp2_with fail
        refine (lives_any _).mono ?_
        rintro e w2 ⟨rfl, h2⟩
        go_wp2_with fail
        go_ret
        exact ⟨rfl, below2 k1 m1 h2⟩
  · by_cases hd : b = 0 ∨ a = -9223372036854775808 ∧ b = -1
    · have hs := fits_bd hf
      have HS : Hid (toldI (a + b - b) = a) := by unfold Hid; rw [show a + b - b = a by omega, told_fits (fits_mk ha0 ha1)]
      have HS2 : Hid (fitsB (a + b - b) = true) := by unfold Hid; rw [show a + b - b = a by omega]; exact fits_mk ha0 ha1
      go_enter Try.func6, Try.ntmps6
      go_wp2_with fail
      refine (add_any a b _ ha0 ha1 hb0 hb1).mono ?_
      rw [told_fits hf, hf]
      rintro e w1 ⟨rfl, hw1⟩
      rw [hw1]
      clear hw1 w1
      go_wp2_with fail
      refine (sub_any (a + b) b _ hs.1 hs.2 hb0 hb1).mono ?_
      rw [HS.out, HS2.out]
      rintro e w1 ⟨rfl, hw1⟩
      rw [hw1]
      clear hw1 w1
      go_wp2_with fail
      refine (div_no a b _ hd).mono ?_
      rintro e w1 ⟨rfl, hw1⟩
      rw [hw1]
      clear hw1 w1
      go_wp2_with fail
      all_goals
        refine (lives_any _).mono ?_
        rintro e w2 ⟨rfl, h2⟩
        go_wp2_with fail
        go_ret
        exact ⟨rfl, h2⟩
    · have hs := fits_bd hf
      have HS : Hid (toldI (a + b - b) = a) := by unfold Hid; rw [show a + b - b = a by omega, told_fits (fits_mk ha0 ha1)]
      have HS2 : Hid (fitsB (a + b - b) = true) := by unfold Hid; rw [show a + b - b = a by omega]; exact fits_mk ha0 ha1
      go_enter Try.func6, Try.ntmps6
      go_wp2_with fail
      refine (add_any a b _ ha0 ha1 hb0 hb1).mono ?_
      rw [told_fits hf, hf]
      rintro e w1 ⟨rfl, hw1⟩
      rw [hw1]
      clear hw1 w1
      go_wp2_with fail
      refine (sub_any (a + b) b _ hs.1 hs.2 hb0 hb1).mono ?_
      rw [HS.out, HS2.out]
      rintro e w1 ⟨rfl, hw1⟩
      rw [hw1]
      clear hw1 w1
      go_wp2_with fail
      refine (div_yes a b _ ha0 ha1 hb0 hb1 (by omega) (by omega)).mono ?_
      rintro e w1 ⟨q, r, rfl, ⟨hq, hr⟩, k1⟩
      have m1 := k1.size
      have hw := wrap_back hq ha0 ha1
      clear hq
      rcases hr with ⟨hr1, hr2, hr3⟩ | ⟨hr1, hr2, hr3⟩
      · go_wp2_with fail
        refine (lives_any _).mono ?_
        rintro e w2 ⟨rfl, h2⟩
        go_wp2_with fail
        go_ret
        exact ⟨rfl, below2 k1 m1 h2⟩
      · have hr4 : decide (0 < b) = false := by simp; omega
        go_wp2_with fail
        refine (lives_any _).mono ?_
        rintro e w2 ⟨rfl, h2⟩
        go_wp2_with fail
        go_ret
        exact ⟨rfl, below2 k1 m1 h2⟩
end Go.Proofs.Ytlhiabfhokeihaa
