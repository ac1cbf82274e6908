/- The walk of NumGcds. -/
import Derived.Test.YtlhiabfhokeihaaBackWalk
namespace Go.Proofs.Ytlhiabfhokeihaa
open Go.RowKit

theorem sat_small {a : Int} (h0 : 0 ≤ a) : satI a = a := by
  unfold satI; rw [if_neg (by omega), if_neg (by omega)]
theorem sat_dvd {a g : Int} (h : ¬ a = -9223372036854775808) (hd : g ∣ satI a) : g ∣ a := by
  unfold satI at hd
  rw [if_neg h] at hd
  split at hd
  · exact Int.dvd_neg.1 hd
  · exact hd
theorem gcd_le {x y : Int} (hx0 : 0 ≤ x) (hx : x ≤ 9223372036854775807) (hy0 : 0 ≤ y) (hy : y ≤ 9223372036854775807) : ((Int.gcd x y : Nat) : Int) ≤ 9223372036854775807 := by
  by_cases h : x = 0
  · subst h
    have e : Int.gcd 0 y = y.natAbs := Int.gcd_zero_left y
    rw [e]; omega
  · have h1 : Int.gcd x y ∣ x.natAbs := Nat.gcd_dvd_left _ _
    have h2 := Nat.le_of_dvd (by omega) h1
    omega
theorem gcd_seven {m : Int} (h : 0 ≤ m) : ((Int.gcd m (m * 7) : Nat) : Int) = m := by
  obtain ⟨n, rfl⟩ := Int.eq_ofNat_of_zero_le h
  have e : Int.gcd (n : Int) ((n : Int) * 7) = n := by
    show Nat.gcd n ((n : Int) * 7).natAbs = n
    rw [show ((n : Int) * 7).natAbs = n * 7 by omega]
    exact Nat.gcd_eq_left (Nat.dvd_mul_right n 7)
  rw [e]
theorem gcd_zero {a b : Int} (h : ((Int.gcd (satI a) (satI b) : Nat) : Int) = 0) (ha : ¬ a = -9223372036854775808) (hb : ¬ b = -9223372036854775808) : a = 0 ∧ b = 0 := by
  have h1 : Int.gcd (satI a) (satI b) = 0 := by omega
  obtain ⟨h2, h3⟩ := Int.gcd_eq_zero_iff.1 h1
  unfold satI at h2 h3
  rw [if_neg ha] at h2
  rw [if_neg hb] at h3
  constructor
  · split at h2 <;> omega
  · split at h3 <;> omega

set_option maxHeartbeats 1000000 in
theorem gcd_walk (a b k : Int) (w : World) (ha0 : -9223372036854775808 ≤ a) (ha1 : a ≤ 9223372036854775807) (hb0 : -9223372036854775808 ≤ b) (hb1 : b ≤ 9223372036854775807) (hk0 : 0 ≤ k) (hk1 : k ≤ 65535) :
    Calls Try.prog 8 #[.int .i64 a, .int .i64 b, .int .u16 k] w fun e w' => e = .returned (.bool true) ∧ Below w.heap.size w w' := by
  have hsa := sat_bd ha0 ha1
  have hsb := sat_bd hb0 hb1
  have hg1 := gcd_le hsa.1 hsa.2 hsb.1 hsb.2
  have hzz := @gcd_zero a b
  have hda : ¬ a = -9223372036854775808 → ((Int.gcd (satI a) (satI b) : Nat) : Int) ∣ a := fun h => sat_dvd h (Int.gcd_dvd_left _ _)
  have hdb : ¬ b = -9223372036854775808 → ((Int.gcd (satI a) (satI b) : Nat) : Int) ∣ b := fun h => sat_dvd h (Int.gcd_dvd_right _ _)
  have hg0 : 0 ≤ ((Int.gcd (satI a) (satI b) : Nat) : Int) := by omega
  obtain ⟨g, HG⟩ : ∃ g : Int, Hid (((Int.gcd (satI a) (satI b) : Nat) : Int) = g) := ⟨_, rfl⟩
  have HG2 : Hid (((Int.gcd (satI b) (satI a) : Nat) : Int) = g) := by unfold Hid; rw [Int.gcd_comm]; exact HG.out
  rw [HG.out] at hg0 hg1 hda hdb hzz
  clear hsa hsb
  have H7 : Hid (((Int.gcd (satI (k + 1)) (satI ((k + 1) * 7)) : Nat) : Int) = k + 1) := by
    unfold Hid; rw [sat_small (by omega), sat_small (by omega)]; exact gcd_seven (by omega)
  have HZ : Hid (g = 0 → ¬ a = -9223372036854775808 → ¬ b = -9223372036854775808 → a = 0 ∧ b = 0) := hzz
  have HDA : Hid (¬ a = -9223372036854775808 → g ∣ a) := hda
  have HDB : Hid (¬ b = -9223372036854775808 → g ∣ b) := hdb
  clear hzz hda hdb
  go_enter Try.func8, Try.ntmps8
  go_wp2_with fail
  refine (gcd_any a b _ ha0 ha1 hb0 hb1).mono ?_
  rw [HG.out]
  rintro e w1 ⟨rfl, k1⟩
  have m1 := k1.size
  go_wp2_with fail
  refine (gcd_any b a _ hb0 hb1 ha0 ha1).mono ?_
  rw [HG2.out]
  rintro e w2 ⟨rfl, h2⟩
  have k2 := below2 k1 m1 h2
  have m2 := k2.size
  clear h2 k1 m1 w1
  have hgl : decide (g < 0) = false := by simp; omega
  by_cases hm : a = -9223372036854775808 ∨ b = -9223372036854775808
  · rcases hm with hm | hm
    · have hm' : (a == -9223372036854775808) = true := by simpa using hm
      clear hm
      go_wp2_with fail
      refine (lives_any _).mono ?_
      rintro e w3 ⟨rfl, h3⟩
      go_wp2_with fail
      go_ret
      exact ⟨rfl, below2 k2 m2 h3⟩
    · have hm' : (b == -9223372036854775808) = true := by simpa using hm
      clear hm
      go_wp2_with fail
      all_goals
        refine (lives_any _).mono ?_
        rintro e w3 ⟨rfl, h3⟩
        go_wp2_with fail
        go_ret
        exact ⟨rfl, below2 k2 m2 h3⟩
  · have hma : (a == -9223372036854775808) = false := by simp; omega
    have hmb : (b == -9223372036854775808) = false := by simp; omega
    by_cases hz : g = 0
    · obtain ⟨h1, h2⟩ := HZ.out hz (by omega) (by omega)
      have h1' : (a == 0) = true := by simpa using h1
      have h2' : (b == 0) = true := by simpa using h2
      have hz' : (g == 0) = true := by simpa using hz
      clear hm h1 h2 hz
      go_wp2_with fail
      refine (lives_any _).mono ?_
      rintro e w3 ⟨rfl, h3⟩
      go_wp2_with fail
      go_ret
      exact ⟨rfl, below2 k2 m2 h3⟩
    · have hz' : (g == 0) = false := by simpa using hz
      have hra : a.tmod g = 0 := Int.tmod_eq_zero_of_dvd (HDA.out (by omega))
      have hrb : b.tmod g = 0 := Int.tmod_eq_zero_of_dvd (HDB.out (by omega))
      clear hm
      go_wp2_with fail
      refine (gcd_any (k + 1) ((k + 1) * 7) _ (by omega) (by omega) (by omega) (by omega)).mono ?_
      rw [H7.out]
      rintro e w3 ⟨rfl, h3⟩
      have k3 := below2 k2 m2 h3
      have m3 := k3.size
      go_wp2_with fail
      refine (lives_any _).mono ?_
      rintro e w4 ⟨rfl, h4⟩
      go_wp2_with fail
      go_ret
      exact ⟨rfl, below2 k3 m3 h4⟩
end Go.Proofs.Ytlhiabfhokeihaa
