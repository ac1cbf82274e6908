/- Contracts of the reference's Gcd and Near. -/
import Derived.Test.YtlhiabfhokeihaaRefD
import Derived.Deep.CutRange
namespace Go.Proofs.Ytlhiabfhokeihaa
open Go.RowKit

/-- From numbers not below 0 on: the loop of the reference's Gcd. -/
theorem gcd_zero_right' {p : Int} (h : 0 ≤ p) : ((Int.gcd p 0 : Nat) : Int) = p := by simp; omega

set_option maxHeartbeats 1000000 in
theorem rgcd_any (a b : Int) (w : World) (ha0 : -9223372036854775808 ≤ a) (ha1 : a ≤ 9223372036854775807) (hb0 : -9223372036854775808 ≤ b) (hb1 : b ≤ 9223372036854775807) :
    Calls Try.prog 27 #[.int .i64 a, .int .i64 b] w fun e w' => e = .returned (.int .i64 (Int.gcd (satI a) (satI b))) ∧ Below w.heap.size w w' := by
  obtain ⟨sa0, sa1⟩ := sat_bd ha0 ha1
  obtain ⟨sb0, sb1⟩ := sat_bd hb0 hb1
  go_enter Try.func27, Try.ntmps27
  go_upto_if 6 with fail
  go_cut [0] from 5 to 12 (fun x wx => x = .int .i64 (satI a) ∧ wx = w)
  case first =>
    by_cases h : a < 0
    · by_cases hm : a = -9223372036854775808
      · have HS : Hid (satI a = 9223372036854775807) := by unfold Hid satI; rw [if_pos hm]
        subst hm
        go_wp2
        go_meet
        case rel => exact ⟨by rw [HS.out], rfl⟩
      · have hm' : (a == -9223372036854775808) = false := by simpa using hm
        have HS : Hid (satI a = -a) := by unfold Hid satI; rw [if_neg hm, if_pos h]
        have hlo : -9223372036854775807 ≤ a := by omega
        clear hm
        go_wp2
        go_meet
        case rel => exact ⟨by rw [HS.out], rfl⟩
    · have h' : decide (a < 0) = false := by simpa using h
      have HS : Hid (satI a = a) := by unfold Hid satI; rw [if_neg (by omega), if_neg h]
      clear h
      rw [h']
      go_wp2
      go_meet
      case rel => exact ⟨by rw [HS.out], rfl⟩
  case rest =>
    obtain ⟨rfl, hwc⟩ := hcut
    rw [hwc]
    clear hwc
    go_upto_if 14 with fail
    go_cut [1] from 13 to 20 (fun x wx => x = .int .i64 (satI b) ∧ wx = w)
    case first =>
      by_cases h : b < 0
      · by_cases hm : b = -9223372036854775808
        · have HS : Hid (satI b = 9223372036854775807) := by unfold Hid satI; rw [if_pos hm]
          subst hm
          go_wp2
          go_meet
          case rel => exact ⟨by rw [HS.out], rfl⟩
        · have hm' : (b == -9223372036854775808) = false := by simpa using hm
          have HS : Hid (satI b = -b) := by unfold Hid satI; rw [if_neg hm, if_pos h]
          have hlo : -9223372036854775807 ≤ b := by omega
          clear hm
          go_wp2
          go_meet
          case rel => exact ⟨by rw [HS.out], rfl⟩
      · have h' : decide (b < 0) = false := by simpa using h
        have HS : Hid (satI b = b) := by unfold Hid satI; rw [if_neg (by omega), if_neg h]
        clear h
        rw [h']
        go_wp2
        go_meet
        case rel => exact ⟨by rw [HS.out], rfl⟩
    case rest =>
      obtain ⟨rfl, hwc⟩ := hcut
      rw [hwc]
      clear hwc
      go_wp2_with fail
      go_loopw [0, 1] (fun x y wr => ∃ p q : Int, 0 ≤ p ∧ 0 ≤ q ∧ p ≤ 9223372036854775807 ∧ q ≤ 9223372036854775807 ∧ x = .int .i64 p ∧ y = .int .i64 q ∧ Int.gcd p q = Int.gcd (satI a) (satI b) ∧ Below w.heap.size w wr) (fun _ y _ => (intOf y).toNat)
      case atStart => exact ⟨_, _, sa0, sb0, sa1, sb1, rfl, rfl, rfl, Below.refl _ _⟩
      case round =>
        obtain ⟨p, q, hp0, hq0, hp1, hq1, rfl, rfl, hg, hb⟩ := hrel
        have HG : Hid (Int.gcd p q = Int.gcd (satI a) (satI b)) := hg
        clear hg
        by_cases h : q = 0
        · subst h
          go_wp2
          go_ret
          exact ⟨ret_int (by rw [← HG.out]; simp; omega), hb⟩
        · have hq : 0 < q := by omega
          go_wp2
          go_region
          all_goals
            go_wp2
            go_roundw
            case rel => exact ⟨q, p % q, hq0, Int.emod_nonneg _ h, hq1, by have := Int.emod_lt_of_pos p (show 0 < q by omega); omega, rfl, rfl, by rw [← HG.out]; exact gcd_emod hp0 hq0, hb.drew⟩
            case measure => have := Int.emod_lt_of_pos p (show 0 < q by omega); have := Int.emod_nonneg p h; simp [intOf]; omega
end Go.Proofs.Ytlhiabfhokeihaa
