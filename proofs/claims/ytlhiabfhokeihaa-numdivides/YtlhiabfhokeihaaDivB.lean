/- The contract of math/bits.Div64. -/
import Derived.Test.YtlhiabfhokeihaaDivA
import Derived.Test.YtlhiabfhokeihaaDivM
import Derived.Deep.CutBlock
import Derived.Deep.CutRange
namespace Go.Proofs.Ytlhiabfhokeihaa
open Go.RowKit

theorem len_bd {y : Int} (h0 : 0 < y) (h1 : y < 9223372036854775808) : 1 ≤ bitLen y.toNat ∧ bitLen y.toNat ≤ 63 ∧ y < 2 ^ bitLen y.toNat ∧ (2 : Int) ^ (bitLen y.toNat - 1) ≤ y := by
  obtain ⟨n, rfl⟩ := Int.eq_ofNat_of_zero_le (show 0 ≤ y by omega)
  rw [Int.toNat_natCast]
  obtain ⟨a, b⟩ := bitLen_spec n
  have b' := b (by omega)
  have h63 : bitLen n ≤ 63 := by
    unfold bitLen
    split
    · omega
    · rename_i h
      have := (Nat.log2_lt h).2 (show n < 2 ^ 63 by omega)
      omega
  have h1 : 1 ≤ bitLen n := by
    unfold bitLen
    split
    · omega
    · omega
  refine ⟨h1, h63, ?_, ?_⟩
  · exact_mod_cast a
  · exact_mod_cast b'

set_option maxHeartbeats 1000000 in
theorem div64_pos (hi lo y : Int) (w : World) (hh0 : 0 < hi) (hhy : hi < y) (hl0 : 0 ≤ lo) (hl1 : lo < 18446744073709551616) (hy : y < 9223372036854775808) :
    Calls Try.prog 55 #[.int .u64 hi, .int .u64 lo, .int .u64 y] w fun e w' => (∃ r : Int, e = .returned (.tuple #[.int .u64 ((hi * 18446744073709551616 + lo) / y), .int .u64 r])) ∧ Below w.heap.size w w' := by
  obtain ⟨n1, n2, hlt, hge⟩ := len_bd (show 0 < y by omega) hy
  have hz : (hi == 0) = false := by simp; omega
  have hz2 : (y == 0) = false := by simp; omega
  generalize hsb : bitLen y.toNat = n at *
  have HS : Hid (bitLen y.toNat = n) := hsb
  clear hsb
  obtain ⟨y0, y1⟩ := shift_y n1 (by omega) hlt hge
  have hP := pow_pos' (64 - n)
  have hhs : hi * 2 ^ (64 - n) < y * 2 ^ (64 - n) := Int.mul_lt_mul_of_pos_right hhy hP
  have hh1 : 0 ≤ hi * 2 ^ (64 - n) := Int.mul_nonneg (by omega) (by omega)
  have HO : Hid (bits BinOp.or IntKind.u64 (hi * 2 ^ (64 - n)) (lo / 2 ^ n) = hi * 2 ^ (64 - n) + lo / 2 ^ n) := or_add (by omega) hl0 hl1 (by omega) (by omega)
  have HW := shift_words (hi := hi) (lo := lo) (show n ≤ 64 by omega)
  have HN : Hid ((hi * 18446744073709551616 + lo) / y = ((hi * 2 ^ (64 - n) + lo / 2 ^ n) * 18446744073709551616 + (lo * 2 ^ (64 - n)) % 18446744073709551616) / (y * 2 ^ (64 - n))) := by
    unfold Hid; rw [← HW, scaled hP]
  have HU : hi * 2 ^ (64 - n) + lo / 2 ^ n < y * 2 ^ (64 - n) := by
    have e : lo / 2 ^ n < 2 ^ (64 - n) := Int.ediv_lt_of_lt_mul (pow_pos' n) (by rw [Int.mul_comm, pow_split (by omega)]; exact hl1)
    have e2 : (hi + 1) * 2 ^ (64 - n) ≤ y * 2 ^ (64 - n) := Int.mul_le_mul_of_nonneg_right (by omega) (by omega)
    rw [Int.add_mul] at e2
    omega
  have hU0 : 0 ≤ lo / 2 ^ n := Int.ediv_nonneg hl0 (by have := pow_pos' n; omega)
  clear HW
  rw [HN.out]
  clear HN hlt hge
  obtain ⟨A, HA⟩ : ∃ A, Hid (((hi * 2 ^ (64 - n) + lo / 2 ^ n) * 18446744073709551616 + (lo * 2 ^ (64 - n)) % 18446744073709551616) / (y * 2 ^ (64 - n)) = A) := ⟨_, rfl⟩
  rw [HA.out]
  have hwy : IntKind.u64.wrap (y * 2 ^ (64 - n)) = y * 2 ^ (64 - n) := by rw [IntKind.wrap_u64]; omega
  have hwh : IntKind.u64.wrap (hi * 2 ^ (64 - n)) = hi * 2 ^ (64 - n) := by rw [IntKind.wrap_u64]; omega
  have hwl : IntKind.u64.wrap (lo * 2 ^ (64 - n)) = lo * 2 ^ (64 - n) % 18446744073709551616 := by rw [IntKind.wrap_u64]
  have hyn : ¬ y * 2 ^ (64 - n) / 4294967296 = 0 := by omega
  go_enter Try.func55, Try.ntmps55
  go_wp2_with fail
  refine (lz_any y (by omega) (by omega) _).mono ?_
  rw [HS.out]
  rintro e w1 ⟨rfl, hw1⟩
  rw [hw1]
  clear hw1 w1
  go_upto_block 0 with fail
  have en : 64 - (64 - n) = n := by omega
  rw [en, HO.out]
  have hU1 : 0 ≤ hi * 2 ^ (64 - n) + lo / 2 ^ n := by omega
  have hL0 : 0 ≤ lo * 2 ^ (64 - n) % 18446744073709551616 := by omega
  have hL1 : lo * 2 ^ (64 - n) % 18446744073709551616 < 18446744073709551616 := by omega
  clear HO hwy hwh hwl en hhs hh1 hU0
  generalize hi * 2 ^ (64 - n) + lo / 2 ^ n = U at *
  generalize lo * 2 ^ (64 - n) % 18446744073709551616 = L at *
  generalize y * 2 ^ (64 - n) = Y at *
  rw [and_low32 Y (by omega) y1, and_low32 L hL0 hL1]
  have hv1 : 2147483648 ≤ Y / 4294967296 := by omega
  have hv2 : Y / 4294967296 < 4294967296 := by omega
  have hv0 : 0 ≤ Y % 4294967296 := by omega
  have hv00 : Y % 4294967296 < 4294967296 := by omega
  have hYY : Hid (Y / 4294967296 * 4294967296 + Y % 4294967296 = Y) := by unfold Hid; omega
  have hu1 : 0 ≤ L / 4294967296 := by omega
  have hu11 : L / 4294967296 < 4294967296 := by omega
  have hu0 : 0 ≤ L % 4294967296 := by omega
  have hu00 : L % 4294967296 < 4294967296 := by omega
  have hLL : Hid (L / 4294967296 * 4294967296 + L % 4294967296 = L) := by unfold Hid; omega
  generalize Y / 4294967296 = v1 at *
  generalize Y % 4294967296 = v0 at *
  generalize L / 4294967296 = u1 at *
  generalize L % 4294967296 = u0 at *
  have hg0 : 0 ≤ U / v1 := Int.ediv_nonneg hU1 (by omega)
  have hg1 : U / v1 ≤ 4294967297 := guess_first hYY.out hv00 hv1 HU
  have hgr := Int.emod_add_ediv_mul U v1
  have hr0 := Int.emod_nonneg U hyn
  have hr1 := Int.emod_lt_of_pos U (show 0 < v1 by omega)
  have eq1 : IntKind.u64.wrap (U.tdiv v1) = U / v1 := by rw [Int.tdiv_eq_ediv_of_nonneg hU1, IntKind.wrap_u64]; omega
  have er1 : IntKind.u64.wrap (U - IntKind.u64.wrap (U / v1 * v1)) = U % v1 := by rw [IntKind.wrap_u64, IntKind.wrap_u64]; omega
  rw [eq1, er1]
  have hYp : 0 < Y := by omega
  have hD1 : Hid (U * 4294967296 + u1 = U * 4294967296 + u1) := rfl
  have hQ0 : 0 ≤ (U * 4294967296 + u1) / Y := Int.ediv_nonneg (by omega) (by omega)
  have hQ1 : (U * 4294967296 + u1) / Y < 4294967296 := digit_lt_base hYp HU hu11 rfl
  have hQg : (U * 4294967296 + u1) / Y ≤ U / v1 := guess_ge hU1 hYY.out hv0 hv1 hu11 rfl
  have HRR := rest_lt (A := U * 4294967296 + u1) hYp
  have HTD := two_digits (U := U) (L := L) (u1 := u1) (u0 := u0) hYp hLL.out rfl
  have HA2 : A = (U * 4294967296 + u1) / Y * 4294967296 + ((U * 4294967296 + u1 - (U * 4294967296 + u1) / Y * Y) * 4294967296 + u0) / Y := by rw [HTD]; exact HA.out.symm
  clear HTD HA
  obtain ⟨D, HD⟩ : ∃ D, Hid (U * 4294967296 + u1 = D) := ⟨_, rfl⟩
  rw [HD.out] at hQ0 hQ1 hQg HRR HA2
  obtain ⟨Q, HQ⟩ : ∃ Q, Hid (D / Y = Q) := ⟨_, rfl⟩
  rw [HQ.out] at hQ0 hQ1 hQg HRR HA2
  obtain ⟨R, HR⟩ : ∃ R, Hid (D - Q * Y = R) := ⟨_, rfl⟩
  rw [HR.out] at HRR HA2
  have HF : Hid (A = Q * 4294967296 + (R * 4294967296 + u0) / Y) := HA2
  clear HA2
  have HG : Hid (U / v1 * v1 + U % v1 = U) := by unfold Hid; omega
  clear hgr eq1 er1 hD1
  generalize U / v1 = g at *
  generalize U % v1 = t at *
  obtain ⟨hR0, hR1⟩ := HRR
  go_cut [15] from 67 to 85 (fun a wx => a = .int .u64 Q ∧ wx = w)
  case first =>
    go_wp2_with fail
    go_loop [15, 16] (fun a b => ∃ q r : Int, 0 ≤ q ∧ q ≤ 4294967297 ∧ 0 ≤ r ∧ r < 4294967296 ∧ Hid (q * v1 + r = U) ∧ Q ≤ q ∧ a = .int .u64 q ∧ b = .int .u64 r) (fun a _ => (intOf a).toNat)
    case atStart => exact ⟨g, t, hg0, hg1, hr0, by omega, HG, hQg, rfl, rfl⟩
    case round =>
      obtain ⟨q, r, q0, q1, r0, r1, hqr, hQq, rfl, rfl⟩ := hrel
      by_cases hB : 4294967296 ≤ q
      · have hlt : Q < q := by omega
        have hst : Hid ((q - 1) * v1 + (r + v1) = U) := step_inv hqr.out
        by_cases hb : 4294967296 ≤ r + v1
        · have hfin : q - 1 = Q := by
            have h1 := good_guess hYp hYY.out hst.out HD.out (Int.not_lt.2 (guess_past hv0 hv00 (by omega) hb hu1))
            rw [HQ.out] at h1; omega
          have HFN : Hid (q - 1 = Q) := hfin
          clear hfin
          go_wp2
          rw [HFN.out]
          go_meet
          case rel => exact ⟨rfl, rfl⟩
        · have hb' : decide (4294967296 ≤ r + v1) = false := by simp; omega
          go_wp2
          go_round
          case rel => exact ⟨q - 1, r + v1, by omega, by omega, by omega, by omega, hst, by omega, rfl, rfl⟩
          case measure => simp [intOf]; omega
      · obtain ⟨p0, p1⟩ := prod_small q0 (by omega) hv0 hv00
        have hB' : decide (4294967296 ≤ q) = false := by simp; omega
        by_cases ht : 4294967296 * r + u1 < q * v0
        · have hlt : Q < q := by have h := bad_guess hYp hYY.out hqr.out HD.out ht; rw [HQ.out] at h; exact h
          have hst : Hid ((q - 1) * v1 + (r + v1) = U) := step_inv hqr.out
          by_cases hb : 4294967296 ≤ r + v1
          · have hfin : q - 1 = Q := by
              have h1 := good_guess hYp hYY.out hst.out HD.out (Int.not_lt.2 (guess_past hv0 hv00 (by omega) hb hu1))
              rw [HQ.out] at h1; omega
            have HFN : Hid (q - 1 = Q) := hfin
            clear hfin
            go_wp2
            rw [HFN.out]
            go_meet
            case rel => exact ⟨rfl, rfl⟩
          · have hb' : decide (4294967296 ≤ r + v1) = false := by simp; omega
            go_wp2
            go_round
            case rel => exact ⟨q - 1, r + v1, by omega, by omega, by omega, by omega, hst, by omega, rfl, rfl⟩
            case measure => simp [intOf]; omega
        · have hfin : q = Q := by have h := good_guess hYp hYY.out hqr.out HD.out ht; rw [HQ.out] at h; omega
          have HFN : Hid (q = Q) := hfin
          clear hfin
          have ht' : decide (4294967296 * r + u1 < q * v0) = false := by simpa using ht
          go_wp2
          rw [HFN.out]
          go_meet
          case rel => exact ⟨rfl, rfl⟩
  case rest =>
    obtain ⟨rfl, hwc⟩ := hcut
    rw [hwc]
    clear hwc
    go_upto_block 2 with fail
    have e21 : IntKind.u64.wrap (IntKind.u64.wrap (IntKind.u64.wrap (U * 4294967296) + u1) - IntKind.u64.wrap (Q * Y)) = R := by
      have h1 := HR.out
      have h2 := HD.out
      simp only [IntKind.wrap_u64]
      generalize Q * Y = z at *
      omega
    rw [e21]
    clear e21
    have hg20 : 0 ≤ R / v1 := Int.ediv_nonneg hR0 (by omega)
    have hg21 : R / v1 ≤ 4294967297 := guess_first hYY.out hv00 hv1 hR1
    have hgr2 := Int.emod_add_ediv_mul R v1
    have ht20 := Int.emod_nonneg R hyn
    have ht21 := Int.emod_lt_of_pos R (show 0 < v1 by omega)
    have eq2 : IntKind.u64.wrap (R.tdiv v1) = R / v1 := by rw [Int.tdiv_eq_ediv_of_nonneg hR0, IntKind.wrap_u64]; omega
    have er2 : IntKind.u64.wrap (R - IntKind.u64.wrap (R / v1 * v1)) = R % v1 := by rw [IntKind.wrap_u64, IntKind.wrap_u64]; omega
    rw [eq2, er2]
    have hQ20 : 0 ≤ (R * 4294967296 + u0) / Y := Int.ediv_nonneg (by omega) (by omega)
    have hQ21 : (R * 4294967296 + u0) / Y < 4294967296 := digit_lt_base hYp hR1 hu00 rfl
    have hQg2 : (R * 4294967296 + u0) / Y ≤ R / v1 := guess_ge hR0 hYY.out hv0 hv1 hu00 rfl
    obtain ⟨D2, HD2⟩ : ∃ D2, Hid (R * 4294967296 + u0 = D2) := ⟨_, rfl⟩
    rw [HD2.out] at hQ20 hQ21 hQg2 HF
    obtain ⟨Q2, HQ2⟩ : ∃ Q2, Hid (D2 / Y = Q2) := ⟨_, rfl⟩
    rw [HQ2.out] at hQ20 hQ21 hQg2 HF
    have HG2 : Hid (R / v1 * v1 + R % v1 = R) := by unfold Hid; omega
    clear hgr2 eq2 er2
    generalize R / v1 = g2 at *
    generalize R % v1 = t2 at *
    go_cut [18] from 102 to 120 (fun a wx => a = .int .u64 Q2 ∧ wx = w)
    case first =>
      go_wp2_with fail
      go_loop [18, 16] (fun a b => ∃ q r : Int, 0 ≤ q ∧ q ≤ 4294967297 ∧ 0 ≤ r ∧ r < 4294967296 ∧ Hid (q * v1 + r = R) ∧ Q2 ≤ q ∧ a = .int .u64 q ∧ b = .int .u64 r) (fun a _ => (intOf a).toNat)
      case atStart => exact ⟨g2, t2, hg20, hg21, ht20, by omega, HG2, hQg2, rfl, rfl⟩
      case round =>
        obtain ⟨q, r, q0, q1, r0, r1, hqr, hQq, rfl, rfl⟩ := hrel
        by_cases hB : 4294967296 ≤ q
        · have hlt : Q2 < q := by omega
          have hst : Hid ((q - 1) * v1 + (r + v1) = R) := step_inv hqr.out
          by_cases hb : 4294967296 ≤ r + v1
          · have hfin : q - 1 = Q2 := by
              have h1 := good_guess hYp hYY.out hst.out HD2.out (Int.not_lt.2 (guess_past hv0 hv00 (by omega) hb hu0))
              rw [HQ2.out] at h1; omega
            have HFN : Hid (q - 1 = Q2) := hfin
            clear hfin
            go_wp2
            rw [HFN.out]
            go_meet
            case rel => exact ⟨rfl, rfl⟩
          · have hb' : decide (4294967296 ≤ r + v1) = false := by simp; omega
            go_wp2
            go_round
            case rel => exact ⟨q - 1, r + v1, by omega, by omega, by omega, by omega, hst, by omega, rfl, rfl⟩
            case measure => simp [intOf]; omega
        · obtain ⟨p0, p1⟩ := prod_small q0 (by omega) hv0 hv00
          have hB' : decide (4294967296 ≤ q) = false := by simp; omega
          by_cases ht : 4294967296 * r + u0 < q * v0
          · have hlt : Q2 < q := by have h := bad_guess hYp hYY.out hqr.out HD2.out ht; rw [HQ2.out] at h; exact h
            have hst : Hid ((q - 1) * v1 + (r + v1) = R) := step_inv hqr.out
            by_cases hb : 4294967296 ≤ r + v1
            · have hfin : q - 1 = Q2 := by
                have h1 := good_guess hYp hYY.out hst.out HD2.out (Int.not_lt.2 (guess_past hv0 hv00 (by omega) hb hu0))
                rw [HQ2.out] at h1; omega
              have HFN : Hid (q - 1 = Q2) := hfin
              clear hfin
              go_wp2
              rw [HFN.out]
              go_meet
              case rel => exact ⟨rfl, rfl⟩
            · have hb' : decide (4294967296 ≤ r + v1) = false := by simp; omega
              go_wp2
              go_round
              case rel => exact ⟨q - 1, r + v1, by omega, by omega, by omega, by omega, hst, by omega, rfl, rfl⟩
              case measure => simp [intOf]; omega
          · have hfin : q = Q2 := by have h := good_guess hYp hYY.out hqr.out HD2.out ht; rw [HQ2.out] at h; omega
            have HFN : Hid (q = Q2) := hfin
            clear hfin
            have ht' : decide (4294967296 * r + u0 < q * v0) = false := by simpa using ht
            go_wp2
            rw [HFN.out]
            go_meet
            case rel => exact ⟨rfl, rfl⟩
    case rest =>
      obtain ⟨rfl, hwc⟩ := hcut
      rw [hwc]
      clear hwc
      go_wp2_with fail
      go_ret2
      exact ⟨⟨_, by rw [HF.out]; rfl⟩, Below.refl _ _⟩

theorem div64_zero (lo y : Int) (w : World) (hy0 : 0 < y) (hl0 : 0 ≤ lo) (hl1 : lo < 18446744073709551616) (hy : y < 9223372036854775808) :
    Calls Try.prog 55 #[.int .u64 0, .int .u64 lo, .int .u64 y] w fun e w' => (∃ r : Int, e = .returned (.tuple #[.int .u64 (lo / y), .int .u64 r])) ∧ Below w.heap.size w w' := by
  have hz2 : (y == 0) = false := by simp; omega
  have hyz : ¬ y = 0 := by omega
  have q0 : 0 ≤ lo / y := Int.ediv_nonneg hl0 (by omega)
  have q1 : lo / y ≤ lo := Int.ediv_le_self y hl0
  go_enter Try.func55, Try.ntmps55
  go_wp2
  go_region
  all_goals
    go_wp2
    go_ret2
    exact ⟨⟨_, rfl⟩, (Below.refl _ _).drew⟩

theorem div64_any (hi lo y : Int) (w : World) (hh0 : 0 ≤ hi) (hhy : hi < y) (hl0 : 0 ≤ lo) (hl1 : lo < 18446744073709551616) (hy : y < 9223372036854775808) :
    Calls Try.prog 55 #[.int .u64 hi, .int .u64 lo, .int .u64 y] w fun e w' => (∃ r : Int, e = .returned (.tuple #[.int .u64 ((hi * 18446744073709551616 + lo) / y), .int .u64 r])) ∧ Below w.heap.size w w' := by
  by_cases h : hi = 0
  · subst h
    have := div64_zero lo y w hhy hl0 hl1 hy
    simpa using this
  · exact div64_pos hi lo y w (by omega) hhy hl0 hl1 hy

end Go.Proofs.Ytlhiabfhokeihaa
