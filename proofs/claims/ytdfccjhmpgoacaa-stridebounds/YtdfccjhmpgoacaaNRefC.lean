/- Contracts of the reference's Int and told. -/
import Derived.Test.YtdfccjhmpgoacaaNRefB
import Derived.Test.YtdfccjhmpgoacaaNTold
namespace Go.Proofs.Ytdfccjhmpgoacaa.Big
open Go.RowKit

theorem or16 {z x : Int} (hz : 0 ≤ z) (hz1 : z < 281474976710656) (hx : 0 ≤ x) (hx1 : x < 65536) : bits BinOp.or IntKind.u64 (z * 65536) x = z * 65536 + x := by
  obtain ⟨a, rfl⟩ := Int.eq_ofNat_of_zero_le hz
  obtain ⟨b, rfl⟩ := Int.eq_ofNat_of_zero_le hx
  have e : (a : Int) * 65536 = ((2 ^ 16 * a : Nat) : Int) := by omega
  rw [e, bits_or_u64_nat _ _ (by omega) (by omega), ← Nat.two_pow_add_eq_or_of_lt (by omega : b < 2 ^ 16)]
  omega
theorem pw3 : pw 3 = 281474976710656 := rfl
theorem pw4 : pw 4 = 18446744073709551616 := rfl
theorem drop_lt {ds : List Int} (hd : Dig ds) (m n : Nat) (h : ds.length ≤ m + n) : 0 ≤ val (ds.drop m) ∧ val (ds.drop m) < pw n := by
  have hdd : Dig (ds.drop m) := fun x hx => hd x (List.mem_of_mem_drop hx)
  have h1 := val_lt hdd
  rw [List.length_drop] at h1
  have h2 := pw_le (show ds.length - m ≤ n by omega)
  exact ⟨val_nonneg hdd, by omega⟩

set_option maxHeartbeats 1000000 in
theorem wint_any (x : Value) (V : Int) (w : World) (hx : Wd w x V) :
    Calls Try.prog 41 #[x] w fun e w' => ∃ n : Int, e = .returned (.tuple #[.int .i64 n, .bool (fitsB V)]) ∧ (fitsB V = true → n = V) ∧ Below w.heap.size w w' := by
  obtain ⟨s, ds, rfl, ra, da, ca, va⟩ := hx
  obtain ⟨oa, cap, rfl, lc, lm, -, -⟩ := id ra
  unfold maxLen at lm
  by_cases h4 : 4 < ds.length
  · have hf : fitsB V = false := by
      have h1 := canon_len da ca (by omega)
      have h2 := pw_le (show 4 ≤ ds.length - 1 by omega)
      rw [pw4] at h2
      unfold fitsB; simp; intro hh
      unfold absI at va; split at va <;> omega
    rw [hf]
    have h4' : (4 : Int) < (ds.length : Int) := by omega
    go_enter Try.func41, Try.ntmps41
    go_wp2
    go_ret2
    exact ⟨_, rfl, fun h => (by cases h), (Below.refl _ _).alloc (Nat.le_refl _) _⟩
  · have h4' : decide ((4 : Int) < (ds.length : Int)) = false := by simp; omega
    have hv4 : val ds < 18446744073709551616 := by have h1 := val_lt da; have h2 := pw_le (show ds.length ≤ 4 by omega); rw [pw4] at h2; omega
    have hv0 := val_nonneg da
    go_enter Try.func41, Try.ntmps41
    have hv4' : Hid (val ds < 18446744073709551616) := hv4
    have hv0' : Hid (0 ≤ val ds) := hv0
    have VA : Hid (val ds = absI V) := va
    clear hv4 hv0 va
    have hlen : ds.length ≤ 4 := by omega
    clear h4
    cases hn : decide (V < 0)
    · go_wp2_with fail
      go_loop [4, 5] (fun u i => ∃ (k : Nat) (z : Int), k ≤ ds.length ∧ u = .int .u64 z ∧ i = .int .i64 ((k : Int) - 1) ∧ Hid (val (ds.drop k) = z)) (fun _ i => (intOf i + 1).toNat)
      case atStart => exact ⟨ds.length, 0, Nat.le_refl _, rfl, rfl, by unfold Hid; rw [List.drop_eq_nil_of_le (Nat.le_refl _)]; rfl⟩
      case round =>
        obtain ⟨k, z, hk, rfl, rfl, hz⟩ := hrel
        by_cases h0 : 0 < k
        · obtain ⟨m, rfl⟩ : ∃ m, k = m + 1 := ⟨k - 1, by omega⟩
          obtain ⟨ab, ao, rfl, alt, ac⟩ := ra.at (i := m) (by omega)
          have hzb := drop_lt da (m + 1) 3 (by omega)
          rw [hz.out, pw3] at hzb
          have hst := val_drop ds m
          rw [hz.out] at hst
          have hxb := dig_get da m
          obtain ⟨x, hx⟩ : ∃ x, Hid (ds.getD m 0 = x) := ⟨_, rfl⟩
          rw [hx.out] at ac hst hxb
          have HST : Hid (val (ds.drop m) = x + 65536 * z) := hst
          have hor := or16 hzb.1 hzb.2 hxb.1 hxb.2
          have hwz : IntKind.u64.wrap (z * 65536) = z * 65536 := by rw [IntKind.wrap_u64]; omega
          have em : ((m + 1 : Nat) : Int) - 1 = (m : Int) := by omega
          rw [em]
          clear em hst
          go_wp2
          exact ⟨⟨m, z * 65536 + x, by omega, rfl, rfl, by unfold Hid; rw [HST.out]; omega⟩, by simp [intOf]⟩
        · have hk0 : k = 0 := by omega
          subst hk0
          have hz' := hz.out
          rw [List.drop_zero] at hz'
          have z0 := hv0'.out
          have z1 := hv4'.out
          have z2 := VA.out
          rw [hz'] at z0 z1 z2
          have HFB : Hid (fitsB V = decide (z ≤ 9223372036854775807)) := by
            unfold Hid fitsB; apply decide_eq_decide.2; unfold absI at z2; simp at hn; rw [if_neg (by omega)] at z2; omega
          have HVV : Hid (fitsB V = true → wrap64 z = V) := by
            intro h; have h2 := fits_bd h; unfold absI at z2; simp at hn; rw [if_neg (by omega)] at z2; unfold wrap64; omega
          clear z2 hz'
          go_wp2
          go_ret2
          exact ⟨_, by rw [HFB.out]; rfl, HVV.out, (Below.refl _ _).alloc (Nat.le_refl _) _⟩
    · go_wp2_with fail
      go_loop [4, 5] (fun u i => ∃ (k : Nat) (z : Int), k ≤ ds.length ∧ u = .int .u64 z ∧ i = .int .i64 ((k : Int) - 1) ∧ Hid (val (ds.drop k) = z)) (fun _ i => (intOf i + 1).toNat)
      case atStart => exact ⟨ds.length, 0, Nat.le_refl _, rfl, rfl, by unfold Hid; rw [List.drop_eq_nil_of_le (Nat.le_refl _)]; rfl⟩
      case round =>
        obtain ⟨k, z, hk, rfl, rfl, hz⟩ := hrel
        by_cases h0 : 0 < k
        · obtain ⟨m, rfl⟩ : ∃ m, k = m + 1 := ⟨k - 1, by omega⟩
          obtain ⟨ab, ao, rfl, alt, ac⟩ := ra.at (i := m) (by omega)
          have hzb := drop_lt da (m + 1) 3 (by omega)
          rw [hz.out, pw3] at hzb
          have hst := val_drop ds m
          rw [hz.out] at hst
          have hxb := dig_get da m
          obtain ⟨x, hx⟩ : ∃ x, Hid (ds.getD m 0 = x) := ⟨_, rfl⟩
          rw [hx.out] at ac hst hxb
          have HST : Hid (val (ds.drop m) = x + 65536 * z) := hst
          have hor := or16 hzb.1 hzb.2 hxb.1 hxb.2
          have hwz : IntKind.u64.wrap (z * 65536) = z * 65536 := by rw [IntKind.wrap_u64]; omega
          have em : ((m + 1 : Nat) : Int) - 1 = (m : Int) := by omega
          rw [em]
          clear em hst
          go_wp2
          exact ⟨⟨m, z * 65536 + x, by omega, rfl, rfl, by unfold Hid; rw [HST.out]; omega⟩, by simp [intOf]⟩
        · have hk0 : k = 0 := by omega
          subst hk0
          have hz' := hz.out
          rw [List.drop_zero] at hz'
          have z0 := hv0'.out
          have z1 := hv4'.out
          have z2 := VA.out
          rw [hz'] at z0 z1 z2
          have HFB : Hid (fitsB V = decide (z ≤ 9223372036854775808)) := by
            unfold Hid fitsB; apply decide_eq_decide.2; unfold absI at z2; simp at hn; rw [if_pos (by omega)] at z2; omega
          have HVV : Hid (fitsB V = true → wrap64 (IntKind.u64.wrap (-z)) = V) := by
            intro h; have h2 := fits_bd h; unfold absI at z2; simp at hn; rw [if_pos (by omega)] at z2; rw [IntKind.wrap_u64]; unfold wrap64; omega
          clear z2 hz'
          go_wp2
          go_ret2
          exact ⟨_, by rw [HFB.out]; rfl, HVV.out, (Below.refl _ _).alloc (Nat.le_refl _) _⟩

set_option maxHeartbeats 400000 in
theorem told_any (x : Value) (V : Int) (w : World) (hx : Wd w x V) :
    Calls Try.prog 24 #[x] w fun e w' => e = .returned (.tuple #[.int .i64 (toldI V), .bool (fitsB V)]) ∧ Below w.heap.size w w' := by
  obtain ⟨s, ds, rfl, ra, da, ca, va⟩ := id hx
  obtain ⟨oa, cap, rfl, -, -, -, -⟩ := id ra
  have hW : ∀ o, Wd (w.alloc o) (.agg #[.bool (decide (V < 0)), .slice oa ds.length cap]) V := fun o => hx.below (below_alloc w o)
  cases hf : fitsB V
  · have HT : Hid (toldI V = 0) := told_not hf
    have hI := fun o => wint_any _ V _ (hW o)
    rw [hf] at hI
    go_enter Try.func24, Try.ntmps24
    go_wp2_with fail
    refine (hI _).mono ?_
    rintro e w1 ⟨n, rfl, -, hb⟩
    go_wp2_with fail
    go_ret2
    exact ⟨by rw [HT.out]; rfl, ((Below.refl _ _).alloc (Nat.le_refl _) _).trans (hb.mono (by simp))⟩
  · have HT : Hid (toldI V = V) := told_fits hf
    have hI := fun o => wint_any _ V _ (hW o)
    rw [hf] at hI
    go_enter Try.func24, Try.ntmps24
    go_wp2_with fail
    refine (hI _).mono ?_
    rintro e w1 ⟨n, rfl, hn, hb⟩
    have hn' := hn trivial
    subst hn'
    clear hn
    go_wp2_with fail
    go_ret2
    exact ⟨by rw [HT.out]; rfl, ((Below.refl _ _).alloc (Nat.le_refl _) _).trans (hb.mono (by simp))⟩
end Go.Proofs.Ytdfccjhmpgoacaa.Big
