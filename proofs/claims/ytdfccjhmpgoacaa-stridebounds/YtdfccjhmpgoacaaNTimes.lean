/- The contract of the reference's Times. -/
import Derived.Test.YtdfccjhmpgoacaaNTimesM
namespace Go.Proofs.Ytdfccjhmpgoacaa.Big
open Go.RowKit

set_option maxHeartbeats 2000000 in
theorem times_core (na nb : Bool) (s t : Value) (ds es : List Int) (w : World) (hra0 : Row w s ds) (hrb0 : Row w t es) (hda : Dig ds) (hdb : Dig es) (la : ds.length ≤ 1000) (lb : es.length ≤ 1000) :
    Calls Try.prog 40 #[.agg #[.bool na, s], .agg #[.bool nb, t]] w fun e w' => ∃ v, e = .returned v ∧ Wd w' v (turnI (!(na == nb)) (val ds * val es)) ∧ Below w.heap.size w w' := by
  obtain ⟨oa, ca, rfl, -, -, -, -⟩ := id hra0
  obtain ⟨ob, cb, rfl, -, -, -, -⟩ := id hrb0
  have hmk : ∀ W : World, (Instr.makeSlice 42 (.int .i64 ((ds.length : Int) + (es.length : Int) + 1)) (.int .i64 ((ds.length : Int) + (es.length : Int) + 1))).run Try.prog W = .ok (.slice (some ⟨W.heap.size, 0, none⟩) (ds.length + es.length + 1) (ds.length + es.length + 1)) (W.alloc (.cells (madeCells #[.int .u32 0] (ds.length + es.length + 1)) 61)) := by
    intro W
    have h := run_make_row' 42 61 (.int .u32 0) 4 Try.underlying42 infoU32 rfl .i64 .i64 (ds.length + es.length + 1) (by omega) (by omega) W
    simpa using h
  have hS := ps_start (na := na) (nb := nb) hra0 hrb0
  have hR : RC (((w.alloc (.cells #[.bool na, .slice oa ds.length ca] 44)).alloc (.cells #[.bool nb, .slice ob es.length cb] 44)).alloc (.cells #[.bool false, .slice none 0 0] 44)) (w.heap.size + 1 + 1) := ⟨by simp [go_sem], by simp [go_sem], by simp [go_sem], by simp [go_sem]⟩
  have hT := TW.new (((w.alloc (.cells #[.bool na, .slice oa ds.length ca] 44)).alloc (.cells #[.bool nb, .slice ob es.length cb] 44)).alloc (.cells #[.bool false, .slice none 0 0] 44)) (ds.length + es.length + 1)
  have hsz : (((w.alloc (.cells #[.bool na, .slice oa ds.length ca] 44)).alloc (.cells #[.bool nb, .slice ob es.length cb] 44)).alloc (.cells #[.bool false, .slice none 0 0] 44)).heap.size = w.heap.size + 1 + 1 + 1 := by simp
  go_enter Try.func40, Try.ntmps40
  go_wp2_with fail
  rw [hsz] at hT
  generalize (((w.alloc (.cells #[.bool na, .slice oa ds.length ca] 44)).alloc (.cells #[.bool nb, .slice ob es.length cb] 44)).alloc (.cells #[.bool false, .slice none 0 0] 44)) = W2 at *
  have HSZ : Hid (W2.heap.size = w.heap.size + 1 + 1 + 1) := hsz
  clear hsz hmk
  go_loopw [23] (fun i wr => ∃ (k : Nat) (out : List Int), k ≤ ds.length ∧ i = .int .i64 k ∧ TW W2 wr (w.heap.size + 1 + 1 + 1) (ds.length + es.length + 1) out ∧ Hid (val out = val (ds.take k) * val es)) (fun i _ => ds.length - (intOf i).toNat)
  case atStart => exact ⟨0, _, Nat.zero_le _, rfl, hT, by unfold Hid; rw [val_zeros]; show (0 : Int) = 0 * val es; omega⟩
  case round =>
    obtain ⟨k, out, hk, rfl, htw, hval⟩ := hrel
    have hkb : wr.cell? ⟨w.heap.size + 1, 1, none⟩ = some (.slice ob es.length cb) := keep htw.1 (by rw [HSZ.out]; omega) hS.2.2.2.1
    by_cases hka : k < ds.length
    · obtain ⟨ab, ao, rfl, alt, ac⟩ := ((ps_ra hS).below htw.1).at hka
      have hxb := dig_get hda k
      have hT1 := row_total hda hdb hka
      have hnx := row_next (E := val es) hka
      obtain ⟨x, hx⟩ : ∃ x, Hid (ds.getD k 0 = x) := ⟨_, rfl⟩
      rw [hx.out] at ac hxb hnx
      rw [← hnx] at hT1
      have HNX : Hid (val (ds.take k) * val es + pw k * (x * val es) = val (ds.take (k + 1)) * val es) := hnx
      have HT1 : Hid (val (ds.take k) * val es + pw k * (x * val es) < pw (ds.length + es.length)) := hT1
      clear hnx hT1
      go_wp2_with fail
      go_loopw [8, 9] (fun u j wj => ∃ (p : Nat) (c : Int) (o2 : List Int), 0 ≤ c ∧ c < 65536 ∧ k + p ≤ ds.length + es.length + 1 ∧ u = .int .u32 c ∧ j = .int .i64 p ∧ TW W2 wj (w.heap.size + 1 + 1 + 1) (ds.length + es.length + 1) o2 ∧ Hid (val o2 + pw (k + p) * (c + x * val (es.drop p)) = val (ds.take k) * val es + pw k * (x * val es))) (fun _ j _ => ds.length + es.length + 1 - (k + (intOf j).toNat))
      case atStart => exact ⟨0, 0, out, by omega, by omega, by omega, rfl, rfl, htw, by unfold Hid; rw [hval.out]; simp⟩
      case round =>
        obtain ⟨p, c, o2, c0, c1, hkp, rfl, rfl, htw2, hinv⟩ := hrel
        have hkb2 : wr.cell? ⟨w.heap.size + 1, 1, none⟩ = some (.slice ob es.length cb) := keep htw2.1 (by rw [HSZ.out]; omega) hS.2.2.2.1
        by_cases hpb : p < es.length
        · obtain ⟨bb, bo, rfl, blt, bc⟩ := ((ps_rb hS).below htw2.1).at hpb
          have hyb := dig_get hdb p
          obtain ⟨y, hy⟩ : ∃ y, Hid (es.getD p 0 = y) := ⟨_, rfl⟩
          rw [hy.out] at bc hyb
          have hoc := htw2.2.2.2.2.1 (k + p) (by omega)
          have hof := htw2.2.2.2.2.2 (k + p) (by omega)
          have hob := dig_get htw2.2.2.2.1 (k + p)
          obtain ⟨o, ho⟩ : ∃ o, Hid (o2.getD (k + p) 0 = o) := ⟨_, rfl⟩
          rw [ho.out] at hoc hob
          have hm0 : 0 ≤ x * y := Int.mul_nonneg hxb.1 hyb.1
          have hm1 : x * y ≤ 65535 * 65535 := Int.mul_le_mul (by omega) (by omega) hyb.1 (by omega)
          have hl := land16_u32 (c + (o + x * y)) (by omega) (by omega)
          have hlen : k + p < o2.length := by rw [htw2.2.2.1]; omega
          have hnext : Hid (val (o2.set (k + p) ((c + (o + x * y)) % 65536)) + pw (k + (p + 1)) * ((c + (o + x * y)) / 65536 + x * val (es.drop (p + 1))) = val (ds.take k) * val es + pw k * (x * val es)) := inner_next hlen ho.out hy.out hinv.out
          go_wp2
          exact ⟨⟨p + 1, (c + (o + x * y)) / 65536, o2.set (k + p) ((c + (o + x * y)) % 65536), by omega, by omega, by omega, rfl, by go_num, htw2.set (by rw [HSZ.out]; exact Nat.le_refl _) (by omega) (by omega) (by omega), hnext⟩, by simp [intOf]; omega⟩
        · have hpb' : decide ((p : Int) < (es.length : Int)) = false := by simp; omega
          by_cases hc : 0 < c
          · have hpl : k + p < ds.length + es.length := by
              have h := hinv.out
              rw [val_drop_past (by omega)] at h
              exact carry_place htw2.2.2.2.1 hc (by omega : (0 : Int) ≤ x * 0) h HT1.out
            have hoc := htw2.2.2.2.2.1 (k + p) (by omega)
            have hof := htw2.2.2.2.2.2 (k + p) (by omega)
            have hob := dig_get htw2.2.2.2.1 (k + p)
            obtain ⟨o, ho⟩ : ∃ o, Hid (o2.getD (k + p) 0 = o) := ⟨_, rfl⟩
            rw [ho.out] at hoc hob
            have hl := land16_u32 (c + o) (by omega) (by omega)
            have hlen : k + p < o2.length := by rw [htw2.2.2.1]; omega
            have hnext : Hid (val (o2.set (k + p) ((c + o) % 65536)) + pw (k + (p + 1)) * ((c + o) / 65536 + x * val (es.drop (p + 1))) = val (ds.take k) * val es + pw k * (x * val es)) := by
              have h := inner_next (y := 0) hlen ho.out (get_past (by omega)) hinv.out
              rw [Int.mul_zero, Int.add_zero] at h
              exact h
            go_wp2
            exact ⟨⟨p + 1, (c + o) / 65536, o2.set (k + p) ((c + o) % 65536), by omega, by omega, by omega, rfl, by go_num, htw2.set (by rw [HSZ.out]; exact Nat.le_refl _) (by omega) (by omega) (by omega), hnext⟩, by simp [intOf]; omega⟩
          · have hcz : c = 0 := by omega
            subst hcz
            have hend : Hid (val o2 = val (ds.take (k + 1)) * val es) := by
              have h := hinv.out
              rw [val_drop_past (by omega), HNX.out] at h
              unfold Hid; rw [← h]; simp
            go_wp2
            exact ⟨⟨k + 1, o2, by omega, by go_num, htw2, hend⟩, by simp [intOf]; omega⟩
    · have hkl : k = ds.length := by omega
      subst hkl
      have hka' : decide ((ds.length : Int) < (ds.length : Int)) = false := by simp
      have HV : Hid (val out = val ds * val es) := by have h := hval.out; rw [List.take_length] at h; exact h
      have hSr := ps_step hS htw.1
      have hRr := RC.step hR (ps_l hS) htw.1
      have hrow := htw.row (by omega)
      have hdig := htw.2.2.2.1
      obtain ⟨s1, s2, s3, s4, s5, _, _, kk⟩ := hSr
      clear hS hR hT htw hval hkb hka
      go_wp2_with fail
      refine (trim_any (!(na == nb)) _ out _ hrow hdig).mono ?_
      rw [HV.out]
      rintro e w1 ⟨v, rfl, hwd, hb⟩
      have rc := RC.step hRr s5 hb
      obtain ⟨t2, ds2, rfl, hr2, hd2, hc2, hv2⟩ := id hwd
      obtain ⟨o2, c2, rfl, -, -, -, -⟩ := id hr2
      obtain ⟨q0, q1, q2, q3⟩ := id rc
      obtain ⟨nn, hnn⟩ : ∃ nn, Hid (decide (turnI (!(na == nb)) (val ds * val es) < 0) = nn) := ⟨_, rfl⟩
      rw [hnn.out] at hwd ⊢
      have hfin := hwd.set2 (u := .bool nn) (v := .slice o2 ds2.length c2) rc
      have kf := below2 kk (by omega) hb
      clear hwd rc hRr hv2
      go_wp2_with fail
      exact bodyPost_ret (v := .agg #[.bool nn, .slice o2 ds2.length c2]) (by simp [results, Try.results40, go_sem, q0, q1]) rfl ⟨_, rfl, hfin, (kf.setCell (by simp; omega) _).setCell (by simp; omega) _⟩

theorem wtimes_any (x y : Value) (V U : Int) (w : World) (hx : Wd w x V) (hy : Wd w y U) (bV : absI V < pw 1000) (bU : absI U < pw 1000) :
    Calls Try.prog 40 #[x, y] w fun e w' => ∃ v, e = .returned v ∧ Wd w' v (V * U) ∧ Below w.heap.size w w' := by
  obtain ⟨s, ds, rfl, ra, da, ca, va⟩ := hx
  obtain ⟨t, es, rfl, rb, db, cb, vb⟩ := hy
  have h := times_core (decide (V < 0)) (decide (U < 0)) s t ds es w ra rb da db (wd_len ra da ca va bV) (wd_len rb db cb vb bU)
  rw [va, vb, show turnI (!(decide (V < 0) == decide (U < 0))) (absI V * absI U) = V * U from turn_abs V U] at h
  exact h
end Go.Proofs.Ytdfccjhmpgoacaa.Big
