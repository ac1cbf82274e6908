/- The contract of the reference's trim. -/
import Derived.Test.YtdfccjhmpgoacaaNOf
namespace Go.Proofs.Ytdfccjhmpgoacaa.Big
open Go.RowKit

theorem take_zero_digit {ds : List Int} {k : Nat} (h : k < ds.length) (hz : ds.getD k 0 = 0) : val (ds.take (k + 1)) = val (ds.take k) := by
  rw [List.take_succ_eq_append_getElem h, val_snoc, ← get_in h, hz]; omega
theorem canon_take {ds : List Int} {k : Nat} (h : k < ds.length) (hz : ds.getD k 0 ≠ 0) : Canon (ds.take (k + 1)) := by
  rw [List.take_succ_eq_append_getElem h, ← get_in h]; exact canon_snoc hz
theorem canon_pos {ds : List Int} (h : Dig ds) (hc : Canon ds) : (0 < ds.length) ↔ 0 < val ds := by
  constructor
  · intro hl
    have h1 := canon_len h hc (by omega)
    have h2 := pw_pos (ds.length - 1)
    omega
  · intro hv
    match ds, hv with
    | [], hv => simp [val] at hv
    | x :: r, _ => simp
theorem turn_neg {b : Bool} {X : Int} (h : 0 ≤ X) : decide (turnI b X < 0) = (b && decide (0 < X)) := by
  cases b
  · simp [turnI]; omega
  · simp [turnI]
theorem abs_turn {b : Bool} {X : Int} (h : 0 ≤ X) : absI (turnI b X) = X := by
  cases b
  · simp only [turnI, absI]; simp; omega
  · simp only [turnI, absI, if_true]; split <;> omega

/-- A slice's first k places. -/
theorem Row.take {w : World} {oa : Option Addr} {cap k : Nat} {ds : List Int} (h : Row w (.slice oa ds.length cap) ds) (hk : k ≤ ds.length) : Row w (.slice oa k cap) (ds.take k) := by
  obtain ⟨ob, c, h1, h2, h3, h4, h5⟩ := h
  simp only [Value.slice.injEq] at h1
  obtain ⟨rfl, _, rfl⟩ := h1
  have hl : (ds.take k).length = k := by rw [List.length_take]; omega
  refine ⟨oa, cap, by rw [hl], by omega, h3, h4, fun i hi => ?_⟩
  rw [hl] at hi
  obtain ⟨b, off, e, hlt, hc⟩ := h5 i (by omega)
  refine ⟨b, off, e, hlt, ?_⟩
  rw [hc, get_in (by omega), get_in (by rw [hl]; exact hi)]
  simp

theorem trim_fin {w : World} {oa : Option Addr} {cap k : Nat} {ds : List Int} {neg : Bool} (hk : k ≤ ds.length) (hrow : Row w (.slice oa k cap) (ds.take k)) (hd : Dig ds) (hv : val (ds.take k) = val ds) (hc : Canon (ds.take k)) {x : Bool} (hx : x = (neg && decide (0 < k))) :
    Wd w (.agg #[.bool x, .slice oa k cap]) (turnI neg (val ds)) := by
  have hl : (ds.take k).length = k := by rw [List.length_take]; omega
  have hp := canon_pos (dig_take k hd) hc
  rw [hl, hv] at hp
  refine ⟨_, ds.take k, ?_, hrow, dig_take k hd, hc, by rw [hv, abs_turn (val_nonneg hd)]⟩
  rw [turn_neg (val_nonneg hd), hx, decide_eq_decide.2 hp]

set_option maxHeartbeats 1000000 in
theorem trim_any (neg : Bool) (s : Value) (ds : List Int) (w : World) (hr : Row w s ds) (hd : Dig ds) :
    Calls Try.prog 43 #[.agg #[.bool neg, s]] w fun e w' => ∃ v, e = .returned v ∧ Wd w' v (turnI neg (val ds)) ∧ Below w.heap.size w w' := by
  have hr0 := hr
  obtain ⟨oa, cap, rfl, hle, hmax, hnil, hcell⟩ := hr0
  unfold maxLen at hmax
  go_enter Try.func43, Try.ntmps43
  go_wp2_with fail
  go_loop [3] (fun n => ∃ k : Nat, k ≤ ds.length ∧ n = .int .i64 k ∧ Hid (val (ds.take k) = val ds)) (fun n => (intOf n).toNat)
  case atStart => exact ⟨ds.length, Nat.le_refl _, rfl, by unfold Hid; rw [List.take_length]⟩
  case round =>
    obtain ⟨k, hk, rfl, hv⟩ := hrel
    by_cases h0 : 0 < k
    · obtain ⟨m, rfl⟩ : ∃ m, k = m + 1 := ⟨k - 1, by omega⟩
      obtain ⟨b, off, rfl, hlt, hc⟩ := hcell m (by omega)
      obtain ⟨x, hx⟩ : ∃ x, Hid (ds.getD m 0 = x) := ⟨_, rfl⟩
      rw [hx.out] at hc
      clear hcell hnil
      by_cases hz : x = 0
      · subst hz
        go_wp2
        go_round
        case rel => exact ⟨m, by omega, rfl, by unfold Hid; rw [← take_zero_digit (by omega) hx.out]; exact hv.out⟩
        case measure => simp [intOf]
      · have hz' : (x == 0) = false := by simpa using hz
        have hcan : Hid (Canon (ds.take (m + 1))) := canon_take (by omega) (by rw [hx.out]; exact hz)
        clear hz
        have hs1 : (0 : Int) ≤ (m : Int) + 1 := by omega
        have hs2 : (m : Int) + 1 ≤ (cap : Int) := by omega
        cases neg
        · go_wp2
          go_region
          all_goals
            go_wp2
            exact bodyPost_ret (v := .agg #[.bool false, .slice (some ⟨b, off, none⟩) (m + 1) cap]) (by simp [results, Try.results43, go_sem]) rfl ⟨_, rfl, trim_fin hk ((((hr.take hk).alloc _).alloc _).drew) hd hv.out hcan.out (by simp), (((below_alloc w _).trans ((below_alloc _ _).mono (by simp))).drew)⟩
        · go_wp2
          go_region
          all_goals
            go_wp2
            exact bodyPost_ret (v := .agg #[.bool true, .slice (some ⟨b, off, none⟩) (m + 1) cap]) (by simp [results, Try.results43, go_sem]) rfl ⟨_, rfl, trim_fin hk ((((hr.take hk).alloc _).alloc _).drew) hd hv.out hcan.out (by simp), (((below_alloc w _).trans ((below_alloc _ _).mono (by simp))).drew)⟩
    · have hk0 : k = 0 := by omega
      subst hk0
      have hcan : Canon (ds.take 0) := canon_nil
      clear hcell h0
      match oa, hnil, hr with
      | none, hnil, hr =>
        obtain rfl : cap = 0 := hnil rfl
        have hl0 : ds.length = 0 := by omega
        cases neg
        · go_wp2
          go_region
          all_goals
            go_wp2
            exact bodyPost_ret (v := .agg #[.bool false, .slice none 0 0]) (by simp [results, Try.results43, go_sem]) rfl ⟨_, rfl, trim_fin hk ((((hr.take hk).alloc _).alloc _).drew) hd hv.out hcan (by simp), (((below_alloc w _).trans ((below_alloc _ _).mono (by simp))).drew)⟩
        · go_wp2
          go_region
          all_goals
            go_wp2
            exact bodyPost_ret (v := .agg #[.bool false, .slice none 0 0]) (by simp [results, Try.results43, go_sem]) rfl ⟨_, rfl, trim_fin hk ((((hr.take hk).alloc _).alloc _).drew) hd hv.out hcan (by simp), (((below_alloc w _).trans ((below_alloc _ _).mono (by simp))).drew)⟩
      | some ad, hnil, hr =>
        have hs2 : (0 : Int) ≤ (cap : Int) := by omega
        cases neg
        · go_wp2
          go_region
          all_goals
            go_wp2
            exact bodyPost_ret (v := .agg #[.bool false, .slice (some ad) 0 cap]) (by simp [results, Try.results43, go_sem]) rfl ⟨_, rfl, trim_fin hk ((((hr.take hk).alloc _).alloc _).drew) hd hv.out hcan (by simp), (((below_alloc w _).trans ((below_alloc _ _).mono (by simp))).drew)⟩
        · go_wp2
          go_region
          all_goals
            go_wp2
            exact bodyPost_ret (v := .agg #[.bool false, .slice (some ad) 0 cap]) (by simp [results, Try.results43, go_sem]) rfl ⟨_, rfl, trim_fin hk ((((hr.take hk).alloc _).alloc _).drew) hd hv.out hcan (by simp), (((below_alloc w _).trans ((below_alloc _ _).mono (by simp))).drew)⟩
end Go.Proofs.Ytdfccjhmpgoacaa.Big
