/- The contract of the reference's size: how numbers without signs stand. -/
import Derived.Test.YtdfccjhmpgoacaaNLess
namespace Go.Proofs.Ytdfccjhmpgoacaa.Big
open Go.RowKit

theorem cmp_of_lt {V U : Int} (h : V < U) : cmpI V U = -1 := by unfold cmpI; rw [if_neg (by omega), if_pos h]
theorem cmp_of_gt {V U : Int} (h : U < V) : cmpI V U = 1 := by unfold cmpI; rw [if_neg (by omega), if_neg (by omega)]
theorem cmp_self (V : Int) : cmpI V V = 0 := by unfold cmpI; rw [if_pos rfl]
theorem shorter_lt {ds es : List Int} (hd : Dig ds) (he : Dig es) (ce : Canon es) (h : ds.length < es.length) : val ds < val es := by
  have h1 := val_lt hd
  have h2 := canon_len he ce (by omega)
  have h3 := pw_le (show ds.length ≤ es.length - 1 by omega)
  omega
theorem top_lt {ds es : List Int} {m : Nat} (hd : Dig ds) (he : Dig es) (h1 : m < ds.length) (h2 : m < es.length) (ht : ds.drop (m + 1) = es.drop (m + 1)) (h : ds.getD m 0 < es.getD m 0) : val ds < val es := by
  rw [val_split ds (m + 1) (by omega), val_split es (m + 1) (by omega), ht, List.take_succ_eq_append_getElem h1, List.take_succ_eq_append_getElem h2, val_snoc, val_snoc, ← get_in h1, ← get_in h2]
  have a1 := val_lt (dig_take m hd)
  have a2 := val_nonneg (dig_take m he)
  rw [List.length_take, List.length_take, Nat.min_eq_left (by omega), Nat.min_eq_left (by omega)] at *
  have hp := pw_pos m
  generalize ds.getD m 0 = x at *
  generalize es.getD m 0 = y at *
  have h3 : pw m * (x + 1) ≤ pw m * y := Int.mul_le_mul_of_nonneg_left (by omega) (by omega)
  rw [Int.mul_add] at h3
  omega
theorem drop_step {ds es : List Int} {m : Nat} (h1 : m < ds.length) (h2 : m < es.length) (ht : ds.drop (m + 1) = es.drop (m + 1)) (h : ds.getD m 0 = es.getD m 0) : ds.drop m = es.drop m := by
  rw [List.drop_eq_getElem_cons h1, List.drop_eq_getElem_cons h2, ht, ← get_in h1, ← get_in h2, h]

set_option maxHeartbeats 2000000 in
theorem rsize_any (s t : Value) (ds es : List Int) (w : World) (hra0 : Row w s ds) (hrb0 : Row w t es) (hda : Dig ds) (hdb : Dig es) (ca : Canon ds) (cb : Canon es) :
    Calls Try.prog 45 #[s, t] w fun e w' => e = .returned (.int .i64 (cmpI (val ds) (val es))) ∧ Below w.heap.size w w' := by
  have hr1 := hra0
  have hr2 := hrb0
  obtain ⟨oa, caa, rfl, la, lm, -, -⟩ := hr1
  obtain ⟨ob, cbb, rfl, lb, lm2, -, -⟩ := hr2
  unfold maxLen at lm lm2
  by_cases hl : ds.length = es.length
  · have hl' : ((ds.length : Int) != (es.length : Int)) = false := by simp; omega
    have HL : Hid (ds.length = es.length) := hl
    go_enter Try.func45, Try.ntmps45
    clear hl
    go_wp2_with fail
    go_loopw [5] (fun i wr => ∃ k : Nat, k ≤ ds.length ∧ i = .int .i64 ((k : Int) - 1) ∧ Hid (ds.drop k = es.drop k) ∧ Below w.heap.size w wr) (fun i _ => (intOf i + 1).toNat)
    case atStart => exact ⟨ds.length, Nat.le_refl _, rfl, by unfold Hid; rw [List.drop_eq_nil_of_le (Nat.le_refl _), List.drop_eq_nil_of_le (by rw [HL.out]; exact Nat.le_refl _)], Below.refl _ _⟩
    case round =>
      obtain ⟨k, hk, rfl, ht, hbel⟩ := hrel
      have hra := hra0.below hbel
      have hrb := hrb0.below hbel
      by_cases h0 : 0 < k
      · obtain ⟨m, rfl⟩ : ∃ m, k = m + 1 := ⟨k - 1, by omega⟩
        have hm2 : m < es.length := by rw [← HL.out]; omega
        obtain ⟨ab, ao, rfl, alt, ac⟩ := hra.at (i := m) (by omega)
        obtain ⟨bb, bo, rfl, blt, bc⟩ := hrb.at hm2
        have hlt1 := @top_lt ds es m hda hdb (by omega) hm2 ht.out
        have hlt2 := @top_lt es ds m hdb hda hm2 (by omega) ht.out.symm
        have hdr := @drop_step ds es m (by omega) hm2 ht.out
        obtain ⟨x, hx⟩ : ∃ x, Hid (ds.getD m 0 = x) := ⟨_, rfl⟩
        obtain ⟨y, hy⟩ : ∃ y, Hid (es.getD m 0 = y) := ⟨_, rfl⟩
        rw [hx.out] at ac hlt1 hlt2 hdr
        rw [hy.out] at bc hlt1 hlt2 hdr
        have em : ((m + 1 : Nat) : Int) - 1 = (m : Int) := by omega
        rw [em]
        clear em hra hrb
        by_cases hxy : x = y
        · have hxy' : (x != y) = false := by simpa using hxy
          have HD : Hid (ds.drop m = es.drop m) := hdr hxy
          clear hlt1 hlt2 hdr hxy
          go_wp2
          go_region
          all_goals
            go_wp2
            go_roundw
            case rel => exact ⟨m, by omega, rfl, HD, hbel.drew⟩
            case measure => simp [intOf]
        · have hxy' : (x != y) = true := by simpa using hxy
          by_cases hlt : x < y
          · have HC : Hid (cmpI (val ds) (val es) = -1) := cmp_of_lt (hlt1 hlt)
            clear hlt1 hlt2 hdr hxy
            go_wp2
            go_region
            all_goals
              go_wp2
              go_region
              all_goals
                go_wp2
                go_ret
                exact ⟨ret_int HC.out.symm, hbel.drew.drew⟩
          · have HC : Hid (cmpI (val ds) (val es) = 1) := cmp_of_gt (hlt2 (by omega))
            have hlt' : decide (x < y) = false := by simpa using hlt
            clear hlt1 hlt2 hdr hxy hlt
            go_wp2
            go_region
            all_goals
              go_wp2
              go_region
              all_goals
                go_wp2
                go_ret
                exact ⟨ret_int HC.out.symm, hbel.drew.drew⟩
      · have hk0 : k = 0 := by omega
        subst hk0
        have HC : Hid (cmpI (val ds) (val es) = 0) := by
          have h := ht.out
          rw [List.drop_zero, List.drop_zero] at h
          unfold Hid; rw [h]; exact cmp_self _
        clear ht hra hrb
        go_wp2
        go_ret
        exact ⟨ret_int HC.out.symm, hbel⟩
  · have hl' : ((ds.length : Int) != (es.length : Int)) = true := by simp; omega
    by_cases hlt : ds.length < es.length
    · rw [cmp_of_lt (shorter_lt hda hdb cb hlt)]
      have hlt' : (ds.length : Int) < (es.length : Int) := by omega
      clear hl
      go_enter Try.func45, Try.ntmps45
      go_wp2
      go_ret
      exact ⟨rfl, Below.refl _ _⟩
    · rw [cmp_of_gt (shorter_lt hdb hda ca (by omega))]
      have hlt' : decide (ds.length < es.length) = false := by simp; omega
      clear hl hlt
      go_enter Try.func45, Try.ntmps45
      go_wp2
      go_ret
      exact ⟨rfl, Below.refl _ _⟩
end Go.Proofs.Ytdfccjhmpgoacaa.Big
