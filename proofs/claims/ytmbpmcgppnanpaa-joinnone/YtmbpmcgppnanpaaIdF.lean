/- Ids: contracts of Age, Index, the program's and the document's, and of Id (stage 4's, in a namespace of their own). -/
import Derived.Test.YtmbpmcgppnanpaaRows
import Derived.ProofKit
import Derived.BigQuiet
import Derived.OwnWalk
import Derived.Below
import Derived.WalkSmall
namespace Go.Proofs.Ytmbpmcgppnanpaa.Ids
open Go Go.RowKit

/-- May a number be an id? -/
abbrev right (id : Int) : Prop := 65536 ≤ id ∧ id < 140737488355328
def ageI (id : Int) : Int := if right id then id / 65536 else 0
def indexI (id : Int) : Int := if right id then id % 65536 else -1
def idI (i a : Int) : Int := if 0 ≤ i ∧ i < 65536 ∧ 1 ≤ a ∧ a ≤ 2147483647 then a * 65536 + i else 0

theorem tdiv_pos {x : Int} (h : 0 ≤ x) : Int.tdiv x 65536 = x / 65536 := Int.tdiv_eq_ediv_of_nonneg h
theorem tmod_pos {x : Int} (h : 0 ≤ x) : Int.tmod x 65536 = x % 65536 := Int.tmod_eq_emod_of_nonneg h
theorem tdiv_neg {x : Int} (h0 : -9223372036854775808 ≤ x) (h : x < 65536) : Int.tdiv x 65536 < 1 ∧ -9223372036854775808 ≤ Int.tdiv x 65536 := by
  by_cases h0 : 0 ≤ x
  · rw [tdiv_pos h0]; omega
  · have e : Int.tdiv x 65536 = -(Int.tdiv (-x) 65536) := by rw [Int.neg_tdiv]; omega
    rw [e, tdiv_pos (by omega)]
    omega

set_option maxHeartbeats 1000000

theorem age_any (id : Int) (h0 : -9223372036854775808 ≤ id) (h1 : id ≤ 9223372036854775807) (w : World) :
    Calls Try.prog 51 #[.int .i64 id] w fun e w' => e = .returned (.int .i64 (ageI id)) ∧ w' = w := by
  unfold ageI
  by_cases h : id < 65536
  · have hd := tdiv_neg h0 h
    have hw : IntKind.i64.wrap (Int.tdiv id 65536) = Int.tdiv id 65536 := by rw [IntKind.wrap_i64]; omega
    rw [if_neg (by omega)]
    obtain ⟨hd, _⟩ := hd
    go_enter Try.func51, Try.ntmps51
    go_wp2_with fail
    go_ret
    exact ⟨rfl, rfl⟩
  · have e := tdiv_pos (x := id) (by omega)
    have hw : IntKind.i64.wrap (id / 65536) = id / 65536 := by rw [IntKind.wrap_i64]; omega
    by_cases h2 : id < 140737488355328
    · rw [if_pos (by omega)]
      have h3 : ¬ id / 65536 < 1 := by omega
      have h4 : ¬ 2147483647 < id / 65536 := by omega
      go_enter Try.func51, Try.ntmps51
      go_wp2_with fail
      go_ret
      exact ⟨rfl, rfl⟩
    · rw [if_neg (by omega)]
      have h3 : ¬ id / 65536 < 1 := by omega
      have h4 : 2147483647 < id / 65536 := by omega
      go_enter Try.func51, Try.ntmps51
      go_wp2_with fail
      go_ret
      exact ⟨rfl, rfl⟩

theorem index_any (id : Int) (h0 : -9223372036854775808 ≤ id) (h1 : id ≤ 9223372036854775807) (w : World) :
    Calls Try.prog 34 #[.int .i64 id] w fun e w' => e = .returned (.int .i64 (indexI id)) ∧ w' = w := by
  have ha := age_any id h0 h1 w
  unfold indexI
  by_cases h : right id
  · have ea : ageI id = id / 65536 := by unfold ageI; rw [if_pos h]
    rw [ea] at ha
    rw [if_pos h]
    obtain ⟨h2, h3⟩ := h
    have h4 : ((id / 65536 : Int) == 0) = false := by simp; omega
    have e := tmod_pos (x := id) (by omega)
    have hw : IntKind.i64.wrap (id % 65536) = id % 65536 := by rw [IntKind.wrap_i64]; omega
    go_enter Try.func34, Try.ntmps34
    go_wp2_with (go_at_call 51; refine ha.mono ?_; rintro e w' ⟨rfl, rfl⟩)
    go_ret
    exact ⟨rfl, rfl⟩
  · have ea : ageI id = 0 := by unfold ageI; rw [if_neg h]
    rw [ea] at ha
    rw [if_neg h]
    go_enter Try.func34, Try.ntmps34
    go_wp2_with (go_at_call 51; refine ha.mono ?_; rintro e w' ⟨rfl, rfl⟩)
    go_ret
    exact ⟨rfl, rfl⟩

theorem rright_any (id : Int) (h1 : id ≤ 9223372036854775807) (w : World) :
    Calls Try.prog 65 #[.int .i64 id] w fun e w' => e = .returned (.bool (decide (right id))) ∧ w' = w := by
  by_cases h : 65536 ≤ id
  · have e := tdiv_pos (x := id) (by omega)
    have hw : IntKind.i64.wrap (id / 65536) = id / 65536 := by rw [IntKind.wrap_i64]; omega
    have e2 : decide (right id) = decide (id / 65536 ≤ 2147483647) := by rw [decide_eq_decide]; omega
    rw [e2]
    go_enter Try.func65, Try.ntmps65
    go_wp2_with fail
    go_ret
    exact ⟨rfl, rfl⟩
  · have e2 : decide (right id) = false := by rw [decide_eq_false_iff_not]; omega
    rw [e2]
    go_enter Try.func65, Try.ntmps65
    go_wp2_with fail
    go_ret
    exact ⟨rfl, rfl⟩

theorem rindex_any (id : Int) (h1 : id ≤ 9223372036854775807) (w : World) :
    Calls Try.prog 60 #[.int .i64 id] w fun e w' => e = .returned (.int .i64 (indexI id)) ∧ w' = w := by
  have ha := rright_any id h1 w
  unfold indexI
  by_cases h : right id
  · rw [decide_eq_true h] at ha
    rw [if_pos h]
    have e := tmod_pos (x := id) (by omega)
    have hw : IntKind.i64.wrap (id % 65536) = id % 65536 := by rw [IntKind.wrap_i64]; omega
    go_enter Try.func60, Try.ntmps60
    go_wp2_with (go_at_call 65; refine ha.mono ?_; rintro e w' ⟨rfl, rfl⟩)
    go_ret
    exact ⟨rfl, rfl⟩
  · rw [decide_eq_false h] at ha
    rw [if_neg h]
    go_enter Try.func60, Try.ntmps60
    go_wp2_with (go_at_call 65; refine ha.mono ?_; rintro e w' ⟨rfl, rfl⟩)
    go_ret
    exact ⟨rfl, rfl⟩

theorem rid_any (i a : Int) (w : World) :
    Calls Try.prog 42 #[.int .i64 i, .int .i64 a] w fun e w' => e = .returned (.int .i64 (idI i a)) ∧ w' = w := by
  unfold idI
  by_cases h : 0 ≤ i ∧ i < 65536 ∧ 1 ≤ a ∧ a ≤ 2147483647
  · rw [if_pos h]
    obtain ⟨h1, h2, h3, h4⟩ := h
    have hw : IntKind.i64.wrap (a * 65536) = a * 65536 := by rw [IntKind.wrap_i64]; omega
    have hw2 : IntKind.i64.wrap (a * 65536 + i) = a * 65536 + i := by rw [IntKind.wrap_i64]; omega
    have h5 : ¬ i < 0 := by omega
    have h6 : ¬ a < 1 := by omega
    have h7 : ¬ 2147483647 < a := by omega
    have h8 : ¬ 65535 < i := by omega
    have h9 : ¬ 65536 ≤ i := by omega
    go_enter Try.func42, Try.ntmps42
    go_wp2_with fail
    go_ret
    exact ⟨rfl, rfl⟩
  · rw [if_neg h]
    by_cases h1 : i < 0
    · go_enter Try.func42, Try.ntmps42
      go_wp2_with fail
      go_ret
      exact ⟨rfl, rfl⟩
    · by_cases h2 : 65536 ≤ i
      · have h3 : 65535 < i := by omega
        go_enter Try.func42, Try.ntmps42
        go_wp2_with fail
        go_ret
        exact ⟨rfl, rfl⟩
      · have h3 : ¬ 65535 < i := by omega
        by_cases h4 : a < 1
        · go_enter Try.func42, Try.ntmps42
          go_wp2_with fail
          go_ret
          exact ⟨rfl, rfl⟩
        · have h5 : 2147483647 < a := by omega
          go_enter Try.func42, Try.ntmps42
          go_wp2_with fail
          go_ret
          exact ⟨rfl, rfl⟩

theorem index_id (i a : Int) (h : idI i a ≠ 0) : indexI (idI i a) = i ∧ ageI (idI i a) = a := by
  unfold idI at h ⊢
  by_cases hc : 0 ≤ i ∧ i < 65536 ∧ 1 ≤ a ∧ a ≤ 2147483647
  · rw [if_pos hc]
    unfold indexI ageI
    rw [if_pos (by omega), if_pos (by omega)]
    omega
  · rw [if_neg hc] at h
    exact absurd rfl h
theorem idI_bd (i a : Int) : 0 ≤ idI i a ∧ idI i a < 140737488355328 := by
  unfold idI
  split <;> omega
theorem ageI_bd (id : Int) : 0 ≤ ageI id ∧ ageI id ≤ 2147483647 := by
  unfold ageI
  split <;> omega
theorem indexI_bd (id : Int) : -1 ≤ indexI id ∧ indexI id < 65536 := by
  unfold indexI
  split <;> omega
end Go.Proofs.Ytmbpmcgppnanpaa.Ids
