/- The reference's id, threads, values. -/
/- The reference's Good: kind 1. -/
import Derived.Test.YtgofijhopjpnhaaDoorJ06Rows2
namespace Go.Proofs.YtgofijhopjpnhaaDoor
open Go Go.RowKit

theorem rid_any (n : Int) (w : World) : Calls Tryd.prog 55 #[.int .i64 n] w fun e w' => e = .returned (.bool (inB 1 1099511627776 n)) ∧ w' = w := by
  unfold inB
  by_cases h1 : 1 ≤ n
  · by_cases h2 : n ≤ 1099511627776
    · simp only [h1, h2, decide_true, Bool.and_self]
      go_enter Tryd.func55, Tryd.ntmps55
      go_wp2_with fail
      go_ret
      exact ⟨rfl, rfl⟩
    · simp only [h1, h2, decide_true, decide_false, Bool.and_false]
      go_enter Tryd.func55, Tryd.ntmps55
      go_wp2_with fail
      go_ret
      exact ⟨rfl, rfl⟩
  · simp only [h1, decide_false, Bool.false_and]
    go_enter Tryd.func55, Tryd.ntmps55
    go_wp2_with fail
    go_ret
    exact ⟨rfl, rfl⟩
theorem rthr1 (w : World) : Calls Tryd.prog 52 #[.int .i64 1] w fun e w' => e = .returned (.bool false) ∧ w' = w := by
  go_enter Tryd.func52, Tryd.ntmps52
  go_wp2_with fail
  go_ret
  exact ⟨rfl, rfl⟩
theorem rthr2 (w : World) : Calls Tryd.prog 52 #[.int .i64 2] w fun e w' => e = .returned (.bool true) ∧ w' = w := by
  go_enter Tryd.func52, Tryd.ntmps52
  go_wp2_with fail
  go_ret
  exact ⟨rfl, rfl⟩
theorem rthr3 (w : World) : Calls Tryd.prog 52 #[.int .i64 3] w fun e w' => e = .returned (.bool true) ∧ w' = w := by
  go_enter Tryd.func52, Tryd.ntmps52
  go_wp2_with fail
  go_ret
  exact ⟨rfl, rfl⟩
theorem rthr4 (w : World) : Calls Tryd.prog 52 #[.int .i64 4] w fun e w' => e = .returned (.bool true) ∧ w' = w := by
  go_enter Tryd.func52, Tryd.ntmps52
  go_wp2_with fail
  go_ret
  exact ⟨rfl, rfl⟩
theorem rthr5 (w : World) : Calls Tryd.prog 52 #[.int .i64 5] w fun e w' => e = .returned (.bool false) ∧ w' = w := by
  go_enter Tryd.func52, Tryd.ntmps52
  go_wp2_with fail
  go_ret
  exact ⟨rfl, rfl⟩
theorem rthr6 (w : World) : Calls Tryd.prog 52 #[.int .i64 6] w fun e w' => e = .returned (.bool false) ∧ w' = w := by
  go_enter Tryd.func52, Tryd.ntmps52
  go_wp2_with fail
  go_ret
  exact ⟨rfl, rfl⟩
theorem rthr7 (w : World) : Calls Tryd.prog 52 #[.int .i64 7] w fun e w' => e = .returned (.bool false) ∧ w' = w := by
  go_enter Tryd.func52, Tryd.ntmps52
  go_wp2_with fail
  go_ret
  exact ⟨rfl, rfl⟩
theorem rval1 (w : World) : Calls Tryd.prog 53 #[.int .i64 1] w fun e w' => e = .returned (.bool false) ∧ w' = w := by
  go_enter Tryd.func53, Tryd.ntmps53
  go_wp2_with fail
  go_ret
  exact ⟨rfl, rfl⟩
theorem rval2 (w : World) : Calls Tryd.prog 53 #[.int .i64 2] w fun e w' => e = .returned (.bool false) ∧ w' = w := by
  go_enter Tryd.func53, Tryd.ntmps53
  go_wp2_with fail
  go_ret
  exact ⟨rfl, rfl⟩
theorem rval3 (w : World) : Calls Tryd.prog 53 #[.int .i64 3] w fun e w' => e = .returned (.bool false) ∧ w' = w := by
  go_enter Tryd.func53, Tryd.ntmps53
  go_wp2_with fail
  go_ret
  exact ⟨rfl, rfl⟩
theorem rval4 (w : World) : Calls Tryd.prog 53 #[.int .i64 4] w fun e w' => e = .returned (.bool true) ∧ w' = w := by
  go_enter Tryd.func53, Tryd.ntmps53
  go_wp2_with fail
  go_ret
  exact ⟨rfl, rfl⟩
theorem rval5 (w : World) : Calls Tryd.prog 53 #[.int .i64 5] w fun e w' => e = .returned (.bool true) ∧ w' = w := by
  go_enter Tryd.func53, Tryd.ntmps53
  go_wp2_with fail
  go_ret
  exact ⟨rfl, rfl⟩
theorem rval6 (w : World) : Calls Tryd.prog 53 #[.int .i64 6] w fun e w' => e = .returned (.bool false) ∧ w' = w := by
  go_enter Tryd.func53, Tryd.ntmps53
  go_wp2_with fail
  go_ret
  exact ⟨rfl, rfl⟩
theorem rval7 (w : World) : Calls Tryd.prog 53 #[.int .i64 7] w fun e w' => e = .returned (.bool false) ∧ w' = w := by
  go_enter Tryd.func53, Tryd.ntmps53
  go_wp2_with fail
  go_ret
  exact ⟨rfl, rfl⟩
theorem in00 (n : Int) : inB 0 0 n = (n == 0) := by
  unfold inB
  by_cases h : n = 0
  · subst h; rfl
  · have : (n == 0) = false := by simpa using h
    rw [this]
    simp
    omega
end Go.Proofs.YtgofijhopjpnhaaDoor
namespace Go.Proofs.YtgofijhopjpnhaaDoor
open Go Go.RowKit

set_option maxHeartbeats 4000000 in
set_option maxRecDepth 100000 in
theorem rgood1 (e : Ev) (w : World) (he : e.kd = 1) : Calls Tryd.prog 26 #[.agg (evA e)] w fun r w' => r = .returned (.bool (goodE e)) ∧ Below w.heap.size w w' := by
  have HR : Hid (goodE e = rowB 1 e) := row_good (by decide) (by decide) he
  have HT := rthr1
  have HV := rval1
  have HA := rid_any e.ac
  have HB := rid_any e.th
  obtain ⟨x, hx⟩ : ∃ x, Hid (inB (aLo 1) (aHi 1) e.ac = x) := ⟨_, rfl⟩
  obtain ⟨y, hy⟩ : ∃ y, Hid (inB (tLo 1) (tHi 1) e.th = y) := ⟨_, rfl⟩
  obtain ⟨z, hz⟩ : ∃ z, Hid (inB 0 (vHi 1) e.va = z) := ⟨_, rfl⟩
  rw [show inB 1 1099511627776 e.ac = x from hx.out] at HA
  have fy : (e.th == 0) = y := by rw [← in00]; exact hy.out
  have fz : (e.va == 0) = z := by rw [← in00]; exact hz.out
  have HE := eqCx e z15
  unfold cxV at HE
  rw [show cxI z15 = zC from rfl] at HE
  dsimp only [z15] at HE
  obtain ⟨q, hq⟩ : ∃ q, Hid (decide (cxI e = zC) = q) := ⟨_, rfl⟩
  rw [hq.out] at HE
  have hall : goodE e = (x && (y && (z && q))) := by
    rw [HR.out]
    unfold rowB
    rw [hx.out, hy.out, hz.out]
    rw [show cxK 1 = false from rfl, if_neg (by simp), hq.out]
  rw [hall]
  clear hall hx hy hz HR
  unfold evA
  rw [he]
  clear hq
  cases x with
  | false =>
    simp only [Bool.false_and]
    go_enter Tryd.func26, Tryd.ntmps26
    go_wp2_with (first | (go_at_call 55; first | ((with_reducible refine (HA _).mono ?_); rintro r w' ⟨rfl, hw⟩; subst w') | ((with_reducible refine (HB _).mono ?_); rintro r w' ⟨rfl, hw⟩; subst w')) | (go_at_call 52; (with_reducible refine (HT _).mono ?_); rintro r w' ⟨rfl, hw⟩; subst w') | (go_at_call 53; (with_reducible refine (HV _).mono ?_); rintro r w' ⟨rfl, hw⟩; subst w'))
    go_ret
    exact ⟨rfl, by repeat (first | exact Below.refl _ _ | refine bel_al ?_ _)⟩
  | true =>
    cases y with
    | false =>
      simp only [Bool.true_and, Bool.false_and]
      go_enter Tryd.func26, Tryd.ntmps26
      go_wp2_with (first | (go_at_call 55; first | ((with_reducible refine (HA _).mono ?_); rintro r w' ⟨rfl, hw⟩; subst w') | ((with_reducible refine (HB _).mono ?_); rintro r w' ⟨rfl, hw⟩; subst w')) | (go_at_call 52; (with_reducible refine (HT _).mono ?_); rintro r w' ⟨rfl, hw⟩; subst w') | (go_at_call 53; (with_reducible refine (HV _).mono ?_); rintro r w' ⟨rfl, hw⟩; subst w'))
      go_ret
      exact ⟨rfl, by repeat (first | exact Below.refl _ _ | refine bel_al ?_ _)⟩
    | true =>
      cases z with
      | false =>
        simp only [Bool.true_and, Bool.false_and]
        go_enter Tryd.func26, Tryd.ntmps26
        go_wp2_with (first | (go_at_call 55; first | ((with_reducible refine (HA _).mono ?_); rintro r w' ⟨rfl, hw⟩; subst w') | ((with_reducible refine (HB _).mono ?_); rintro r w' ⟨rfl, hw⟩; subst w')) | (go_at_call 52; (with_reducible refine (HT _).mono ?_); rintro r w' ⟨rfl, hw⟩; subst w') | (go_at_call 53; (with_reducible refine (HV _).mono ?_); rintro r w' ⟨rfl, hw⟩; subst w'))
        go_ret
        exact ⟨rfl, by repeat (first | exact Below.refl _ _ | refine bel_al ?_ _)⟩
      | true =>
        simp only [Bool.true_and]
        go_enter Tryd.func26, Tryd.ntmps26
        go_wp2_with (first | (go_at_call 55; first | ((with_reducible refine (HA _).mono ?_); rintro r w' ⟨rfl, hw⟩; subst w') | ((with_reducible refine (HB _).mono ?_); rintro r w' ⟨rfl, hw⟩; subst w')) | (go_at_call 52; (with_reducible refine (HT _).mono ?_); rintro r w' ⟨rfl, hw⟩; subst w') | (go_at_call 53; (with_reducible refine (HV _).mono ?_); rintro r w' ⟨rfl, hw⟩; subst w'))
        go_ret
        exact ⟨rfl, by repeat (first | exact Below.refl _ _ | refine bel_al ?_ _)⟩
end Go.Proofs.YtgofijhopjpnhaaDoor
