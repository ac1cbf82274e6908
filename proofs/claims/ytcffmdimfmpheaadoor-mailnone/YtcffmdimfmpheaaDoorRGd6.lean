/- The reference's Good: kind 6. -/
import Derived.Test.YtcffmdimfmpheaaDoorRFn14
namespace Go.Proofs.YtcffmdimfmpheaaDoor
open Go Go.RowKit

set_option maxHeartbeats 4000000 in
set_option maxRecDepth 100000 in
theorem rgood6 (e : Ev) (w : World) (he : e.kd = 6) : Calls Tryd.prog 51 #[.agg (evA e)] w fun r w' => r = .returned (.bool (goodE e)) ∧ Below w.heap.size w w' := by
  have HR : Hid (goodE e = rowB 6 e) := row_good (by decide) (by decide) he
  have HT := rthr6
  have HV := rval6
  have HA := rid_any e.ac
  have HB := rid_any e.th
  obtain ⟨x, hx⟩ : ∃ x, Hid (inB (aLo 6) (aHi 6) e.ac = x) := ⟨_, rfl⟩
  obtain ⟨y, hy⟩ : ∃ y, Hid (inB (tLo 6) (tHi 6) e.th = y) := ⟨_, rfl⟩
  obtain ⟨z, hz⟩ : ∃ z, Hid (inB 0 (vHi 6) e.va = z) := ⟨_, rfl⟩
  rw [show inB 1 1099511627776 e.ac = x from hx.out] at HA
  have fy : (e.th == 0) = y := by rw [← in00]; exact hy.out
  have fz : (e.va == 0) = z := by rw [← in00]; exact hz.out
  have HE := eqCx e z15
  unfold cxV at HE
  rw [show cxI z15 = zC from rfl] at HE
  dsimp only [z15] at HE
  obtain ⟨q, hq⟩ : ∃ q, Hid (decide (cxI e = zC) = q) := ⟨_, rfl⟩
  rw [hq.out] at HE
  have hall : goodE e = (x && (y && (z && q))) := by
    rw [HR.out]
    unfold rowB
    rw [hx.out, hy.out, hz.out]
    rw [show cxK 6 = false from rfl, if_neg (by simp), hq.out]
  rw [hall]
  clear hall hx hy hz HR
  unfold evA
  rw [he]
  clear hq
  cases x with
  | false =>
    simp only [Bool.false_and]
    go_enter Tryd.func51, Tryd.ntmps51
    go_wp2_with (first | (go_at_call 55; first | ((with_reducible refine (HA _).mono ?_); rintro r w' ⟨rfl, hw⟩; subst w') | ((with_reducible refine (HB _).mono ?_); rintro r w' ⟨rfl, hw⟩; subst w')) | (go_at_call 56; (with_reducible refine (HT _).mono ?_); rintro r w' ⟨rfl, hw⟩; subst w') | (go_at_call 57; (with_reducible refine (HV _).mono ?_); rintro r w' ⟨rfl, hw⟩; subst w'))
    go_ret
    exact ⟨rfl, by repeat (first | exact Below.refl _ _ | refine bel_al ?_ _)⟩
  | true =>
    cases y with
    | false =>
      simp only [Bool.true_and, Bool.false_and]
      go_enter Tryd.func51, Tryd.ntmps51
      go_wp2_with (first | (go_at_call 55; first | ((with_reducible refine (HA _).mono ?_); rintro r w' ⟨rfl, hw⟩; subst w') | ((with_reducible refine (HB _).mono ?_); rintro r w' ⟨rfl, hw⟩; subst w')) | (go_at_call 56; (with_reducible refine (HT _).mono ?_); rintro r w' ⟨rfl, hw⟩; subst w') | (go_at_call 57; (with_reducible refine (HV _).mono ?_); rintro r w' ⟨rfl, hw⟩; subst w'))
      go_ret
      exact ⟨rfl, by repeat (first | exact Below.refl _ _ | refine bel_al ?_ _)⟩
    | true =>
      cases z with
      | false =>
        simp only [Bool.true_and, Bool.false_and]
        go_enter Tryd.func51, Tryd.ntmps51
        go_wp2_with (first | (go_at_call 55; first | ((with_reducible refine (HA _).mono ?_); rintro r w' ⟨rfl, hw⟩; subst w') | ((with_reducible refine (HB _).mono ?_); rintro r w' ⟨rfl, hw⟩; subst w')) | (go_at_call 56; (with_reducible refine (HT _).mono ?_); rintro r w' ⟨rfl, hw⟩; subst w') | (go_at_call 57; (with_reducible refine (HV _).mono ?_); rintro r w' ⟨rfl, hw⟩; subst w'))
        go_ret
        exact ⟨rfl, by repeat (first | exact Below.refl _ _ | refine bel_al ?_ _)⟩
      | true =>
        simp only [Bool.true_and]
        go_enter Tryd.func51, Tryd.ntmps51
        go_wp2_with (first | (go_at_call 55; first | ((with_reducible refine (HA _).mono ?_); rintro r w' ⟨rfl, hw⟩; subst w') | ((with_reducible refine (HB _).mono ?_); rintro r w' ⟨rfl, hw⟩; subst w')) | (go_at_call 56; (with_reducible refine (HT _).mono ?_); rintro r w' ⟨rfl, hw⟩; subst w') | (go_at_call 57; (with_reducible refine (HV _).mono ?_); rintro r w' ⟨rfl, hw⟩; subst w'))
        go_ret
        exact ⟨rfl, by repeat (first | exact Below.refl _ _ | refine bel_al ?_ _)⟩
end Go.Proofs.YtcffmdimfmpheaaDoor
