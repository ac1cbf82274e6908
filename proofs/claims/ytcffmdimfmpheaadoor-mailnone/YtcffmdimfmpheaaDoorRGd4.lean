/- The reference's Good: kind 4. -/
import Derived.Test.YtcffmdimfmpheaaDoorRFn14
namespace Go.Proofs.YtcffmdimfmpheaaDoor
open Go Go.RowKit

set_option maxHeartbeats 4000000 in
set_option maxRecDepth 100000 in
theorem rgood4 (e : Ev) (w : World) (he : e.kd = 4) : Calls Tryd.prog 51 #[.agg (evA e)] w fun r w' => r = .returned (.bool (goodE e)) ∧ Below w.heap.size w w' := by
  have HR : Hid (goodE e = rowB 4 e) := row_good (by decide) (by decide) he
  have HT := rthr4
  have HV := rval4
  have HA := rid_any e.ac
  have HB := rid_any e.th
  obtain ⟨x, hx⟩ : ∃ x, Hid (inB (aLo 4) (aHi 4) e.ac = x) := ⟨_, rfl⟩
  obtain ⟨y, hy⟩ : ∃ y, Hid (inB (tLo 4) (tHi 4) e.th = y) := ⟨_, rfl⟩
  obtain ⟨z, hz⟩ : ∃ z, Hid (inB 0 (vHi 4) e.va = z) := ⟨_, rfl⟩
  rw [show inB 1 1099511627776 e.ac = x from hx.out] at HA
  rw [show inB 1 1099511627776 e.th = y from hy.out] at HB
  have fz : (decide (e.va < 0) || decide (1000 < e.va)) = !z := by
    have : inB 0 1000 e.va = z := hz.out
    rw [← this]
    unfold inB
    by_cases h1 : 0 ≤ e.va <;> by_cases h2 : e.va ≤ 1000 <;> simp [h1, h2] <;> omega
  have HE := eqCx e z15
  unfold cxV at HE
  rw [show cxI z15 = zC from rfl] at HE
  dsimp only [z15] at HE
  obtain ⟨q, hq⟩ : ∃ q, Hid (decide (cxI e = zC) = q) := ⟨_, rfl⟩
  rw [hq.out] at HE
  have hall : goodE e = (x && (y && (z && q))) := by
    rw [HR.out]
    unfold rowB
    rw [hx.out, hy.out, hz.out]
    rw [show cxK 4 = false from rfl, if_neg (by simp), hq.out]
  rw [hall]
  clear hall hx hy hz HR
  unfold evA
  rw [he]
  clear hq
  cases x with
  | false =>
    simp only [Bool.false_and]
    go_enter Tryd.func51, Tryd.ntmps51
    go_wp2_with (first | (go_at_call 55; first | ((with_reducible refine (HA _).mono ?_); rintro r w' ⟨rfl, hw⟩; subst w') | ((with_reducible refine (HB _).mono ?_); rintro r w' ⟨rfl, hw⟩; subst w')) | (go_at_call 56; (with_reducible refine (HT _).mono ?_); rintro r w' ⟨rfl, hw⟩; subst w') | (go_at_call 57; (with_reducible refine (HV _).mono ?_); rintro r w' ⟨rfl, hw⟩; subst w'))
    go_ret
    exact ⟨rfl, by repeat (first | exact Below.refl _ _ | refine bel_al ?_ _)⟩
  | true =>
    cases y with
    | false =>
      simp only [Bool.true_and, Bool.false_and]
      go_enter Tryd.func51, Tryd.ntmps51
      go_wp2_with (first | (go_at_call 55; first | ((with_reducible refine (HA _).mono ?_); rintro r w' ⟨rfl, hw⟩; subst w') | ((with_reducible refine (HB _).mono ?_); rintro r w' ⟨rfl, hw⟩; subst w')) | (go_at_call 56; (with_reducible refine (HT _).mono ?_); rintro r w' ⟨rfl, hw⟩; subst w') | (go_at_call 57; (with_reducible refine (HV _).mono ?_); rintro r w' ⟨rfl, hw⟩; subst w'))
      go_ret
      exact ⟨rfl, by repeat (first | exact Below.refl _ _ | refine bel_al ?_ _)⟩
    | true =>
      cases z with
      | false =>
        by_cases hv : e.va < 0
        · simp only [Bool.true_and, Bool.false_and]
          clear fz
          go_enter Tryd.func51, Tryd.ntmps51
          go_wp2_with (first | (go_at_call 55; first | ((with_reducible refine (HA _).mono ?_); rintro r w' ⟨rfl, hw⟩; subst w') | ((with_reducible refine (HB _).mono ?_); rintro r w' ⟨rfl, hw⟩; subst w')) | (go_at_call 56; (with_reducible refine (HT _).mono ?_); rintro r w' ⟨rfl, hw⟩; subst w') | (go_at_call 57; (with_reducible refine (HV _).mono ?_); rintro r w' ⟨rfl, hw⟩; subst w'))
          go_ret
          exact ⟨rfl, by repeat (first | exact Below.refl _ _ | refine bel_al ?_ _)⟩
        · have hv2 : 1000 < e.va := by simp at fz; omega
          simp only [Bool.true_and, Bool.false_and]
          clear fz
          go_enter Tryd.func51, Tryd.ntmps51
          go_wp2_with (first | (go_at_call 55; first | ((with_reducible refine (HA _).mono ?_); rintro r w' ⟨rfl, hw⟩; subst w') | ((with_reducible refine (HB _).mono ?_); rintro r w' ⟨rfl, hw⟩; subst w')) | (go_at_call 56; (with_reducible refine (HT _).mono ?_); rintro r w' ⟨rfl, hw⟩; subst w') | (go_at_call 57; (with_reducible refine (HV _).mono ?_); rintro r w' ⟨rfl, hw⟩; subst w'))
          go_ret
          exact ⟨rfl, by repeat (first | exact Below.refl _ _ | refine bel_al ?_ _)⟩
      | true =>
        simp only [Bool.true_and]
        have hv : 0 ≤ e.va ∧ e.va ≤ 1000 := by simp at fz; omega
        obtain ⟨hv1, hv2⟩ := hv
        clear fz
        go_enter Tryd.func51, Tryd.ntmps51
        go_wp2_with (first | (go_at_call 55; first | ((with_reducible refine (HA _).mono ?_); rintro r w' ⟨rfl, hw⟩; subst w') | ((with_reducible refine (HB _).mono ?_); rintro r w' ⟨rfl, hw⟩; subst w')) | (go_at_call 56; (with_reducible refine (HT _).mono ?_); rintro r w' ⟨rfl, hw⟩; subst w') | (go_at_call 57; (with_reducible refine (HV _).mono ?_); rintro r w' ⟨rfl, hw⟩; subst w'))
        go_ret
        exact ⟨rfl, by repeat (first | exact Below.refl _ _ | refine bel_al ?_ _)⟩
end Go.Proofs.YtcffmdimfmpheaaDoor
