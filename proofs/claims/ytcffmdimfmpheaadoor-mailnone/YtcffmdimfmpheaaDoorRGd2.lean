/- The reference's Good: kind 2. -/
import Derived.Test.YtcffmdimfmpheaaDoorRFn14
namespace Go.Proofs.YtcffmdimfmpheaaDoor
open Go Go.RowKit

set_option maxHeartbeats 4000000 in
set_option maxRecDepth 100000 in
theorem rgood2 (e : Ev) (w : World) (he : e.kd = 2) : Calls Tryd.prog 51 #[.agg (evA e)] w fun r w' => r = .returned (.bool (goodE e)) ∧ Below w.heap.size w w' := by
  have HR : Hid (goodE e = rowB 2 e) := row_good (by decide) (by decide) he
  have HT := rthr2
  have HV := rval2
  have HA := rid_any e.ac
  have HB := rid_any e.th
  obtain ⟨x, hx⟩ : ∃ x, Hid (inB (aLo 2) (aHi 2) e.ac = x) := ⟨_, rfl⟩
  obtain ⟨y, hy⟩ : ∃ y, Hid (inB (tLo 2) (tHi 2) e.th = y) := ⟨_, rfl⟩
  obtain ⟨z, hz⟩ : ∃ z, Hid (inB 0 (vHi 2) e.va = z) := ⟨_, rfl⟩
  rw [show inB 1 1099511627776 e.ac = x from hx.out] at HA
  rw [show inB 1 1099511627776 e.th = y from hy.out] at HB
  have fz : (e.va == 0) = z := by rw [← in00]; exact hz.out
  have hq : Hid ((decide (0 ≤ e.pg) && decide (e.pg ≤ 7) && decide (0 ≤ e.pc) && decide (e.pc ≤ 64) && decide (0 ≤ e.dp) && decide (e.dp ≤ 8)) = ctxB e.pg e.pc e.dp) := Hid.mk (by unfold ctxB inB; simp only [Bool.and_assoc])
  have hall : goodE e = (x && (y && (z && ctxB e.pg e.pc e.dp))) := by
    rw [HR.out]
    unfold rowB
    rw [hx.out, hy.out, hz.out]
    rw [show cxK 2 = true from rfl, if_pos rfl]
  rw [hall]
  clear hall hx hy hz HR
  unfold evA
  rw [he]
  cases x with
  | false =>
    simp only [Bool.false_and]
    go_enter Tryd.func51, Tryd.ntmps51
    go_wp2_with (first | (go_at_call 55; first | ((with_reducible refine (HA _).mono ?_); rintro r w' ⟨rfl, hw⟩; subst w') | ((with_reducible refine (HB _).mono ?_); rintro r w' ⟨rfl, hw⟩; subst w')) | (go_at_call 56; (with_reducible refine (HT _).mono ?_); rintro r w' ⟨rfl, hw⟩; subst w') | (go_at_call 57; (with_reducible refine (HV _).mono ?_); rintro r w' ⟨rfl, hw⟩; subst w'))
    go_ret
    exact ⟨rfl, by repeat (first | exact Below.refl _ _ | refine bel_al ?_ _)⟩
  | true =>
    cases y with
    | false =>
      simp only [Bool.true_and, Bool.false_and]
      go_enter Tryd.func51, Tryd.ntmps51
      go_wp2_with (first | (go_at_call 55; first | ((with_reducible refine (HA _).mono ?_); rintro r w' ⟨rfl, hw⟩; subst w') | ((with_reducible refine (HB _).mono ?_); rintro r w' ⟨rfl, hw⟩; subst w')) | (go_at_call 56; (with_reducible refine (HT _).mono ?_); rintro r w' ⟨rfl, hw⟩; subst w') | (go_at_call 57; (with_reducible refine (HV _).mono ?_); rintro r w' ⟨rfl, hw⟩; subst w'))
      go_ret
      exact ⟨rfl, by repeat (first | exact Below.refl _ _ | refine bel_al ?_ _)⟩
    | true =>
      cases z with
      | false =>
        simp only [Bool.true_and, Bool.false_and]
        go_enter Tryd.func51, Tryd.ntmps51
        go_wp2_with (first | (go_at_call 55; first | ((with_reducible refine (HA _).mono ?_); rintro r w' ⟨rfl, hw⟩; subst w') | ((with_reducible refine (HB _).mono ?_); rintro r w' ⟨rfl, hw⟩; subst w')) | (go_at_call 56; (with_reducible refine (HT _).mono ?_); rintro r w' ⟨rfl, hw⟩; subst w') | (go_at_call 57; (with_reducible refine (HV _).mono ?_); rintro r w' ⟨rfl, hw⟩; subst w'))
        go_ret
        exact ⟨rfl, by repeat (first | exact Below.refl _ _ | refine bel_al ?_ _)⟩
      | true =>
        simp only [Bool.true_and]
        rw [← hq.out]
        clear hq
        by_cases h0 : 0 ≤ e.pg
        · skip
          by_cases h1 : e.pg ≤ 7
          · skip
            by_cases h2 : 0 ≤ e.pc
            · skip
              by_cases h3 : e.pc ≤ 64
              · skip
                by_cases h4 : 0 ≤ e.dp
                · skip
                  by_cases h5 : e.dp ≤ 8
                  · skip
                    simp only [h0, h1, h2, h3, h4, h5, decide_true, Bool.and_self]
                    go_enter Tryd.func51, Tryd.ntmps51
                    go_wp2_with (first | (go_at_call 55; first | ((with_reducible refine (HA _).mono ?_); rintro r w' ⟨rfl, hw⟩; subst w') | ((with_reducible refine (HB _).mono ?_); rintro r w' ⟨rfl, hw⟩; subst w')) | (go_at_call 56; (with_reducible refine (HT _).mono ?_); rintro r w' ⟨rfl, hw⟩; subst w') | (go_at_call 57; (with_reducible refine (HV _).mono ?_); rintro r w' ⟨rfl, hw⟩; subst w'))
                    go_ret
                    exact ⟨rfl, by repeat (first | exact Below.refl _ _ | refine bel_al ?_ _)⟩
                  · have e5 : decide (e.dp ≤ 8) = false := decide_eq_false h5
                    rw [e5]
                    simp only [Bool.and_false]
                    go_enter Tryd.func51, Tryd.ntmps51
                    go_wp2_with (first | (go_at_call 55; first | ((with_reducible refine (HA _).mono ?_); rintro r w' ⟨rfl, hw⟩; subst w') | ((with_reducible refine (HB _).mono ?_); rintro r w' ⟨rfl, hw⟩; subst w')) | (go_at_call 56; (with_reducible refine (HT _).mono ?_); rintro r w' ⟨rfl, hw⟩; subst w') | (go_at_call 57; (with_reducible refine (HV _).mono ?_); rintro r w' ⟨rfl, hw⟩; subst w'))
                    go_ret
                    exact ⟨rfl, by repeat (first | exact Below.refl _ _ | refine bel_al ?_ _)⟩
                · have e4 : decide (0 ≤ e.dp) = false := decide_eq_false h4
                  rw [e4]
                  simp only [Bool.and_false, Bool.false_and]
                  go_enter Tryd.func51, Tryd.ntmps51
                  go_wp2_with (first | (go_at_call 55; first | ((with_reducible refine (HA _).mono ?_); rintro r w' ⟨rfl, hw⟩; subst w') | ((with_reducible refine (HB _).mono ?_); rintro r w' ⟨rfl, hw⟩; subst w')) | (go_at_call 56; (with_reducible refine (HT _).mono ?_); rintro r w' ⟨rfl, hw⟩; subst w') | (go_at_call 57; (with_reducible refine (HV _).mono ?_); rintro r w' ⟨rfl, hw⟩; subst w'))
                  go_ret
                  exact ⟨rfl, by repeat (first | exact Below.refl _ _ | refine bel_al ?_ _)⟩
              · have e3 : decide (e.pc ≤ 64) = false := decide_eq_false h3
                rw [e3]
                simp only [Bool.and_false, Bool.false_and]
                go_enter Tryd.func51, Tryd.ntmps51
                go_wp2_with (first | (go_at_call 55; first | ((with_reducible refine (HA _).mono ?_); rintro r w' ⟨rfl, hw⟩; subst w') | ((with_reducible refine (HB _).mono ?_); rintro r w' ⟨rfl, hw⟩; subst w')) | (go_at_call 56; (with_reducible refine (HT _).mono ?_); rintro r w' ⟨rfl, hw⟩; subst w') | (go_at_call 57; (with_reducible refine (HV _).mono ?_); rintro r w' ⟨rfl, hw⟩; subst w'))
                go_ret
                exact ⟨rfl, by repeat (first | exact Below.refl _ _ | refine bel_al ?_ _)⟩
            · have e2 : decide (0 ≤ e.pc) = false := decide_eq_false h2
              rw [e2]
              simp only [Bool.and_false, Bool.false_and]
              go_enter Tryd.func51, Tryd.ntmps51
              go_wp2_with (first | (go_at_call 55; first | ((with_reducible refine (HA _).mono ?_); rintro r w' ⟨rfl, hw⟩; subst w') | ((with_reducible refine (HB _).mono ?_); rintro r w' ⟨rfl, hw⟩; subst w')) | (go_at_call 56; (with_reducible refine (HT _).mono ?_); rintro r w' ⟨rfl, hw⟩; subst w') | (go_at_call 57; (with_reducible refine (HV _).mono ?_); rintro r w' ⟨rfl, hw⟩; subst w'))
              go_ret
              exact ⟨rfl, by repeat (first | exact Below.refl _ _ | refine bel_al ?_ _)⟩
          · have e1 : decide (e.pg ≤ 7) = false := decide_eq_false h1
            rw [e1]
            simp only [Bool.and_false, Bool.false_and]
            go_enter Tryd.func51, Tryd.ntmps51
            go_wp2_with (first | (go_at_call 55; first | ((with_reducible refine (HA _).mono ?_); rintro r w' ⟨rfl, hw⟩; subst w') | ((with_reducible refine (HB _).mono ?_); rintro r w' ⟨rfl, hw⟩; subst w')) | (go_at_call 56; (with_reducible refine (HT _).mono ?_); rintro r w' ⟨rfl, hw⟩; subst w') | (go_at_call 57; (with_reducible refine (HV _).mono ?_); rintro r w' ⟨rfl, hw⟩; subst w'))
            go_ret
            exact ⟨rfl, by repeat (first | exact Below.refl _ _ | refine bel_al ?_ _)⟩
        · have e0 : decide (0 ≤ e.pg) = false := decide_eq_false h0
          rw [e0]
          simp only [Bool.false_and]
          go_enter Tryd.func51, Tryd.ntmps51
          go_wp2_with (first | (go_at_call 55; first | ((with_reducible refine (HA _).mono ?_); rintro r w' ⟨rfl, hw⟩; subst w') | ((with_reducible refine (HB _).mono ?_); rintro r w' ⟨rfl, hw⟩; subst w')) | (go_at_call 56; (with_reducible refine (HT _).mono ?_); rintro r w' ⟨rfl, hw⟩; subst w') | (go_at_call 57; (with_reducible refine (HV _).mono ?_); rintro r w' ⟨rfl, hw⟩; subst w'))
          go_ret
          exact ⟨rfl, by repeat (first | exact Below.refl _ _ | refine bel_al ?_ _)⟩
end Go.Proofs.YtcffmdimfmpheaaDoor
