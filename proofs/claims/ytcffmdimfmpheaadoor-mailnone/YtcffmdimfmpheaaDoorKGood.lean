/- Good: the program's. -/
import Derived.Test.YtcffmdimfmpheaaDoorKFns
namespace Go.Proofs.YtcffmdimfmpheaaDoor
open Go Go.RowKit

theorem zero11 : (Value.agg #[.int .i64 0, .int .i64 0, .int .i64 0, .int .i64 0, .int .i64 0, .int .i64 0, .int .i64 0, .int .i64 0, .int .i64 0, .int .i64 0, .int .i64 0]) = .agg (cxV z15) := rfl
set_option maxHeartbeats 2000000 in
set_option maxRecDepth 100000 in
theorem good_any (e : Ev) (w : World) (hT : Tab w) : Calls Tryd.prog 53 #[.agg (evA e)] w fun r w' => r = .returned (.bool (goodE e)) ∧ Below w.heap.size w w' := by
  cases hk : kindB e.kd with
  | false =>
    have HK := iskind_any e.kd
    rw [hk] at HK
    rw [good_kind hk]
    clear hk
    unfold evA
    go_enter Tryd.func53, Tryd.ntmps53
    go_wp2_with (go_at_call 58; (with_reducible refine (HK _).mono ?_); rintro e w' ⟨rfl, rfl⟩)
    go_ret
    exact ⟨rfl, by repeat (first | exact Below.refl _ _ | refine bel_al ?_ _)⟩
  | true =>
    have HK := iskind_any e.kd
    rw [hk] at HK
    obtain ⟨k, he, h1, h7⟩ := kind_nat hk
    rw [row_good h1 h7 he]
    have R := (hT.alloc (.cells (evA e) 33)).row k (by omega)
    have t0 : (w.alloc (.cells (evA e) 33)).cell? ⟨0, k * 8, none⟩ = some (.string ⟨(nmK k).toArray⟩) := R 0 _ rfl
    have t1 := R 1 _ rfl
    have t2 := R 2 _ rfl
    have t3 := R 3 _ rfl
    have t4 := R 4 _ rfl
    have t5 := R 5 _ rfl
    have t6 := R 6 _ rfl
    have t7 := R 7 _ rfl
    unfold rowB
    unfold evA at t0 t1 t2 t3 t4 t5 t6 t7 ⊢
    rw [he] at HK t0 t1 t2 t3 t4 t5 t6 t7 ⊢
    have HC := gctx_any e
    unfold cxV at HC
    have HE := eqCx e z15
    unfold cxV at HE
    generalize nmK k = nm at *
    generalize aLo k = a0 at *
    generalize aHi k = a1 at *
    generalize tLo k = u0 at *
    generalize tHi k = u1 at *
    generalize vHi k = v1 at *
    have H1 := holds_any a0 a1 e.ac
    have H2 := holds_any u0 u1 e.th
    have H3 := holds_any 0 v1 e.va
    generalize inB a0 a1 e.ac = x at H1 ⊢
    generalize inB u0 u1 e.th = y at H2 ⊢
    generalize inB 0 v1 e.va = z at H3 ⊢
    have hlt : (k : Int) < 8 := by omega
    have hge : (0 : Int) ≤ (k : Int) := by omega
    clear hk he R
    cases x with
    | false =>
      simp only [Bool.false_and]
      clear H2 H3 HC HE
      go_enter Tryd.func53, Tryd.ntmps53
      go_wp2_with (first | (go_at_call 58; (with_reducible refine (HK _).mono ?_); rintro e w' ⟨rfl, rfl⟩) | (go_at_call 59; first | ((with_reducible refine (H1 _).mono ?_); rintro e w' ⟨rfl, rfl⟩)))
      go_ret
      exact ⟨rfl, by repeat (first | exact Below.refl _ _ | refine bel_al ?_ _)⟩
    | true =>
      cases y with
      | false =>
        simp only [Bool.true_and, Bool.false_and]
        clear H3 HC HE
        go_enter Tryd.func53, Tryd.ntmps53
        go_wp2_with (first | (go_at_call 58; (with_reducible refine (HK _).mono ?_); rintro e w' ⟨rfl, rfl⟩) | (go_at_call 59; first | ((with_reducible refine (H1 _).mono ?_); rintro e w' ⟨rfl, rfl⟩) | ((with_reducible refine (H2 _).mono ?_); rintro e w' ⟨rfl, rfl⟩)))
        go_ret
        exact ⟨rfl, by repeat (first | exact Below.refl _ _ | refine bel_al ?_ _)⟩
      | true =>
        cases z with
        | false =>
          simp only [Bool.true_and, Bool.false_and]
          clear HC HE
          go_enter Tryd.func53, Tryd.ntmps53
          go_wp2_with (first | (go_at_call 58; (with_reducible refine (HK _).mono ?_); rintro e w' ⟨rfl, rfl⟩) | (go_at_call 59; first | ((with_reducible refine (H1 _).mono ?_); rintro e w' ⟨rfl, rfl⟩) | ((with_reducible refine (H2 _).mono ?_); rintro e w' ⟨rfl, rfl⟩) | ((with_reducible refine (H3 _).mono ?_); rintro e w' ⟨rfl, rfl⟩)))
          go_ret
          exact ⟨rfl, by repeat (first | exact Below.refl _ _ | refine bel_al ?_ _)⟩
        | true =>
          cases hc : cxK k with
          | true =>
            simp only [Bool.true_and, if_true]
            rw [hc] at t7
            clear HE hc
            go_enter Tryd.func53, Tryd.ntmps53
            go_wp2_with (first | (go_at_call 58; (with_reducible refine (HK _).mono ?_); rintro e w' ⟨rfl, rfl⟩) | (go_at_call 59; first | ((with_reducible refine (H1 _).mono ?_); rintro e w' ⟨rfl, rfl⟩) | ((with_reducible refine (H2 _).mono ?_); rintro e w' ⟨rfl, rfl⟩) | ((with_reducible refine (H3 _).mono ?_); rintro e w' ⟨rfl, rfl⟩)) | (go_at_call 60; (with_reducible refine (HC _).mono ?_); rintro e w' ⟨rfl, hbc⟩))
            go_ret
            exact ⟨rfl, below2 (by repeat (first | exact Below.refl _ _ | refine bel_al ?_ _)) (by simp; omega) hbc⟩
          | false =>
            simp only [Bool.true_and, if_false, Bool.false_eq_true]
            rw [hc] at t7
            rw [show cxI z15 = zC from rfl] at HE
            dsimp only [z15] at HE
            generalize decide (cxI e = zC) = q at HE ⊢
            clear HC hc
            go_enter Tryd.func53, Tryd.ntmps53
            go_wp2_with (first | (go_at_call 58; (with_reducible refine (HK _).mono ?_); rintro e w' ⟨rfl, rfl⟩) | (go_at_call 59; first | ((with_reducible refine (H1 _).mono ?_); rintro e w' ⟨rfl, rfl⟩) | ((with_reducible refine (H2 _).mono ?_); rintro e w' ⟨rfl, rfl⟩) | ((with_reducible refine (H3 _).mono ?_); rintro e w' ⟨rfl, rfl⟩)))
            go_ret
            exact ⟨rfl, by repeat (first | exact Below.refl _ _ | refine bel_al ?_ _)⟩
end Go.Proofs.YtcffmdimfmpheaaDoor
