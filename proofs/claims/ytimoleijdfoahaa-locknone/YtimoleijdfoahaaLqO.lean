/- Owner, Waiters, Sleepers, Where. -/
import Derived.Test.YtimoleijdfoahaaLqK
import Derived.Test.YtimoleijdfoahaaLkCol
import Derived.Test.YtimoleijdfoahaaLoX
namespace Go.Proofs.Ytimoleijdfoahaa.Lq
open Go Go.RowKit Go.Proofs.Ytimoleijdfoahaa.Bs Go.Proofs.Ytimoleijdfoahaa.Lo
open Go.Proofs.Ytimoleijdfoahaa.Lk (LQ Pl iv ints inN inN_of inN_out wI wI_nat wI_out where_any lsI lsI_nat all_any all_src collect_any)
variable {w w' : World} {B o a n T : Nat} {P : Pl} {σ : St}

/-- All, and what Collect makes of it. -/
theorem all_then (h : PM w B o a P n T σ) (i : Int) : Calls Try.prog 37 #[.pointer (some ⟨P.B, 0, none⟩), .int .i64 i] w fun e w' => ∃ x y, e = .returned (.func (.func 65) #[] #[.pointer (some ⟨x, 0, none⟩), .pointer (some ⟨y, 0, none⟩)]) ∧ Below w.heap.size w w' ∧ Calls Try.prog 36 #[.func (.func 65) #[] #[.pointer (some ⟨x, 0, none⟩), .pointer (some ⟨y, 0, none⟩)]] w' fun e w2 => ∃ v, e = .returned v ∧ RowI w2 w.heap.size v (ints (lsI σ.ls i)) ∧ Below w.heap.size w w2 := by
  obtain ⟨x0, x1, x2⟩ := all_src h.q i
  have bn : Below w.heap.size w ((w.alloc (.cells #[.pointer (some ⟨P.B, 0, none⟩)] 52)).alloc (.cells #[.int .i64 i] 3)) := ((Below.refl _ w).alloc (Nat.le_refl _) _).alloc (by simp) _
  refine (all_any (some ⟨P.B, 0, none⟩) i w).mono fun e w' ⟨h1, h2⟩ => ?_
  subst h2
  refine ⟨_, _, h1, bn, (collect_any w.heap.size (w.heap.size + 1) _ i _ _ x0 x1 x2).mono fun e w2 ⟨v, e1, r, b⟩ => ⟨v, e1, row_lower r bn.size, bn.trans (b.mono bn.size)⟩⟩
theorem owner_any (h : PM w B o a P n T σ) (H : Ok n T σ) (i : Int) :
    Calls Try.prog 13 #[.pointer (some ⟨B, 0, none⟩), .int .i64 i] w fun e w' => e = .returned (.int .i64 (owX σ i)) ∧ But [] w w' := by
  have CO := obj_any h H i
  unfold owX
  cases hC : inO σ i
  · rw [hC] at CO
    simp only [Bool.false_eq_true, if_false]
    go_enter Try.func13, Try.ntmps13
    go_wp2_with (first
      | (go_at_call 35; (with_reducible refine CO.mono ?_); rintro e w1 ⟨F1, A1, rfl, s1, b1⟩; have h1 := h.keep b1; have CA := ask1 h1 s1; unfold unl at CA; simp only [Bool.false_eq_true, if_false] at CA)
      | (go_at_call 34; (with_reducible refine (CA _).mono ?_); rintro e w2 ⟨rfl, b2⟩))
    go_ret
    exact ⟨rfl, b1.trans b2⟩
  · rw [hC] at CO
    simp only [if_true]
    obtain ⟨j, rfl, hj⟩ := inO_out H hC
    have hj' : (j : Int) < (n : Int) := by omega
    have n2 := H.n2
    show Calls _ _ _ w fun e w' => e = .returned (.int .i64 (ow σ j)) ∧ But [] w w'
    go_enter Try.func13, Try.ntmps13
    go_wp2_with (first
      | (go_at_call 35; (with_reducible refine CO.mono ?_); rintro e w1 ⟨F1, A1, rfl, s1, b1⟩; have h1 := h.keep b1; have CA := ask1 h1 s1; unfold unl at CA; simp only [if_true] at CA)
      | (go_at_call 34; (with_reducible refine (CA _).mono ?_); rintro e w2 ⟨rfl, b2⟩; have h2 := h1.keep b2; obtain ⟨k2, hk2, c2⟩ := h2.c0; have x2 := h2.xo hj))
    go_ret
    exact ⟨rfl, b1.trans b2⟩
theorem waiters_any (h : PM w B o a P n T σ) (H : Ok n T σ) (i : Int) :
    Calls Try.prog 14 #[.pointer (some ⟨B, 0, none⟩), .int .i64 i] w fun e w' => ∃ v, e = .returned v ∧ RowI w' w.heap.size v (ints (wX σ i)) ∧ Below w.heap.size w w' := by
  have CO := obj_any h H i
  unfold wX
  cases hC : inO σ i
  · rw [hC] at CO
    simp only [Bool.false_eq_true, if_false]
    go_enter Try.func14, Try.ntmps14
    go_wp2_with (first
      | (go_at_call 35; (with_reducible refine CO.mono ?_); rintro e w1 ⟨F1, A1, rfl, s1, b1⟩; have h1 := h.keep b1; have CA := ask1 h1 s1; unfold unl at CA; simp only [Bool.false_eq_true, if_false] at CA)
      | (go_at_call 34; (with_reducible refine (CA _).mono ?_); rintro e w2 ⟨rfl, b2⟩))
    go_ret
    exact ⟨_, rfl, ⟨by simp [ints], .inl ⟨rfl, rfl⟩⟩, (b1.trans b2).to_below⟩
  · rw [hC] at CO
    simp only [if_true]
    obtain ⟨j, rfl, hj⟩ := inO_out H hC
    rw [Int.toNat_natCast]
    have CC : ∀ X, PM X B o a P n T σ → _ := fun X hX => all_then (w := X) hX (j : Int)
    have eW : lsI σ.ls (j : Int) = W σ j := lsI_nat _ _
    rw [eW] at CC
    go_enter Try.func14, Try.ntmps14
    go_wp2_with (first
      | (go_at_call 35; (with_reducible refine CO.mono ?_); rintro e w1 ⟨F1, A1, rfl, s1, b1⟩; have h1 := h.keep b1; have CA := ask1 h1 s1; unfold unl at CA; simp only [if_true] at CA)
      | (go_at_call 34; (with_reducible refine (CA _).mono ?_); rintro e w2 ⟨rfl, b2⟩; have h2 := h1.keep b2; have c2 := h2.c2)
      | (go_at_call 37; (with_reducible refine (CC _ h2).mono ?_); rintro e w3 ⟨x3, y3, rfl, b3, C3⟩)
      | (go_at_call 36; (with_reducible refine C3.mono ?_); rintro e w4 ⟨v, rfl, r4, b4⟩))
    go_ret
    have b0 : Below w.heap.size w w2 := (b1.trans b2).to_below
    exact ⟨_, rfl, row_lower r4 b0.size, b0.trans (b4.mono b0.size)⟩
theorem sleepersL_any (h : PM w B o a P n T σ) (H : Ok n T σ) (i : Int) :
    Calls Try.prog 15 #[.pointer (some ⟨B, 0, none⟩), .int .i64 i] w fun e w' => ∃ v, e = .returned v ∧ RowI w' w.heap.size v (ints (sX σ i)) ∧ Below w.heap.size w w' := by
  have CO := obj_any h H i
  unfold sX
  cases hC : inO σ i
  · rw [hC] at CO
    simp only [Bool.false_eq_true, if_false]
    go_enter Try.func15, Try.ntmps15
    go_wp2_with (first
      | (go_at_call 35; (with_reducible refine CO.mono ?_); rintro e w1 ⟨F1, A1, rfl, s1, b1⟩; have h1 := h.keep b1; have CA := ask1 h1 s1; unfold unl at CA; simp only [Bool.false_eq_true, if_false] at CA)
      | (go_at_call 34; (with_reducible refine (CA _).mono ?_); rintro e w2 ⟨rfl, b2⟩))
    go_ret
    exact ⟨_, rfl, ⟨by simp [ints], .inl ⟨rfl, rfl⟩⟩, (b1.trans b2).to_below⟩
  · rw [hC] at CO
    simp only [if_true]
    obtain ⟨j, rfl, hj⟩ := inO_out H hC
    rw [Int.toNat_natCast]
    have n2 := H.n2
    have CS : ∀ X, PM X B o a P n T σ → _ := fun X hX => sleepers_any (w := X) hX n2 hj
    have CC : ∀ X, PM X B o a P n T σ → _ := fun X hX => all_then (w := X) hX ((n + j : Nat) : Int)
    have eW : lsI σ.ls ((n + j : Nat) : Int) = S σ j := by rw [lsI_nat]; unfold S; rw [H.ol]
    rw [eW, Int.natCast_add] at CC
    go_enter Try.func15, Try.ntmps15
    go_wp2_with (first
      | (go_at_call 35; (with_reducible refine CO.mono ?_); rintro e w1 ⟨F1, A1, rfl, s1, b1⟩; have h1 := h.keep b1; have CA := ask1 h1 s1; unfold unl at CA; simp only [if_true] at CA)
      | (go_at_call 34; (with_reducible refine (CA _).mono ?_); rintro e w2 ⟨rfl, b2⟩; have hd := h1.keep b2.drew; have bd := b1.trans b2.drew; have hsd' := hd.c2; have c2 := (h1.keep b2).c2))
    go_region_held3 (fun w' => w'.cell? ⟨B, 2, none⟩ = some (.pointer (some ⟨P.B, 0, none⟩))) (first | with_reducible assumption | with_reducible exact hsd') (first
      | (go_at_call 38; (with_reducible refine (CS _ hd).mono ?_); rintro e w' ⟨rfl, hw⟩; subst w')
      | (go_at_call 37; (with_reducible refine (CC _ hd).mono ?_); rintro e w3 ⟨x3, y3, rfl, b3, C3⟩; have k3 := cell_on b3 hsd')
      | (go_at_call 36; (with_reducible refine C3.mono ?_); rintro e w4 ⟨v, rfl, r4, b4⟩; have k4 := cell_on b4 hsd'))
    all_goals
      go_wp2_with fail
      go_ret
      have b0 : Below w.heap.size w w2.drew := bd.to_below
      exact ⟨_, rfl, row_lower r4 b0.size, b0.trans (b4.mono b0.size)⟩
theorem where_l (h : PM w B o a P n T σ) (H : Ok n T σ) (t : Int) :
    Calls Try.prog 16 #[.pointer (some ⟨B, 0, none⟩), .int .i64 t] w fun e w' => e = .returned (.tuple #[.int .i64 (whereK σ t), .int .i64 (whereO σ t)]) ∧ But [] w w' := by
  have CT := thr_any h H t
  have n2 := H.n2
  cases hT : inT σ t
  · rw [hT] at CT
    have hw : wt σ t = -1 := wI_out H.ls (by have := hT; unfold inT at this; rw [H.al] at this; exact this)
    have EK : Hid (whereK σ t = 0) := show _ = _ by unfold whereK; rw [if_pos hw]
    have EO : Hid (whereO σ t = -1) := show _ = _ by unfold whereO; rw [if_pos hw]
    clear hw
    go_enter Try.func16, Try.ntmps16
    go_wp2_with (first
      | (go_at_call 39; (with_reducible refine CT.mono ?_); rintro e w1 ⟨F1, A1, rfl, s1, b1⟩; have h1 := h.keep b1; have CA := ask1 h1 s1; unfold unl at CA; simp only [Bool.false_eq_true, if_false] at CA)
      | (go_at_call 34; (with_reducible refine (CA _).mono ?_); rintro e w2 ⟨rfl, b2⟩))
    go_ret2
    exact ⟨by rw [EK.out, EO.out]; rfl, b1.trans b2⟩
  · rw [hT] at CT
    obtain ⟨b, rfl, hb⟩ := inT_out H hT
    have CW : ∀ X, PM X B o a P n T σ → Calls Try.prog 40 #[.pointer (some ⟨P.B, 0, none⟩), .int .i64 b] X fun e w' => e = .returned (.int .i64 (wt σ (b : Int))) ∧ w' = X := fun X hX => where_any hX.q (b : Int)
    have hr : -1 ≤ wt σ (b : Int) ∧ wt σ (b : Int) < 2 * (n : Int) := by
      unfold wt
      rw [wI_nat]
      rcases Lk.whI_cases H.ls.len b with ⟨e, _⟩ | ⟨i, q, _, _, e, hi⟩ <;> rw [e] <;> omega
    obtain ⟨K, hK⟩ : ∃ K, Hid (whereK σ (b : Int) = K) := ⟨_, rfl⟩
    obtain ⟨O, hO⟩ : ∃ O, Hid (whereO σ (b : Int) = O) := ⟨_, rfl⟩
    have hK' := hK.out
    have hO' := hO.out
    unfold whereK at hK'
    unfold whereO at hO'
    rw [H.ol] at hK' hO'
    generalize wt σ (b : Int) = z at *
    have HR : Hid (∀ e w', e = Ending.returned (Value.tuple #[.int .i64 K, .int .i64 O]) ∧ But [] w w' → e = Ending.returned (Value.tuple #[.int .i64 (whereK σ (b : Int)), .int .i64 (whereO σ (b : Int))]) ∧ But [] w w') := fun e w' h => by rw [hK.out, hO.out]; exact h
    refine Calls.mono ?_ HR.out
    clear hK hO HR hT
    by_cases z1 : z = -1
    · rw [if_pos z1] at hK' hO'
      subst hK' hO' z1
      go_enter Try.func16, Try.ntmps16
      go_wp2_with (first
        | (go_at_call 39; (with_reducible refine CT.mono ?_); rintro e w1 ⟨F1, A1, rfl, s1, b1⟩; have h1 := h.keep b1; have CA := ask1 h1 s1; unfold unl at CA; simp only [if_true] at CA)
        | (go_at_call 34; (with_reducible refine (CA _).mono ?_); rintro e w2 ⟨rfl, b2⟩; have h2 := h1.keep b2; have c2 := h2.c2)
        | (go_at_call 40; (with_reducible refine (CW _ h2).mono ?_); rintro e w' ⟨rfl, hw⟩; subst w'))
      go_ret2
      exact ⟨rfl, b1.trans b2⟩
    · rw [if_neg z1] at hK' hO'
      have z1' : (z == -1) = false := by simpa using z1
      by_cases z2 : z < (n : Int)
      · rw [if_pos z2] at hK' hO'
        subst hK' hO'
        go_enter Try.func16, Try.ntmps16
        go_wp2_with (first
          | (go_at_call 39; (with_reducible refine CT.mono ?_); rintro e w1 ⟨F1, A1, rfl, s1, b1⟩; have h1 := h.keep b1; have CA := ask1 h1 s1; unfold unl at CA; simp only [if_true] at CA)
          | (go_at_call 34; (with_reducible refine (CA _).mono ?_); rintro e w2 ⟨rfl, b2⟩; have h2 := h1.keep b2; have c2 := h2.c2; obtain ⟨k0, hk0, c0⟩ := h2.c0)
          | (go_at_call 40; (with_reducible refine (CW _ h2).mono ?_); rintro e w' ⟨rfl, hw⟩; subst w'))
        go_ret2
        exact ⟨rfl, b1.trans b2⟩
      · rw [if_neg z2] at hK' hO'
        subst hK' hO'
        go_enter Try.func16, Try.ntmps16
        go_wp2_with (first
          | (go_at_call 39; (with_reducible refine CT.mono ?_); rintro e w1 ⟨F1, A1, rfl, s1, b1⟩; have h1 := h.keep b1; have CA := ask1 h1 s1; unfold unl at CA; simp only [if_true] at CA)
          | (go_at_call 34; (with_reducible refine (CA _).mono ?_); rintro e w2 ⟨rfl, b2⟩; have h2 := h1.keep b2; have c2 := h2.c2; obtain ⟨k0, hk0, c0⟩ := h2.c0)
          | (go_at_call 40; (with_reducible refine (CW _ h2).mono ?_); rintro e w' ⟨rfl, hw⟩; subst w'))
        go_quiet (fail)
        go_wp2_with fail
        go_ret2
        exact ⟨rfl, (b1.trans b2).trans ((But.refl [] _).drewN _)⟩
end Go.Proofs.Ytimoleijdfoahaa.Lq
