/- Up, Drop, Value, Waiters, Where. -/
import Derived.Test.YtdmnobkbgmomdaaSmD
namespace Go.Proofs.Ytdmnobkbgmomdaa.Sm
open Go Go.RowKit Go.Proofs.Ytdmnobkbgmomdaa.Bs Go.Proofs.Ytdmnobkbgmomdaa.Se
open Go.Proofs.Ytdmnobkbgmomdaa.Lk (LQ Pl iv ints inN inN_of inN_out wI wI_nat wI_out whI whI_cases whI_none where_any putE pushS popE popS popV remE remS push_any pop_any remove_any lsI lsI_nat all_any all_src collect_any)
variable {w w' : World} {B n T : Nat} {P : Pl} {σ : St}

theorem up_any (h : PM w B P n T σ) (H : Ok n T σ) (o : Int) :
    Calls Try.prog 8 #[.pointer (some ⟨B, 0, none⟩), .int .i64 o] w fun e w' => e = .returned (.tuple #[.int .i64 (upR σ o), .int .i64 (upE σ o)]) ∧ PM w' B P n T (upS σ o) ∧ But (bl B P) w w' := by
  have AO := obj_any h o
  have hM := made_any h
  have c66 := h.c66
  unfold upR upV upE upS
  cases hO : inO σ o
  · rw [hO] at AO
    simp only [Bool.false_eq_true, if_false] at AO ⊢
    rw [if_neg (by decide)]
    go_enter Try.func8, Try.ntmps8
    go_wp2_with (first
      | (go_at_call 16; (with_reducible refine hM.mono ?_); rintro e w1 ⟨rfl, hw⟩; subst w1)
      | (go_at_call 17; (with_reducible refine AO.mono ?_); rintro e w1 ⟨rfl, hw⟩; subst w1))
    go_ret2
    exact ⟨rfl, h, But.refl _ _⟩
  rw [hO] at AO
  simp only [if_true] at AO ⊢
  obtain ⟨k, rfl, hk⟩ := inO_out H hO
  rw [Int.toNat_natCast]
  have n2 := H.n2
  have hk' : (k : Int) < (n : Int) := by omega
  have hk64 : k < 64 := by omega
  obtain ⟨hv0, hv1⟩ := H.v k hk
  have CP := pop_any h.q (k : Int)
  have hw := H.w hk
  have eW : σ.ls.getD k [] = W σ k := rfl
  rw [popE_ok hk, popS_ok hk, popV_ok, eW] at CP
  unfold giveE giveS
  cases hq : W σ k with
  | nil =>
    rw [hq] at CP hw
    have hset : σ.ls.set k [] = σ.ls := Lk.set_same hw
    simp only [List.tail_nil, if_true, List.headD_nil] at CP
    rw [hset] at CP
    dsimp only
    clear hset hw hq eW
    by_cases hf : 1000000 ≤ vl σ k
    · have hz : vl σ k = 1000000 := by omega
      have g : (if ([] : List Nat) = [] ∧ 1000000 ≤ vl σ k then (3 : Int) else 0) = 3 := if_pos ⟨rfl, hf⟩
      rw [g, if_pos hf, if_neg (by decide)]
      clear g
      go_enter Try.func8, Try.ntmps8
      go_wp2_with (first
        | (go_at_call 16; (with_reducible refine hM.mono ?_); rintro e w1 ⟨rfl, hw⟩; subst w1)
        | (go_at_call 17; (with_reducible refine AO.mono ?_); rintro e w1 ⟨rfl, hw⟩; subst w1)
        | (go_at_call 18; (with_reducible refine CP.mono ?_); rintro e w1 ⟨rfl, q1, d1⟩; have h1 := h.lists q1 d1; have x1 := h1.xv hk; rw [show vl ⟨σ.val, σ.ls, σ.th⟩ k = 1000000 from hz] at x1))
      go_ret2
      exact ⟨rfl, h1, d1.mono (sub_S B P)⟩
    · have g : (if ([] : List Nat) = [] ∧ 1000000 ≤ vl σ k then (3 : Int) else 0) = 0 := if_neg (fun e => hf e.2)
      rw [g, if_neg hf, if_pos rfl]
      clear g
      have X1 : ∀ X, PM X B P n T σ → X.cell? ⟨B, 2 + k, none⟩ = some (.int .i64 (vl σ k)) := fun X hX => hX.xv hk
      have S1 : ∀ X, PM X B P n T σ → PM (X.drew.setCell ⟨B, 2 + k, none⟩ (.int .i64 (vl σ k + 1))) B P n T ⟨σ.val.set k (vl σ k + 1), σ.ls, σ.th⟩ := fun X hX => (hX.keep (But.refl [] X).drew).setV hk _
      have hne : (vl σ k == 1000000) = false := by simpa using (by omega : ¬ vl σ k = 1000000)
      generalize vl σ k = x at *
      show Calls _ _ _ _ fun e w' => e = .returned (.tuple #[.int .i64 (-1), .int .i64 0]) ∧ _
      go_enter Try.func8, Try.ntmps8
      go_wp2_with (first
        | (go_at_call 16; (with_reducible refine hM.mono ?_); rintro e w1 ⟨rfl, hw⟩; subst w1)
        | (go_at_call 17; (with_reducible refine AO.mono ?_); rintro e w1 ⟨rfl, hw⟩; subst w1)
        | (go_at_call 18; (with_reducible refine CP.mono ?_); rintro e w1 ⟨rfl, q1, d1⟩; have h1 := h.lists q1 d1; have x1 := X1 _ h1; have f1 := h1.fv (2 + k); have h2 := S1 _ h1))
      go_region
      all_goals
        go_wp2_with fail
        go_ret2
        exact ⟨rfl, h2, (d1.mono (sub_S B P)).drew.set (by simp [bl]) _⟩
  | cons t r =>
    rw [hq] at CP
    simp only [List.tail_cons, List.headD_cons] at CP
    rw [if_neg (by simp)] at CP
    dsimp only
    have g : (if (t :: r : List Nat) = [] ∧ 1000000 ≤ vl σ k then (3 : Int) else 0) = 0 := if_neg (fun e => by cases e.1)
    rw [g, if_pos rfl]
    clear hw hq eW g
    show Calls _ _ _ _ fun e w' => e = .returned (.tuple #[.int .i64 (t : Int), .int .i64 0]) ∧ _
    go_enter Try.func8, Try.ntmps8
    go_wp2_with (first
      | (go_at_call 16; (with_reducible refine hM.mono ?_); rintro e w1 ⟨rfl, hw⟩; subst w1)
      | (go_at_call 17; (with_reducible refine AO.mono ?_); rintro e w1 ⟨rfl, hw⟩; subst w1)
      | (go_at_call 18; (with_reducible refine CP.mono ?_); rintro e w1 ⟨rfl, q1, d1⟩))
    go_ret2
    exact ⟨rfl, h.lists q1 d1, d1.mono (sub_S B P)⟩
/-- A thing taken out of its list is in none. -/
theorem remS_rm (H : Ok n T σ) {t : Nat} (ht : t < T) : remS T σ.ls (t : Int) = (dropS σ (t : Int)).ls ∧ remE T σ.ls (t : Int) = if wt σ (t : Int) = -1 then 4 else 0 := by
  unfold dropS
  have hE : remE T σ.ls (t : Int) = if wt σ (t : Int) = -1 then 4 else 0 := by
    unfold remE
    rw [inN_of ht, if_pos rfl]
    rfl
  refine ⟨?_, hE⟩
  unfold remS
  rw [hE]
  by_cases hw : wt σ (t : Int) = -1
  · rw [if_pos hw, if_neg (by decide), if_neg (fun e => e hw)]
  · rw [if_neg hw, if_pos rfl, if_pos hw]
    obtain ⟨b, k, e, hb, hk, ew, hm⟩ := H.waits hw
    obtain rfl : t = b := by omega
    have e2 : wI σ.ls (t : Int) = (k : Int) := ew
    rw [e2, lsI_nat, Int.toNat_natCast, Int.toNat_natCast]
    exact (rm_set H hk hm).symm
theorem drop_eq (σ : St) (t : Int) : dropS σ t = ⟨σ.val, (dropS σ t).ls, σ.th⟩ := by
  unfold dropS rm
  split <;> rfl
theorem remE_out (H : Ok n T σ) {t : Int} (ht : inT σ t = false) : remE T σ.ls t = 8 ∧ remS T σ.ls t = σ.ls := by
  have hn : inN T t = false := by have := ht; unfold inT at this; rwa [H.th] at this
  have hE : remE T σ.ls t = 8 := by
    unfold remE
    rw [hn]
    rfl
  refine ⟨hE, ?_⟩
  unfold remS
  rw [hE, if_neg (by decide)]
theorem drop_any (h : PM w B P n T σ) (H : Ok n T σ) (t : Int) :
    Calls Try.prog 12 #[.pointer (some ⟨B, 0, none⟩), .int .i64 t] w fun e w' => e = .returned (.bool (dropB σ t)) ∧ PM w' B P n T (dropS σ t) ∧ But (bl B P) w w' := by
  have hM := made_any h
  have c66 := h.c66
  have CR := remove_any h.q t
  cases hT : inT σ t
  · have hw : wt σ t = -1 := wI_out H.ls (by have := hT; unfold inT at this; rw [H.th] at this; exact this)
    unfold dropB dropS
    rw [if_neg (fun e => e hw), decide_eq_false (fun e => e hw)]
    obtain ⟨e1, e2⟩ := remE_out H hT
    rw [e1, e2] at CR
    clear hw e1 e2
    go_enter Try.func12, Try.ntmps12
    go_wp2_with (first
      | (go_at_call 16; (with_reducible refine hM.mono ?_); rintro e w1 ⟨rfl, hw⟩; subst w1)
      | (go_at_call 25; (with_reducible refine CR.mono ?_); rintro e w1 ⟨rfl, q1, d1⟩))
    go_ret
    exact ⟨rfl, h.lists q1 d1, d1.mono (sub_S B P)⟩
  obtain ⟨b, rfl, hb⟩ := inT_out H hT
  obtain ⟨e1, e2⟩ := remS_rm H hb
  rw [e1, e2] at CR
  have e3 := drop_eq σ (b : Int)
  rw [e3]
  unfold dropB
  generalize (dropS σ (b : Int)).ls = L at *
  clear e1 e2 e3
  generalize wt σ (b : Int) = z at *
  by_cases hz : z = -1
  · rw [if_pos hz] at CR
    have hD : decide (z ≠ -1) = false := decide_eq_false (fun e => e hz)
    rw [hD]
    clear hz hD
    go_enter Try.func12, Try.ntmps12
    go_wp2_with (first
      | (go_at_call 16; (with_reducible refine hM.mono ?_); rintro e w1 ⟨rfl, hw⟩; subst w1)
      | (go_at_call 25; (with_reducible refine CR.mono ?_); rintro e w1 ⟨rfl, q1, d1⟩))
    go_ret
    exact ⟨rfl, h.lists q1 d1, d1.mono (sub_S B P)⟩
  · rw [if_neg hz] at CR
    have hD : decide (z ≠ -1) = true := decide_eq_true hz
    rw [hD]
    clear hz hD
    go_enter Try.func12, Try.ntmps12
    go_wp2_with (first
      | (go_at_call 16; (with_reducible refine hM.mono ?_); rintro e w1 ⟨rfl, hw⟩; subst w1)
      | (go_at_call 25; (with_reducible refine CR.mono ?_); rintro e w1 ⟨rfl, q1, d1⟩))
    go_ret
    exact ⟨rfl, h.lists q1 d1, d1.mono (sub_S B P)⟩
theorem val_any (h : PM w B P n T σ) (H : Ok n T σ) (k : Nat) (hk : k < n) :
    Calls Try.prog 22 #[.pointer (some ⟨B, 0, none⟩), .int .i64 k] w fun e w' => e = .returned (.int .i64 (vl σ k)) ∧ w' = w := by
  have n2 := H.n2
  have hk64 : k < 64 := by omega
  have cx := h.xv hk
  go_enter Try.func22, Try.ntmps22
  go_wp2_with fail
  go_ret
  exact ⟨rfl, rfl⟩
theorem value_any (h : PM w B P n T σ) (H : Ok n T σ) (o : Int) :
    Calls Try.prog 10 #[.pointer (some ⟨B, 0, none⟩), .int .i64 o] w fun e w' => e = .returned (.int .i64 (valX σ o)) ∧ w' = w := by
  have AO := obj_any h o
  have CT : Calls Try.prog 21 #[.pointer (some ⟨B, 0, none⟩), .int .i64 o, .func (.func 22) #[.pointer (some ⟨B, 0, none⟩)] #[]] w fun e w' => e = .returned (.int .i64 (valX σ o)) ∧ w' = w := by
    unfold valX
    cases hO : inO σ o
    · rw [hO] at AO
      simp only [Bool.false_eq_true, if_false] at AO ⊢
      go_enter Try.func21, Try.ntmps21
      go_wp2_with (first | (go_at_call 17; (with_reducible refine AO.mono ?_); rintro e w1 ⟨rfl, hw⟩; subst w1))
      go_ret
      exact ⟨rfl, rfl⟩
    rw [hO] at AO
    simp only [if_true] at AO ⊢
    obtain ⟨k, rfl, hk⟩ := inO_out H hO
    rw [Int.toNat_natCast]
    have CV := val_any h H k hk
    generalize vl σ k = x at *
    go_enter Try.func21, Try.ntmps21
    go_wp2_with (first
      | (go_at_call 17; (with_reducible refine AO.mono ?_); rintro e w1 ⟨rfl, hw⟩; subst w1)
      | (go_at_call 22; (with_reducible refine CV.mono ?_); rintro e w1 ⟨rfl, hw⟩; subst w1))
    go_ret
    exact ⟨rfl, rfl⟩
  generalize valX σ o = x at *
  go_enter Try.func10, Try.ntmps10
  go_wp2_with (first | (go_at_call 21; (with_reducible refine CT.mono ?_); rintro e w1 ⟨rfl, hw⟩; subst w1))
  go_ret
  exact ⟨rfl, rfl⟩
theorem where_l (h : PM w B P n T σ) (t : Int) :
    Calls Try.prog 13 #[.pointer (some ⟨B, 0, none⟩), .int .i64 t] w fun e w' => e = .returned (.int .i64 (wt σ t)) ∧ w' = w := by
  have hM := made_any h
  have c66 := h.c66
  have CW : Calls Try.prog 26 #[.pointer (some ⟨P.B, 0, none⟩), .int .i64 t] w fun e w' => e = .returned (.int .i64 (wt σ t)) ∧ w' = w := where_any h.q t
  go_enter Try.func13, Try.ntmps13
  go_wp2_with (first
    | (go_at_call 16; (with_reducible refine hM.mono ?_); rintro e w1 ⟨rfl, hw⟩; subst w1)
    | (go_at_call 26; (with_reducible refine CW.mono ?_); rintro e w1 ⟨rfl, hw⟩; subst w1))
  go_ret
  exact ⟨rfl, rfl⟩
/-- All, and what Collect makes of it. -/
theorem all_then (h : PM w B P n T σ) (i : Int) : Calls Try.prog 38 #[.pointer (some ⟨P.B, 0, none⟩), .int .i64 i] w fun e w' => ∃ x y, e = .returned (.func (.func 45) #[] #[.pointer (some ⟨x, 0, none⟩), .pointer (some ⟨y, 0, none⟩)]) ∧ Below w.heap.size w w' ∧ Calls Try.prog 37 #[.func (.func 45) #[] #[.pointer (some ⟨x, 0, none⟩), .pointer (some ⟨y, 0, none⟩)]] w' fun e w2 => ∃ v, e = .returned v ∧ RowI w2 w.heap.size v (ints (lsI σ.ls i)) ∧ Below w.heap.size w w2 := by
  obtain ⟨x0, x1, x2⟩ := all_src h.q i
  have bn : Below w.heap.size w ((w.alloc (.cells #[.pointer (some ⟨P.B, 0, none⟩)] 41)).alloc (.cells #[.int .i64 i] 3)) := ((Below.refl _ w).alloc (Nat.le_refl _) _).alloc (by simp) _
  refine (all_any (some ⟨P.B, 0, none⟩) i w).mono fun e w' ⟨h1, h2⟩ => ?_
  subst h2
  refine ⟨_, _, h1, bn, (collect_any w.heap.size (w.heap.size + 1) _ i _ _ x0 x1 x2).mono fun e w2 ⟨v, e1, r, b⟩ => ⟨v, e1, row_lower r bn.size, bn.trans (b.mono bn.size)⟩⟩
theorem wts_any (h : PM w B P n T σ) (k : Nat) :
    Calls Try.prog 24 #[.pointer (some ⟨B, 0, none⟩), .int .i64 k] w fun e w' => ∃ v, e = .returned v ∧ RowI w' w.heap.size v (ints (W σ k)) ∧ Below w.heap.size w w' := by
  have c66 := h.c66
  have CC := all_then h (k : Int)
  rw [show lsI σ.ls (k : Int) = W σ k from lsI_nat _ _] at CC
  go_enter Try.func24, Try.ntmps24
  go_wp2_with (first
    | (go_at_call 38; (with_reducible refine CC.mono ?_); rintro e w3 ⟨x3, y3, rfl, b3, C3⟩)
    | (go_at_call 37; (with_reducible refine C3.mono ?_); rintro e w4 ⟨v, rfl, r4, b4⟩))
  go_ret
  exact ⟨_, rfl, r4, b4⟩
theorem waiters_any (h : PM w B P n T σ) (H : Ok n T σ) (o : Int) :
    Calls Try.prog 11 #[.pointer (some ⟨B, 0, none⟩), .int .i64 o] w fun e w' => ∃ v, e = .returned v ∧ RowI w' w.heap.size v (ints (wX σ o)) ∧ Below w.heap.size w w' := by
  have AO := obj_any h o
  have CT : Calls Try.prog 23 #[.pointer (some ⟨B, 0, none⟩), .int .i64 o, .func (.func 24) #[.pointer (some ⟨B, 0, none⟩)] #[]] w fun e w' => ∃ v, e = .returned v ∧ RowI w' w.heap.size v (ints (wX σ o)) ∧ Below w.heap.size w w' := by
    unfold wX
    cases hO : inO σ o
    · rw [hO] at AO
      simp only [Bool.false_eq_true, if_false] at AO ⊢
      go_enter Try.func23, Try.ntmps23
      go_wp2_with (first | (go_at_call 17; (with_reducible refine AO.mono ?_); rintro e w1 ⟨rfl, hw⟩; subst w1))
      go_ret
      exact ⟨_, rfl, ⟨by simp [ints], .inl ⟨rfl, rfl⟩⟩, Below.refl _ _⟩
    rw [hO] at AO
    simp only [if_true] at AO ⊢
    obtain ⟨k, rfl, hk⟩ := inO_out H hO
    rw [Int.toNat_natCast]
    have CV := wts_any h k
    generalize ints (W σ k) = x at *
    go_enter Try.func23, Try.ntmps23
    go_wp2_with (first
      | (go_at_call 17; (with_reducible refine AO.mono ?_); rintro e w1 ⟨rfl, hw⟩; subst w1)
      | (go_at_call 24; (with_reducible refine CV.mono ?_); rintro e w1 ⟨v, rfl, r1, b1⟩))
    go_ret
    exact ⟨_, rfl, r1, b1⟩
  generalize ints (wX σ o) = x at *
  go_enter Try.func11, Try.ntmps11
  go_wp2_with (first | (go_at_call 23; (with_reducible refine CT.mono ?_); rintro e w1 ⟨v, rfl, r1, b1⟩))
  go_ret
  exact ⟨_, rfl, r1, b1⟩
end Go.Proofs.Ytdmnobkbgmomdaa.Sm
