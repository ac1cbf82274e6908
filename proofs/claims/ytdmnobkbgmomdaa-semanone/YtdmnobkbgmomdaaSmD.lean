/- Down. -/
import Derived.Test.YtdmnobkbgmomdaaSmM
import Derived.Test.YtdmnobkbgmomdaaLkCol
import Derived.Deep.RegionHeld3
import Derived.BigRegion
namespace Go.Proofs.Ytdmnobkbgmomdaa.Sm
open Go Go.RowKit Go.Proofs.Ytdmnobkbgmomdaa.Bs Go.Proofs.Ytdmnobkbgmomdaa.Se
open Go.Proofs.Ytdmnobkbgmomdaa.Lk (LQ Pl iv ints inN inN_of inN_out wI wI_nat wI_out whI whI_cases whI_none where_any putE pushS popE popS popV remE remS push_any pop_any remove_any lsI lsI_nat all_any all_src collect_any)
variable {w w' : World} {B n T : Nat} {P : Pl} {σ : St}

theorem putE_ok {N L : Nat} {ls : List (List Nat)} {i t : Nat} (hi : i < L) (ht : t < N) (hn : ∀ (j : Nat) (q : List Nat), ls[j]? = some q → t ∉ q) : putE N L ls i t = 0 := by
  unfold putE
  rw [inN_of hi, inN_of ht, wI_nat, whI_none hn]
  rfl
theorem pushS_ok {N L : Nat} {ls : List (List Nat)} {i t : Nat} (h : putE N L ls i t = 0) : pushS N L ls i t = ls.set i (ls.getD i [] ++ [t]) := by
  unfold pushS
  rw [if_pos h, lsI_nat]
  rfl
theorem popS_ok {L : Nat} {ls : List (List Nat)} {i : Nat} (hi : i < L) : popS L ls i = ls.set i (ls.getD i []).tail := by
  unfold popS
  rw [if_pos (inN_of hi), lsI_nat]
  rfl
theorem popE_ok {L : Nat} {ls : List (List Nat)} {i : Nat} (hi : i < L) : popE L ls i = if ls.getD i [] = [] then 4 else 0 := by
  unfold popE
  rw [if_pos (inN_of hi), lsI_nat]
  cases ls.getD i [] <;> simp
theorem popV_ok (ls : List (List Nat)) (i : Nat) : popV ls i = ((ls.getD i []).headD 0 : Nat) := by
  unfold popV
  rw [lsI_nat]
/-- Why a thread can't have a semaphore, nor wait for it. -/
theorem askD_any (h : PM w B P n T σ) (o t : Int) :
    Calls Try.prog 19 #[.pointer (some ⟨B, 0, none⟩), .int .i64 o, .int .i64 t] w fun e w' => e = .returned (.int .i64 (downE σ o t)) ∧ w' = w := by
  have hM := made_any h
  have AO := obj_any h o
  have AT := thr_any h t
  have CW : Calls Try.prog 26 #[.pointer (some ⟨P.B, 0, none⟩), .int .i64 t] w fun e w' => e = .returned (.int .i64 (wt σ t)) ∧ w' = w := where_any h.q t
  have c66 := h.c66
  cases hO : inO σ o
  · rw [downE_8 (t := t) (.inl hO)]
    rw [hO] at AO
    go_enter Try.func19, Try.ntmps19
    go_wp2_with (first
      | (go_at_call 16; (with_reducible refine hM.mono ?_); rintro e w1 ⟨rfl, hw⟩; subst w1)
      | (go_at_call 17; (with_reducible refine AO.mono ?_); rintro e w1 ⟨rfl, hw⟩; subst w1)
      | (go_at_call 34; (with_reducible refine AT.mono ?_); rintro e w1 ⟨rfl, hw⟩; subst w1)
      | (go_at_call 26; (with_reducible refine CW.mono ?_); rintro e w1 ⟨rfl, hw⟩; subst w1))
    go_ret
    exact ⟨rfl, rfl⟩
  rw [hO] at AO
  cases hT : inT σ t
  · rw [downE_8 (o := o) (.inr hT)]
    rw [hT] at AT
    go_enter Try.func19, Try.ntmps19
    go_wp2_with (first
      | (go_at_call 16; (with_reducible refine hM.mono ?_); rintro e w1 ⟨rfl, hw⟩; subst w1)
      | (go_at_call 17; (with_reducible refine AO.mono ?_); rintro e w1 ⟨rfl, hw⟩; subst w1)
      | (go_at_call 34; (with_reducible refine AT.mono ?_); rintro e w1 ⟨rfl, hw⟩; subst w1)
      | (go_at_call 26; (with_reducible refine CW.mono ?_); rintro e w1 ⟨rfl, hw⟩; subst w1))
    go_ret
    exact ⟨rfl, rfl⟩
  rw [hT] at AT
  by_cases hw : wt σ t = -1
  · rw [downE_0 hO hT hw]
    rw [hw] at CW
    clear hw
    go_enter Try.func19, Try.ntmps19
    go_wp2_with (first
      | (go_at_call 16; (with_reducible refine hM.mono ?_); rintro e w1 ⟨rfl, hw⟩; subst w1)
      | (go_at_call 17; (with_reducible refine AO.mono ?_); rintro e w1 ⟨rfl, hw⟩; subst w1)
      | (go_at_call 34; (with_reducible refine AT.mono ?_); rintro e w1 ⟨rfl, hw⟩; subst w1)
      | (go_at_call 26; (with_reducible refine CW.mono ?_); rintro e w1 ⟨rfl, hw⟩; subst w1))
    go_ret
    exact ⟨rfl, rfl⟩
  · rw [downE_5 hO hT hw]
    have hw0 : (wt σ t == -1) = false := by simpa using hw
    clear hw
    generalize wt σ t = z at *
    go_enter Try.func19, Try.ntmps19
    go_wp2_with (first
      | (go_at_call 16; (with_reducible refine hM.mono ?_); rintro e w1 ⟨rfl, hw⟩; subst w1)
      | (go_at_call 17; (with_reducible refine AO.mono ?_); rintro e w1 ⟨rfl, hw⟩; subst w1)
      | (go_at_call 34; (with_reducible refine AT.mono ?_); rintro e w1 ⟨rfl, hw⟩; subst w1)
      | (go_at_call 26; (with_reducible refine CW.mono ?_); rintro e w1 ⟨rfl, hw⟩; subst w1))
    go_ret
    exact ⟨rfl, rfl⟩
theorem down_any (h : PM w B P n T σ) (H : Ok n T σ) (o t : Int) :
    Calls Try.prog 9 #[.pointer (some ⟨B, 0, none⟩), .int .i64 o, .int .i64 t] w fun e w' => e = .returned (.tuple #[.bool (downB σ o t), .int .i64 (downE σ o t)]) ∧ PM w' B P n T (downS σ o t) ∧ But (bl B P) w w' := by
  have AD := askD_any h o t
  have c66 := h.c66
  by_cases hE : downE σ o t = 0
  rotate_left
  · obtain ⟨e1, e2⟩ := downS_no hE
    rw [e1, e2]
    have hE0 : (downE σ o t == 0) = false := by simpa using hE
    clear hE e1 e2
    generalize downE σ o t = z at *
    go_enter Try.func9, Try.ntmps9
    go_wp2_with (first | (go_at_call 19; (with_reducible refine AD.mono ?_); rintro e w1 ⟨rfl, hw⟩; subst w1))
    go_ret2
    exact ⟨rfl, h, But.refl _ _⟩
  rw [hE] at AD
  obtain ⟨k, b, rfl, rfl, hk, hb, hw⟩ := downE_zero H hE
  have n2 := H.n2
  have hn : ∀ (i : Nat) (q : List Nat), σ.ls[i]? = some q → b ∉ q := fun i q hq => H.none hw hq
  have eS : downS σ (k : Int) (b : Int) = takeS σ k b := by unfold downS; rw [if_pos hE]; rfl
  have eB : downB σ (k : Int) (b : Int) = decide (0 < vl σ k) := by unfold downB; rw [hE]; simp
  rw [eS, eB, hE]
  have hk' : (k : Int) < (n : Int) := by omega
  have hk64 : k < 64 := by omega
  have cx := h.xv hk
  have fx := h.fv (2 + k)
  obtain ⟨hv0, hv1⟩ := H.v k hk
  unfold takeS
  by_cases hf : 0 < vl σ k
  · rw [if_pos hf, decide_eq_true hf]
    have hd := (h.keep (But.refl [] w).drew).setV hk (vl σ k - 1)
    have hz : (vl σ k == 0) = false := by simpa using (by omega : ¬ vl σ k = 0)
    clear hE eS eB hw hn
    generalize vl σ k = x at *
    go_enter Try.func9, Try.ntmps9
    go_wp2_with (first | (go_at_call 19; (with_reducible refine AD.mono ?_); rintro e w1 ⟨rfl, hw⟩; subst w1))
    go_region
    all_goals
      go_wp2_with fail
      go_ret2
      exact ⟨rfl, hd, ((But.refl _ w).drew).set (by simp [bl]) _⟩
  · rw [if_neg hf, decide_eq_false hf]
    have hp := putE_ok (L := n) (i := k) hk hb hn
    have CP := push_any h.q (k : Int) (b : Int)
    rw [hp, pushS_ok hp] at CP
    have hz : vl σ k = 0 := by omega
    rw [hz] at cx
    have HW : Hid (σ.ls.getD k [] = W σ k) := rfl
    clear hE eS eB hw hn hp hf hz
    go_enter Try.func9, Try.ntmps9
    go_wp2_with (first
      | (go_at_call 19; (with_reducible refine AD.mono ?_); rintro e w1 ⟨rfl, hw⟩; subst w1)
      | (go_at_call 20; (with_reducible refine CP.mono ?_); rintro e w1 ⟨rfl, q1, d1⟩))
    go_ret2
    exact ⟨rfl, h.lists q1 d1, d1.mono (sub_S B P)⟩
end Go.Proofs.Ytdmnobkbgmomdaa.Sm
