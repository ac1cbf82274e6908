/- Who wants a lock gets it, or waits for it; a lock is passed on; the first that waits for a condition wakes. -/
import Derived.Test.YtimoleijdfoahaaLqM
namespace Go.Proofs.Ytimoleijdfoahaa.Lq
open Go Go.RowKit Go.Proofs.Ytimoleijdfoahaa.Bs Go.Proofs.Ytimoleijdfoahaa.Lo
open Go.Proofs.Ytimoleijdfoahaa.Lk (LQ Pl iv ints putE pushS popE popS popV wI wI_nat whI_none lsI lsI_nat inN inN_of push_any pop_any)
variable {w w' : World} {B o a n T : Nat} {P : Pl} {σ : St}

theorem putE_ok {N L : Nat} {ls : List (List Nat)} {i t : Nat} (hi : i < L) (ht : t < N) (hn : ∀ (j : Nat) (q : List Nat), ls[j]? = some q → t ∉ q) : putE N L ls i t = 0 := by
  unfold putE
  rw [inN_of hi, inN_of ht, wI_nat, whI_none hn]
  rfl
theorem pushS_ok {N L : Nat} {ls : List (List Nat)} {i t : Nat} (h : putE N L ls i t = 0) : pushS N L ls i t = ls.set i (ls.getD i [] ++ [t]) := by
  unfold pushS
  rw [if_pos h, lsI_nat]
  rfl
theorem popS_ok {L : Nat} {ls : List (List Nat)} {i : Nat} (hi : i < L) : popS L ls i = ls.set i (ls.getD i []).tail := by
  unfold popS
  rw [if_pos (inN_of hi), lsI_nat]
  rfl
theorem popE_ok {L : Nat} {ls : List (List Nat)} {i : Nat} (hi : i < L) : popE L ls i = if ls.getD i [] = [] then 4 else 0 := by
  unfold popE
  rw [if_pos (inN_of hi), lsI_nat]
  cases ls.getD i [] <;> simp
theorem popV_ok (ls : List (List Nat)) (i : Nat) : popV ls i = ((ls.getD i []).headD 0 : Nat) := by
  unfold popV
  rw [lsI_nat]

theorem get_any (h : PM w B o a P n T σ) (H : Ok n T σ) {j t : Nat} (hj : j < n) (ht : t < T) (hn : ∀ (i : Nat) (q : List Nat), σ.ls[i]? = some q → t ∉ q) :
    Calls Try.prog 43 #[.pointer (some ⟨B, 0, none⟩), .int .i64 j, .int .i64 t] w fun e w' => e = .returned (.bool (decide (ow σ j = -1))) ∧ PM w' B o a P n T (wantS σ j t) ∧ But (bl B o a P) w w' := by
  have c2 := h.c2
  obtain ⟨k, hk, c0⟩ := h.c0
  have cx := h.xo hj
  have fx := h.fo j
  have hj' : (j : Int) < (n : Int) := by omega
  have n2 := H.n2
  have t2 := H.t2
  by_cases e : ow σ j = -1
  · have hW : wantS σ j t = ⟨σ.own.set j (t : Int), σ.ls, σ.ag⟩ := if_pos e
    have HW : Hid (wantS σ j t = ⟨σ.own.set j (t : Int), σ.ls, σ.ag⟩) := hW
    have HD : Hid (decide (ow σ j = -1) = true) := decide_eq_true e
    have h' := h.setO j (t : Int)
    rw [e] at cx
    clear hW e
    go_enter Try.func43, Try.ntmps43
    go_wp2_with fail
    go_ret
    exact ⟨by rw [HD.out]; rfl, by rw [HW.out]; exact h', (But.refl _ _).set (by simp [bl]) _⟩
  · have hW : wantS σ j t = ⟨σ.own, σ.ls.set j (W σ j ++ [t]), σ.ag⟩ := if_neg e
    have hp := putE_ok (L := n + n) (i := j) (by omega) ht hn
    have hq : LQ w P T (n + n) σ.ls := h.q
    have CP := push_any hq (j : Int) (t : Int)
    rw [hp, pushS_ok hp] at CP
    have HW : Hid (wantS σ j t = ⟨σ.own, σ.ls.set j (W σ j ++ [t]), σ.ag⟩) := hW
    have HD : Hid (decide (ow σ j = -1) = false) := decide_eq_false e
    clear hW hp
    generalize ow σ j = x at *
    go_enter Try.func43, Try.ntmps43
    go_wp2_with (first | (go_at_call 46; (with_reducible refine CP.mono ?_); rintro e w1 ⟨rfl, q1, d1⟩))
    go_ret
    exact ⟨by rw [HD.out]; rfl, by rw [HW.out]; exact h.lists q1 d1, d1.mono (sub_S B o a P)⟩

theorem pass_any (h : PM w B o a P n T σ) {j : Nat} (hj : j < n) :
    Calls Try.prog 45 #[.pointer (some ⟨B, 0, none⟩), .int .i64 j] w fun e w' => e = .returned (.int .i64 (passV σ j)) ∧ PM w' B o a P n T (passS σ j) ∧ But (bl B o a P) w w' := by
  have c2 := h.c2
  have hj' : (j : Int) < (n : Int) := by omega
  have CP := pop_any h.q (j : Int)
  rw [popE_ok (by omega), popS_ok (by omega), popV_ok] at CP
  cases e : W σ j with
  | nil =>
    have e1 : σ.ls.getD j [] = [] := e
    have hV : passV σ j = -1 := by unfold passV; rw [e]; rfl
    have hS : passS σ j = ⟨σ.own.set j (-1), σ.ls.set j [], σ.ag⟩ := by unfold passS; rw [hV, e]; rfl
    simp only [e1, if_true] at CP
    have HV : Hid (passV σ j = -1) := hV
    have HS : Hid (passS σ j = ⟨σ.own.set j (-1), σ.ls.set j [], σ.ag⟩) := hS
    clear hV hS e e1
    go_enter Try.func45, Try.ntmps45
    go_wp2_with (first | (go_at_call 72; (with_reducible refine CP.mono ?_); rintro e w1 ⟨rfl, q1, d1⟩; have h2 := h.lists q1 d1; obtain ⟨k3, hk3, c3⟩ := h2.c0; have c4 := h2.xo hj; have f4 := h2.fo j; have h3 := h2.setO j (-1)))
    go_ret
    exact ⟨by rw [HV.out]; rfl, by rw [HS.out]; exact h3, (d1.mono (sub_S B o a P)).set (by simp [bl]) _⟩
  | cons t r =>
    have e1 : σ.ls.getD j [] = t :: r := e
    have hV : passV σ j = (t : Int) := by unfold passV; rw [e]; rfl
    have hS : passS σ j = ⟨σ.own.set j (t : Int), σ.ls.set j r, σ.ag⟩ := by unfold passS; rw [hV, e]; rfl
    simp only [e1, List.tail_cons, List.headD_cons] at CP
    rw [if_neg (by simp)] at CP
    have HV : Hid (passV σ j = (t : Int)) := hV
    have HS : Hid (passS σ j = ⟨σ.own.set j (t : Int), σ.ls.set j r, σ.ag⟩) := hS
    clear hV hS e e1
    go_enter Try.func45, Try.ntmps45
    go_wp2_with (first | (go_at_call 72; (with_reducible refine CP.mono ?_); rintro e w1 ⟨rfl, q1, d1⟩; have h2 := h.lists q1 d1; obtain ⟨k3, hk3, c3⟩ := h2.c0; have c4 := h2.xo hj; have f4 := h2.fo j; have h3 := h2.setO j (t : Int)))
    go_ret
    exact ⟨by rw [HV.out]; rfl, by rw [HS.out]; exact h3, (d1.mono (sub_S B o a P)).set (by simp [bl]) _⟩

theorem sleepers_any (h : PM w B o a P n T σ) (n2 : n ≤ 64) {c : Nat} (hc : c < n) : Calls Try.prog 38 #[.pointer (some ⟨B, 0, none⟩), .int .i64 c] w fun e w' => e = .returned (.int .i64 ((n : Int) + (c : Int))) ∧ w' = w := by
  obtain ⟨k, hk, c0⟩ := h.c0
  go_enter Try.func38, Try.ntmps38
  go_wp2_with fail
  go_ret
  exact ⟨rfl, rfl⟩
theorem popC_cons (hol : σ.own.length = n) {c t : Nat} {r : List Nat} (e : S σ c = t :: r) : popC σ c = ⟨σ.own, σ.ls.set (n + c) r, σ.ag⟩ := by
  unfold popC
  rw [hol, e]
  rfl
theorem wake_any (h : PM w B o a P n T σ) (H : Ok n T σ) {c : Nat} (hc : c < n) :
    Calls Try.prog 48 #[.pointer (some ⟨B, 0, none⟩), .int .i64 c] w fun e w' => e = .returned (.int .i64 (sgV σ c)) ∧ PM w' B o a P n T (sgS σ c) ∧ But (bl B o a P) w w' := by
  have n2 := H.n2
  have t2 := H.t2
  have b0 : But [] w w.drew := (But.refl [] w).drew
  have hd := h.keep b0
  have c2 := h.c2
  have hsd' : w.drew.cell? ⟨B, 2, none⟩ = some (.pointer (some ⟨P.B, 0, none⟩)) := hd.c2
  have CS := sleepers_any hd n2 hc
  have CP := pop_any hd.q ((n + c : Nat) : Int)
  have hg := H.s hc
  rw [popE_ok (by omega), popS_ok (by omega), popV_ok, Int.natCast_add] at CP
  have eS : σ.ls.getD (n + c) [] = S σ c := by unfold S; rw [H.ol]
  rw [eS] at CP
  cases e : S σ c with
  | nil =>
    rw [e] at CP hg
    have HV : Hid (sgV σ c = -1) := show sgV σ c = -1 by unfold sgV; rw [e]
    have HS : Hid (sgS σ c = σ) := show sgS σ c = σ by unfold sgS; rw [e]
    have hset : σ.ls.set (n + c) [] = σ.ls := Lk.set_same hg
    simp only [List.tail_nil, if_true, List.headD_nil] at CP
    rw [hset] at CP
    clear hg eS e hset
    go_enter Try.func48, Try.ntmps48
    go_wp2_with fail
    go_region_held3 (fun w' => w'.cell? ⟨B, 2, none⟩ = some (.pointer (some ⟨P.B, 0, none⟩))) (first | with_reducible assumption | with_reducible exact hsd') (first
      | (go_at_call 38; (with_reducible refine CS.mono ?_); rintro e w' ⟨rfl, hw⟩; subst w')
      | (go_at_call 72; (with_reducible refine CP.mono ?_); rintro e w1 ⟨rfl, q1, d1⟩; have h2 := hd.lists q1 d1; have k2 := h2.c2))
    all_goals
      go_wp2_with fail
      go_ret
      exact ⟨by rw [HV.out]; rfl, by rw [HS.out]; exact h2, b0.wide.trans (d1.mono (sub_S B o a P))⟩
  | cons t r =>
    rw [e] at CP
    obtain ⟨a1, a2⟩ := H.again c hc t (by rw [e]; simp)
    have ht := H.slt hc (t := t) (by rw [e]; simp)
    have hp := popC_cons H.ol e
    have H1 := H.popC hc
    have hno := H.popped hc e
    have hn : ∀ (i : Nat) (q : List Nat), (popC σ c).ls[i]? = some q → t ∉ q := fun i q hi => H1.none hno hi
    have HV : Hid (sgV σ c = if ow σ (agN σ t) = -1 then (t : Int) else -1) := show sgV σ c = _ by unfold sgV; rw [e]
    have HS : Hid (sgS σ c = wantS ⟨σ.own, σ.ls.set (n + c) r, σ.ag⟩ (agN σ t) t) := show sgS σ c = _ by unfold sgS; rw [e]; dsimp only; rw [hp]
    simp only [List.tail_cons, List.headD_cons] at CP
    rw [if_neg (by simp)] at CP
    have ht' : (t : Int) < (T : Int) := by omega
    have CG : ∀ X, PM X B o a P n T (popC σ c) → Calls Try.prog 43 #[.pointer (some ⟨B, 0, none⟩), .int .i64 (agN σ t : Nat), .int .i64 t] X fun e w' => e = .returned (.bool (decide (ow σ (agN σ t) = -1))) ∧ PM w' B o a P n T (wantS (popC σ c) (agN σ t) t) ∧ But (bl B o a P) X w' := fun X hX => get_any hX H1 a1 ht hn
    have xa : ∀ X, PM X B o a P n T (popC σ c) → X.cell? ⟨a, t, none⟩ = some (.int .i64 (agN σ t : Nat)) := fun X hX => hX.xa ht
    rw [hp] at CG xa
    clear hg eS e a2 a1 hp hno hn
    generalize ow σ (agN σ t) = u at *
    generalize agN σ t = g at *
    by_cases hu : u = -1
    all_goals
      have hD : decide (u = -1) = (if u = -1 then true else false) := by split <;> simp [*]
      first | rw [if_pos hu] at hD | rw [if_neg hu] at hD
      rw [hD] at CG
      first | rw [if_pos hu] at HV | rw [if_neg hu] at HV
      clear hD hu
      go_enter Try.func48, Try.ntmps48
      go_wp2_with fail
      go_region_held3 (fun w' => w'.cell? ⟨B, 2, none⟩ = some (.pointer (some ⟨P.B, 0, none⟩))) (first | with_reducible assumption | with_reducible exact hsd') (first
        | (go_at_call 38; (with_reducible refine CS.mono ?_); rintro e w' ⟨rfl, hw⟩; subst w')
        | (go_at_call 72; (with_reducible refine CP.mono ?_); rintro e w1 ⟨rfl, q1, d1⟩; have h2 := hd.lists q1 d1; have k2 := h2.c2; obtain ⟨k3, hk3, c3⟩ := h2.c1; have c4 := xa _ h2; have CG1 := CG _ h2))
      all_goals
        go_wp2_with (first | (go_at_call 43; (with_reducible refine CG1.mono ?_); rintro e w2 ⟨rfl, h3, b3⟩))
        go_ret
        exact ⟨by rw [HV.out]; rfl, by rw [HS.out]; exact h3, (b0.wide.trans (d1.mono (sub_S B o a P))).trans b3⟩
end Go.Proofs.Ytimoleijdfoahaa.Lq
