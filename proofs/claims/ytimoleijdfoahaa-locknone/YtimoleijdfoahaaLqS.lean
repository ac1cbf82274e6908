/- Wait, Signal and Cast. -/
import Derived.Test.YtimoleijdfoahaaLqK
import Derived.Test.YtimoleijdfoahaaLoD
namespace Go.Proofs.Ytimoleijdfoahaa.Lq
open Go Go.RowKit Go.Proofs.Ytimoleijdfoahaa.Bs Go.Proofs.Ytimoleijdfoahaa.Lo
open Go.Proofs.Ytimoleijdfoahaa.Lk (LQ Pl iv ints inN inN_of inN_out wI wI_nat whI_cases push_any len_any lsI lsI_nat)
variable {w w' : World} {B o a n T : Nat} {P : Pl} {σ : St}

theorem waitE_zero (H : Ok n T σ) {c i t : Int} (he : waitE σ c i t = 0) : ∃ cc j k : Nat, c = cc ∧ i = j ∧ t = k ∧ cc < n ∧ j < n ∧ k < T ∧ wt σ (k : Int) = -1 ∧ waitV σ c i t = passV σ j ∧ waitS σ c i t = slp (passS σ j) cc j k := by
  have e0 := he
  unfold waitE at he
  split at he
  · omega
  next hc =>
  obtain ⟨cc, rfl, hcc⟩ := inO_out H (by simpa using hc)
  obtain ⟨j, k, rfl, rfl, hj, hk, hw, _⟩ := unlE_zero H he
  refine ⟨cc, j, k, rfl, rfl, rfl, hcc, hj, hk, hw, ?_, ?_⟩
  · unfold waitV
    rw [if_pos e0]
    rfl
  · unfold waitS
    rw [if_pos e0]
    rfl
/-- A thread first waits for a condition; then its lock is passed on. -/
theorem slp_pass (H : Ok n T σ) {c j t : Nat} (hj : j < n) (hc : c < n) : passV ⟨σ.own, σ.ls.set (n + c) (S σ c ++ [t]), σ.ag.set t j⟩ j = passV σ j ∧ passS ⟨σ.own, σ.ls.set (n + c) (S σ c ++ [t]), σ.ag.set t j⟩ j = slp (passS σ j) c j t := by
  have hW : W ⟨σ.own, σ.ls.set (n + c) (S σ c ++ [t]), σ.ag.set t j⟩ j = W σ j := by rw [W_set H (by omega), if_neg (by omega)]
  have hV : passV ⟨σ.own, σ.ls.set (n + c) (S σ c ++ [t]), σ.ag.set t j⟩ j = passV σ j := by unfold passV; rw [hW]
  have hS : S (passS σ j) c = S σ c := by
    unfold passS
    rw [S_set H (by omega) (by rw [List.length_set, H.ol]), if_neg (by omega)]
  refine ⟨hV, ?_⟩
  unfold slp
  rw [hS]
  show (⟨σ.own.set j (passV ⟨σ.own, σ.ls.set (n + c) (S σ c ++ [t]), σ.ag.set t j⟩ j), (σ.ls.set (n + c) (S σ c ++ [t])).set j (W ⟨σ.own, σ.ls.set (n + c) (S σ c ++ [t]), σ.ag.set t j⟩ j).tail, σ.ag.set t j⟩ : St) = ⟨σ.own.set j (passV σ j), (σ.ls.set j (W σ j).tail).set ((σ.own.set j (passV σ j)).length + c) (S σ c ++ [t]), σ.ag.set t j⟩
  rw [hV, hW, List.length_set, H.ol, List.set_comm _ _ (by omega : n + c ≠ j)]
set_option maxHeartbeats 2000000 in
theorem wait_any (h : PM w B o a P n T σ) (H : Ok n T σ) (c i t : Int) :
    Calls Try.prog 19 #[.pointer (some ⟨B, 0, none⟩), .int .i64 c, .int .i64 i, .int .i64 t] w fun e w' => e = .returned (.tuple #[.int .i64 (waitV σ c i t), .int .i64 (waitE σ c i t)]) ∧ PM w' B o a P n T (waitS σ c i t) ∧ But (bl B o a P) w w' := by
  obtain ⟨ee, HE⟩ : ∃ ee, Hid (waitE σ c i t = ee) := ⟨_, rfl⟩
  have n2 := H.n2
  have t2 := H.t2
  by_cases he : ee = 0
  · subst he
    obtain ⟨cc, j, k, rfl, rfl, rfl, hc, hj, hk, hw0, hB, hS⟩ := waitE_zero H HE.out
    obtain ⟨p1, p2⟩ := slp_pass H (t := k) hj hc
    have HB : Hid (waitV σ (cc : Int) (j : Int) (k : Int) = passV σ j) := hB
    have HS : Hid (waitS σ (cc : Int) (j : Int) (k : Int) = slp (passS σ j) cc j k) := hS
    have hn : ∀ (i : Nat) (q : List Nat), σ.ls[i]? = some q → k ∉ q := fun i q hq => H.none hw0 hq
    have CG : ∀ X, PM X B o a P n T ⟨σ.own, σ.ls.set (n + cc) (S σ cc ++ [k]), σ.ag.set k j⟩ → _ := fun X hX => pass_any (w := X) hX hj
    rw [p1, p2] at CG
    have CP : ∀ X, PM X B o a P n T ⟨σ.own, σ.ls, σ.ag.set k j⟩ → Calls Try.prog 46 #[.pointer (some ⟨P.B, 0, none⟩), .int .i64 ((n : Int) + (cc : Int)), .int .i64 k] X fun e w' => e = .returned (.int .i64 0) ∧ LQ w' P T (n + n) (σ.ls.set (n + cc) (S σ cc ++ [k])) ∧ But P.S X w' := fun X hX => by
      have hp := putE_ok (L := n + n) (i := n + cc) (by omega) hk hn
      have := push_any hX.q ((n + cc : Nat) : Int) (k : Int)
      rw [hp, pushS_ok hp, Int.natCast_add, show σ.ls.getD (n + cc) [] = S σ cc by unfold S; rw [H.ol]] at this
      exact this
    have CS : ∀ X, PM X B o a P n T ⟨σ.own, σ.ls, σ.ag.set k j⟩ → _ := fun X hX => sleepers_any (w := X) hX n2 hc
    have hk' : (k : Int) < (T : Int) := by omega
    clear hw0 hB hS p1 p2 hn
    go_enter Try.func19, Try.ntmps19
    go_wp2_with (first
      | (go_at_call 35; (with_reducible refine (obj_any h H (cc : Int)).mono ?_); rintro e w0 ⟨F0, A0, rfl, s0, b0⟩; have h0 := h.keep b0)
      | (go_at_call 35; (with_reducible refine (obj_any h0 H (j : Int)).mono ?_); rintro e w1 ⟨F1, A1, rfl, s1, b1⟩; have h1 := h0.keep b1)
      | (go_at_call 39; (with_reducible refine (thr_any h1 H (k : Int)).mono ?_); rintro e w2 ⟨F2, A2, rfl, s2, b2⟩; have h2 := h1.keep b2)
      | (go_at_call 41; (with_reducible refine (goes_any h2 (k : Int)).mono ?_); rintro e w3 ⟨F3, A3, rfl, s3, b3⟩; have h3 := h2.keep b3)
      | (go_at_call 44; (with_reducible refine (has_any h3 H (j : Int) (k : Int)).mono ?_); rintro e w4 ⟨F4, A4, rfl, s4, b4⟩; have h4 := h3.keep b4; have CA := wait_ask h4 ((((s0.later b1).later b2).later b3).later b4) (((s1.later b2).later b3).later b4) ((s2.later b3).later b4) (s3.later b4) s4; rw [HE.out] at CA)
      | (go_at_call 34; (with_reducible refine (CA _).mono ?_); rintro e w5 ⟨rfl, b5⟩; have h5 := h4.keep b5; obtain ⟨k5, hk5, c5⟩ := h5.c1; have x5 := h5.xa hk; have f5 := h5.fa k; have h6 := h5.setA k j; have c6 := h6.c2; have hd := h6.keep ((But.refl [] _).drew); have hsd' := hd.c2))
    go_region_held3 (fun w' => w'.cell? ⟨B, 2, none⟩ = some (.pointer (some ⟨P.B, 0, none⟩))) (first | with_reducible assumption | with_reducible exact hsd') (first
      | (go_at_call 38; (with_reducible refine (CS _ hd).mono ?_); rintro e w' ⟨rfl, hw⟩; subst w')
      | (go_at_call 46; (with_reducible refine (CP _ hd).mono ?_); rintro e w7 ⟨rfl, q7, d7⟩; have h7 := hd.lists q7 d7; have k7 := h7.c2))
    all_goals
      go_wp2_with (first
        | (go_at_call 45; (with_reducible refine (CG _ h7).mono ?_); rintro e w8 ⟨rfl, h8, b8⟩))
      go_ret2
      exact ⟨by rw [HB.out, HE.out]; rfl, by rw [HS.out]; exact h8, ((((((((b0.trans b1).trans b2).trans b3).trans b4).trans b5).wide).set (by simp [bl]) _).drew.trans (d7.mono (sub_S B o a P))).trans b8⟩
  · have HB : Hid (waitV σ c i t = -1) := show _ = _ by unfold waitV; rw [HE.out, if_neg he]
    have HS : Hid (waitS σ c i t = σ) := show _ = _ by unfold waitS; rw [HE.out, if_neg he]
    have he' : (ee != 0) = true := by simpa using he
    clear he
    go_enter Try.func19, Try.ntmps19
    go_wp2_with (first
      | (go_at_call 35; (with_reducible refine (obj_any h H c).mono ?_); rintro e w0 ⟨F0, A0, rfl, s0, b0⟩; have h0 := h.keep b0)
      | (go_at_call 35; (with_reducible refine (obj_any h0 H i).mono ?_); rintro e w1 ⟨F1, A1, rfl, s1, b1⟩; have h1 := h0.keep b1)
      | (go_at_call 39; (with_reducible refine (thr_any h1 H t).mono ?_); rintro e w2 ⟨F2, A2, rfl, s2, b2⟩; have h2 := h1.keep b2)
      | (go_at_call 41; (with_reducible refine (goes_any h2 t).mono ?_); rintro e w3 ⟨F3, A3, rfl, s3, b3⟩; have h3 := h2.keep b3)
      | (go_at_call 44; (with_reducible refine (has_any h3 H i t).mono ?_); rintro e w4 ⟨F4, A4, rfl, s4, b4⟩; have h4 := h3.keep b4; have CA := wait_ask h4 ((((s0.later b1).later b2).later b3).later b4) (((s1.later b2).later b3).later b4) ((s2.later b3).later b4) (s3.later b4) s4; rw [HE.out] at CA)
      | (go_at_call 34; (with_reducible refine (CA _).mono ?_); rintro e w5 ⟨rfl, b5⟩; have h5 := h4.keep b5))
    go_ret2
    exact ⟨by rw [HB.out, HE.out]; rfl, by rw [HS.out]; exact h5, (((((b0.trans b1).trans b2).trans b3).trans b4).trans b5).wide⟩
theorem signal_any (h : PM w B o a P n T σ) (H : Ok n T σ) (c : Int) :
    Calls Try.prog 22 #[.pointer (some ⟨B, 0, none⟩), .int .i64 c] w fun e w' => e = .returned (.tuple #[.int .i64 (sigV σ c), .int .i64 (sigE σ c)]) ∧ PM w' B o a P n T (sigS σ c) ∧ But (bl B o a P) w w' := by
  have CO := obj_any h H c
  unfold sigV sigE sigS
  cases hC : inO σ c
  · rw [hC] at CO
    simp only [Bool.false_eq_true, if_false]
    go_enter Try.func22, Try.ntmps22
    go_wp2_with (first
      | (go_at_call 35; (with_reducible refine CO.mono ?_); rintro e w1 ⟨F1, A1, rfl, s1, b1⟩; have h1 := h.keep b1; have CA := ask1 h1 s1; unfold unl at CA; simp only [Bool.false_eq_true, if_false] at CA)
      | (go_at_call 34; (with_reducible refine (CA _).mono ?_); rintro e w2 ⟨rfl, b2⟩; have h2 := h1.keep b2))
    go_ret2
    exact ⟨rfl, h2, (b1.trans b2).wide⟩
  · rw [hC] at CO
    simp only [if_true]
    obtain ⟨cc, rfl, hcc⟩ := inO_out H hC
    rw [Int.toNat_natCast]
    have CW : ∀ X, PM X B o a P n T σ → _ := fun X hX => wake_any (w := X) hX H hcc
    go_enter Try.func22, Try.ntmps22
    go_wp2_with (first
      | (go_at_call 35; (with_reducible refine CO.mono ?_); rintro e w1 ⟨F1, A1, rfl, s1, b1⟩; have h1 := h.keep b1; have CA := ask1 h1 s1; unfold unl at CA; simp only [if_true] at CA)
      | (go_at_call 34; (with_reducible refine (CA _).mono ?_); rintro e w2 ⟨rfl, b2⟩; have h2 := h1.keep b2)
      | (go_at_call 48; (with_reducible refine (CW _ h2).mono ?_); rintro e w3 ⟨rfl, h3, b3⟩))
    go_ret2
    exact ⟨rfl, h3, (b1.trans b2).wide.trans b3⟩
end Go.Proofs.Ytimoleijdfoahaa.Lq
