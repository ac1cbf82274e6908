/- Contracts of Add and Cancel. -/
import Derived.Test.YtmjjghhlalaeiaaWnew
namespace Go.Proofs.Ytmjjghhlalaeiaa
open Go.RowKit

/-- What Add and Cancel tell, and who waits behind them. -/
def addE (N : Nat) (wh : List Nat) (t a : Int) : Int := if inN N t && inN 65535 (a - 1) then (if wt wh t.toNat = 0 then 0 else 5) else 8
def addS (N n : Nat) (wh : List Nat) (t a : Int) : List Nat := if addE N wh t a = 0 then wh.set t.toNat (n + a.toNat) else wh
def canE (N : Nat) (wh : List Nat) (t : Int) : Int := if inN N t then (if wt wh t.toNat = 0 then 4 else 0) else 8
def canS (N : Nat) (wh : List Nat) (t : Int) : List Nat := if canE N wh t = 0 then wh.set t.toNat 0 else wh

section
variable {w w' : World} {T : Wp} {N n : Nat} {wh : List Nat} {us : List Int} {ls : List (List Nat)} {R : Nat → Nat → Prop}

theorem WP.in_some (hm : WM w T N n us ls) (hp : WP N n wh us ls R []) {t : Nat} (h : wt wh t ≠ 0) : ∃ i : Nat, whI ls t = i := by
  obtain ⟨i, q, hq, ht⟩ := hp.out t h (by simp)
  exact ⟨i, whI_some hm.l.ok hq ht⟩
theorem WP.in_none (hp : WP N n wh us ls R []) {t : Nat} (h : wt wh t = 0) : whI ls t = -1 :=
  whI_none fun i q hq ht => (hp.inn i q hq t ht).2.1 h
theorem WP.inB (hm : WM w T N n us ls) (hp : WP N n wh us ls R []) (t : Int) (ht : inN N t = true) : inB ls t = decide (wt wh t.toNat ≠ 0) := by
  obtain ⟨k, rfl, hk⟩ := inN_out ht
  unfold Ytmjjghhlalaeiaa.inB
  rw [wI_nat, Int.toNat_natCast]
  by_cases h : wt wh k = 0
  · rw [hp.in_none h]
    simp [h]
  · obtain ⟨i, e⟩ := WP.in_some hm hp h
    rw [e]
    simp [h]
theorem WP.inB_out (hm : WM w T N n us ls) (t : Int) (ht : inN N t = false) : Ytmjjghhlalaeiaa.inB ls t = false := by
  unfold Ytmjjghhlalaeiaa.inB
  rw [wI_out hm.l.ok ht]
  rfl

/-- One more that waits, and stands nowhere yet. -/
theorem WX.more (hm : WM w T N n us ls) (hp : WP N n wh us ls R []) {t a : Nat} (ht : t < N) (h0 : wt wh t = 0) (ha : a ≤ 65535) : WX (w.setCell ⟨T.G, t, none⟩ (.int .i64 (n + a : Nat))) T N n (wh.set t (n + a)) R [t] := by
  have hl : t < wh.length := by rw [hp.len]; exact ht
  refine ⟨_, ls, hm.setU t ((n + a : Nat) : Int), by simpa using hp.len, ?_, ?_, ?_, ?_⟩
  · intro s hs h
    by_cases e : t = s
    · subst e
      rw [List.getElem?_set_self (by rw [hm.ul]; exact ht), wt_set_self _ hl]
    · rw [wt_set_ne _ e] at h ⊢
      rw [List.getElem?_set_ne e]
      exact hp.us s hs h
  · intro i q hq s hs
    obtain ⟨_, h2, h3⟩ := hp.inn i q hq s hs
    have e : t ≠ s := fun e => h2 (e ▸ h0)
    rw [wt_set_ne _ e]
    exact ⟨by simpa using Ne.symm e, h2, h3⟩
  · intro s h hs
    have e : t ≠ s := fun e => hs (by simp [e])
    rw [wt_set_ne _ e] at h
    exact hp.out s h (by simp)
  · intro s h
    by_cases e : t = s
    · subst e
      rw [wt_set_self _ hl]
      omega
    · rw [wt_set_ne _ e] at h ⊢
      exact hp.near s h

theorem WQ.pair (h : WQ w T N n wh) : ∃ us ls, WM w T N n us ls ∧ WP N n wh us ls (fun u i => i = rowN n u) [] := h.1

set_option maxHeartbeats 4000000 in
theorem add_bad (h : WQ w T N n wh) (t a : Int) (hb : addE N wh t a ≠ 0) :
    Calls Try.prog 21 #[.pointer (some ⟨T.B, 0, none⟩), .int .i64 t, .int .i64 a] w fun e w' => e = .returned (.int .i64 (addE N wh t a)) ∧ w' = w := by
  obtain ⟨us, ls, hm, hp⟩ := h.pair
  have HM := wmade_any hm
  have HI := isID_any hm t
  have HW := waits_any hm t
  unfold addE at hb ⊢
  cases hi : inN N t with
  | false =>
    rw [hi] at HI
    go_enter Try.func21, Try.ntmps21
    go_wp2_with (first
      | (go_at_call 31; refine HM.mono ?_; rintro e w' ⟨rfl, hw⟩; subst w')
      | (go_at_call 39; refine HI.mono ?_; rintro e w' ⟨rfl, hw⟩; subst w'))
    go_ret
    exact ⟨by simp, rfl⟩
  | true =>
    rw [hi] at HI hb
    rw [WP.inB hm hp t hi] at HW
    by_cases ha : a < 1
    · have e : inN 65535 (a - 1) = false := by unfold inN; simp; omega
      rw [e]
      clear hb
      go_enter Try.func21, Try.ntmps21
      go_wp2_with (first
        | (go_at_call 31; refine HM.mono ?_; rintro e w' ⟨rfl, hw⟩; subst w')
        | (go_at_call 39; refine HI.mono ?_; rintro e w' ⟨rfl, hw⟩; subst w'))
      go_ret
      exact ⟨by simp, rfl⟩
    · by_cases ha2 : 65535 < a
      · have e : inN 65535 (a - 1) = false := by unfold inN; simp; omega
        rw [e]
        clear hb
        go_enter Try.func21, Try.ntmps21
        go_wp2_with (first
          | (go_at_call 31; refine HM.mono ?_; rintro e w' ⟨rfl, hw⟩; subst w')
          | (go_at_call 39; refine HI.mono ?_; rintro e w' ⟨rfl, hw⟩; subst w'))
        go_ret
        exact ⟨by simp, rfl⟩
      · have e : inN 65535 (a - 1) = true := by unfold inN; simp; omega
        rw [e] at hb ⊢
        have h0 : wt wh t.toNat ≠ 0 := fun e => hb (by simp [e])
        have hd : decide (wt wh t.toNat ≠ 0) = true := by simp [h0]
        rw [hd] at HW
        clear hb hd
        have h0' : wt wh t.toNat = 0 → False := h0
        have ha' : 1 ≤ a := by omega
        have ha2' : a ≤ 65535 := by omega
        clear hi h
        go_enter Try.func21, Try.ntmps21
        go_wp2_with (first
          | (go_at_call 31; refine HM.mono ?_; rintro e w' ⟨rfl, hw⟩; subst w')
          | (go_at_call 39; refine HI.mono ?_; rintro e w' ⟨rfl, hw⟩; subst w')
          | (go_at_call 37; refine HW.mono ?_; rintro e w' ⟨rfl, hw⟩; subst w'))
        go_ret
        exact ⟨by simp, rfl⟩

set_option maxRecDepth 100000 in
set_option maxHeartbeats 4000000 in
theorem add_good (h : WQ w T N n wh) (hT : Tm (n + 65535)) (t a : Nat) (ht : t < N) (h1 : 1 ≤ a) (h2 : a ≤ 65535) (h0 : wt wh t = 0) :
    Calls Try.prog 21 #[.pointer (some ⟨T.B, 0, none⟩), .int .i64 t, .int .i64 a] w fun e w' => e = .returned (.int .i64 0) ∧ WQ w' T N n (wh.set t (n + a)) ∧ But T.S w w' := by
  have hN := h.2
  obtain ⟨us, ls, hm, hp⟩ := h.pair
  have HM := wmade_any hm
  have HI := isID_any hm t
  have HW := waits_any hm t
  rw [inN_of ht] at HI
  rw [WP.inB hm hp t (inN_of ht), Int.toNat_natCast, show decide (wt wh t ≠ 0) = false by simp [h0]] at HW
  have hl : t < wh.length := by rw [hp.len]; exact ht
  obtain ⟨x, hx⟩ : ∃ x, us[t]? = some x := ⟨_, List.getElem?_eq_getElem (by rw [hm.ul]; exact ht)⟩
  have cx := hm.xu hx
  have c0 := hm.c0
  have c1 := hm.c1
  have fx := hm.g.fz t
  have ewrap : IntKind.i64.wrap ((n : Int) + (a : Int)) = ((n + a : Nat) : Int) := by
    have hTm : n + 65535 < 4000000000000000000 := hT
    rw [IntKind.wrap_i64] <;> omega
  have ewrap' : wrap64 ((n : Int) + (a : Int)) = ((n + a : Nat) : Int) := by
    have hTm : n + 65535 < 4000000000000000000 := hT
    unfold wrap64
    omega
  have hTn : Tm n := by have hTm : n + 65535 < 4000000000000000000 := hT; unfold Tm; omega
  have HP : ∀ W, WX W T N n (wh.set t (n + a)) (fun u i => i = rowN n u) [t] → _ := fun W hW => xput_any hW hTn (by simp) (by rw [wt_set_self _ hl]; omega) rfl
  have hX : ∀ W, WM W T N n us ls → WX (W.setCell ⟨T.G, t, none⟩ (.int .i64 (n + a : Nat))) T N n (wh.set t (n + a)) (fun u i => i = rowN n u) [t] := fun W hW => WX.more hW hp ht h0 h2
  have hQ : ∀ W, WX W T N n (wh.set t (n + a)) (fun u i => i = rowN n u) [] → WQ W T N n (wh.set t (n + a)) := fun W hW => ⟨hW, fun s hs => by
    by_cases e : t = s
    · subst e
      rw [wt_set_self _ hl]
      omega
    · rw [wt_set_ne _ e] at hs ⊢
      exact hN s hs⟩
  have ht' : (t : Int) < (N : Int) := by omega
  have ht0 : (0 : Int) ≤ (t : Int) := by omega
  have ha' : (1 : Int) ≤ (a : Int) := by omega
  have ha2' : (a : Int) ≤ 65535 := by omega
  have hbg := hm.bg
  clear hx hN hl h
  go_enter Try.func21, Try.ntmps21
  go_wp2_with (first
    | (go_at_call 31; refine HM.mono ?_; rintro e w' ⟨rfl, hw⟩; subst w')
    | (go_at_call 39; refine HI.mono ?_; rintro e w' ⟨rfl, hw⟩; subst w')
    | (go_at_call 37; refine HW.mono ?_; rintro e w' ⟨rfl, hw⟩; subst w'))
  clear HM HI HW
  go_region
  all_goals
    have hx1 : WX (w.setCell ⟨T.G, t, none⟩ (.int .i64 ((n : Int) + (a : Int)))).drew T N n (wh.set t (n + a)) (fun u i => i = rowN n u) [t] := (hX w hm).keep (But.refl [] _).drew
    have hb1 : But T.S w (w.setCell ⟨T.G, t, none⟩ (.int .i64 ((n : Int) + (a : Int)))).drew := ((But.refl T.S w).set (p := ⟨T.G, t, none⟩) (by simp [Wp.S]) _).drew
    have HP' := HP _ hx1
    generalize (w.setCell ⟨T.G, t, none⟩ (.int .i64 ((n : Int) + (a : Int)))).drew = W1 at *
    clear hx1 HP hX cx c0 c1 fx hm hp
    go_wp2_with (first
      | (go_at_call 40; refine HP'.mono ?_; rintro e w2 ⟨rfl, h2', b2⟩))
    go_ret
    exact ⟨rfl, hQ _ h2', hb1.trans (b2.mono Wp.PS)⟩

theorem addE_zero {t a : Int} (h : addE N wh t a = 0) : ∃ k b : Nat, t = k ∧ a = b ∧ k < N ∧ 1 ≤ b ∧ b ≤ 65535 ∧ wt wh k = 0 := by
  unfold addE at h
  split at h
  · rename_i hb
    simp at hb
    obtain ⟨k, rfl, hk⟩ := inN_out hb.1
    obtain ⟨b, e, hb'⟩ := inN_out hb.2
    split at h
    · rename_i h0
      exact ⟨k, b + 1, rfl, by omega, hk, by omega, by omega, by simpa using h0⟩
    · simp at h
  · simp at h

theorem add_any (h : WQ w T N n wh) (hT : Tm (n + 65535)) (t a : Int) :
    Calls Try.prog 21 #[.pointer (some ⟨T.B, 0, none⟩), .int .i64 t, .int .i64 a] w fun e w' => e = .returned (.int .i64 (addE N wh t a)) ∧ WQ w' T N n (addS N n wh t a) ∧ But T.S w w' := by
  unfold addS
  by_cases hz : addE N wh t a = 0
  · rw [if_pos hz]
    rw [hz]
    obtain ⟨k, b, rfl, rfl, h1, h2, h3, h4⟩ := addE_zero hz
    rw [Int.toNat_natCast, Int.toNat_natCast]
    exact add_good h hT k b h1 h2 h3 h4
  · rw [if_neg hz]
    refine (add_bad h t a hz).mono ?_
    rintro e w' ⟨rfl, rfl⟩
    exact ⟨rfl, h, But.refl _ _⟩

/-- One that waits no more. -/
theorem WQ.less (h : WQ w T N n wh) (hm : WM w T N n us ls) (hp : WP N n wh us ls (fun u i => i = rowN n u) []) (t : Nat) (hl : LQ w' T.P N 64 (remS N ls t)) (hb : But T.P.S w w') (hz : remE N ls t = 0) : WQ w' T N n (wh.set t 0) := by
  obtain ⟨i, a, pre, post, e, ha, hi, _, hq, hS⟩ := remE_zero hm.l.ok hz
  obtain rfl : t = a := by omega
  have htl : t < wh.length := by rw [hp.len]; exact ha
  rw [hS] at hl
  have hnd := hm.l.ok.nd i _ hq
  have hn1 : t ∉ pre ++ post := by
    have := (List.perm_middle.nodup_iff).1 hnd
    exact (List.nodup_cons.1 this).1
  refine ⟨⟨us, _, hm.lists hb hl, by simpa using hp.len, ?_, ?_, ?_, ?_⟩, ?_⟩
  · intro s hs h0
    by_cases e : t = s
    · subst e
      rw [wt_set_self _ htl] at h0
      exact absurd rfl h0
    · rw [wt_set_ne _ e] at h0 ⊢
      exact hp.us s hs h0
  · intro j q hj s hs
    have hsin : ∃ q', ls[j]? = some q' ∧ s ∈ q' ∧ t ≠ s := by
      rcases get_set hj with ⟨rfl, rfl⟩ | ⟨hne, hj'⟩
      · refine ⟨_, hq, ?_, fun e => hn1 (e ▸ hs)⟩
        rcases List.mem_append.1 hs with h | h
        · exact List.mem_append_left _ h
        · exact List.mem_append_right _ (List.mem_cons_of_mem _ h)
      · refine ⟨q, hj', hs, fun e => ?_⟩
        subst e
        exact hm.l.ok.dj i j _ q hq hj' (Ne.symm hne) t (by simp) hs
    obtain ⟨q', hq', hs', hne⟩ := hsin
    rw [wt_set_ne _ hne]
    exact hp.inn j q' hq' s hs'
  · intro s h0 hs
    have hne : t ≠ s := fun e => h0 (by rw [← e, wt_set_self _ htl])
    rw [wt_set_ne _ hne] at h0
    obtain ⟨j, q, hj, hmem⟩ := hp.out s h0 hs
    by_cases hij : i = j
    · subst hij
      rw [hq] at hj
      cases hj
      refine ⟨i, _, List.getElem?_set_self (by rw [hm.l.ok.len]; exact hi), ?_⟩
      rcases List.mem_append.1 hmem with h | h
      · exact List.mem_append_left _ h
      · rcases List.mem_cons.1 h with h | h
        · exact absurd h.symm hne
        · exact List.mem_append_right _ h
    · exact ⟨j, q, (List.getElem?_set_ne hij).trans hj, hmem⟩
  · intro s h0
    have hne : t ≠ s := fun e => h0 (by rw [← e, wt_set_self _ htl])
    rw [wt_set_ne _ hne] at h0 ⊢
    exact hp.near s h0
  · intro s h0
    have hne : t ≠ s := fun e => h0 (by rw [← e, wt_set_self _ htl])
    rw [wt_set_ne _ hne] at h0 ⊢
    exact h.2 s h0

theorem cancel_any (h : WQ w T N n wh) (t : Int) :
    Calls Try.prog 25 #[.pointer (some ⟨T.B, 0, none⟩), .int .i64 t] w fun e w' => e = .returned (.int .i64 (canE N wh t)) ∧ WQ w' T N n (canS N wh t) ∧ But T.S w w' := by
  obtain ⟨us, ls, hm, hp⟩ := h.pair
  have HM := wmade_any hm
  have c66 := hm.c66
  have eE : remE N ls t = canE N wh t := by
    unfold remE canE
    cases hi : inN N t with
    | false => rfl
    | true =>
      obtain ⟨k, rfl, hk⟩ := inN_out hi
      rw [if_pos rfl, if_pos rfl, wI_nat, Int.toNat_natCast]
      by_cases h0 : wt wh k = 0
      · rw [if_pos h0, if_pos (hp.in_none h0)]
      · obtain ⟨i, e⟩ := WP.in_some hm hp h0
        rw [if_neg h0, if_neg (by rw [e]; omega)]
  have HR : Calls Try.prog 47 #[.pointer (some ⟨T.P.B, 0, none⟩), .int .i64 t] w fun e w' => e = .returned (.int .i64 (canE N wh t)) ∧ WQ w' T N n (canS N wh t) ∧ But T.S w w' := by
    refine (remove_any hm.l t).mono ?_
    rintro e w' ⟨rfl, hl, hb⟩
    rw [eE]
    refine ⟨rfl, ?_, hb.mono Wp.PS⟩
    unfold canS
    by_cases hz : canE N wh t = 0
    · rw [if_pos hz]
      have hz' := eE.trans hz
      obtain ⟨i, a, pre, post, rfl, _⟩ := remE_zero hm.l.ok hz'
      rw [Int.toNat_natCast]
      exact h.less hm hp a hl hb hz'
    · rw [if_neg hz]
      have e2 : remS N ls t = ls := by unfold remS; rw [if_neg (by rw [eE]; exact hz)]
      rw [e2] at hl
      exact ⟨⟨us, ls, hm.lists hb hl, hp⟩, h.2⟩
  clear eE hm hp h
  go_enter Try.func25, Try.ntmps25
  go_wp2_with (first
    | (go_at_call 31; refine HM.mono ?_; rintro e w' ⟨rfl, hw⟩; subst w')
    | (go_at_call 47; refine HR.mono ?_; rintro e w2 ⟨rfl, h2, b2⟩))
  go_ret
  exact ⟨rfl, h2, b2⟩
end
end Go.Proofs.Ytmjjghhlalaeiaa
