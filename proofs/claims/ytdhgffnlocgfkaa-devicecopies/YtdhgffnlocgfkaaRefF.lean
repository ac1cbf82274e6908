/- The contract of the reference's Finish. -/
import Derived.Test.YtdhgffnlocgfkaaRefS
import Derived.Deep.CutRange
import Derived.Deep.RegionWith
namespace Go.Proofs.Ytdhgffnlocgfkaa
open Go.RowKit
set_option linter.unusedSimpArgs false

/-- A row's two parts as slices. -/
theorem parts5 {w : World} {g c i : Nat} {xs : List Rq} (hz : RV w (some ⟨g, 0, none⟩) xs) (hi : i < xs.length) (hc : xs.length ≤ c) {ad : Addr} (hd : ad = (if c = i + 1 then (⟨g, 0, none⟩ : Addr) else ⟨g, (i + 1) * 5, none⟩)) :
    RV w (some ⟨g, 0, none⟩) (xs.take i) ∧ RV w (some ad) (xs.drop (i + 1)) := by
  refine ⟨fun j hj => ?_, fun j hj => ?_⟩
  · rw [List.length_take] at hj
    obtain ⟨b, o, e, h0⟩ := hz j (by omega)
    cases e
    refine ⟨g, 0, rfl, ?_⟩
    have : rq (xs.take i) j = rq xs j := by
      unfold rq
      rw [List.getD_eq_getElem?_getD, List.getD_eq_getElem?_getD, List.getElem?_take_of_lt (by omega)]
    rw [this]
    exact h0
  · rw [List.length_drop] at hj
    obtain ⟨b, o, e, h0⟩ := hz (i + 1 + j) (by omega)
    cases e
    rw [hd, if_neg (by omega)]
    refine ⟨g, (i + 1) * 5, rfl, ?_⟩
    have : rq (xs.drop (i + 1)) j = rq xs (i + 1 + j) := by
      unfold rq
      rw [List.getD_eq_getElem?_getD, List.getD_eq_getElem?_getD, List.getElem?_drop]
    rw [this, show (i + 1) * 5 + j * 5 = 0 + (i + 1 + j) * 5 by omega]
    exact h0

section
variable {w : World} {M N la dn : Nat} {R : List Nat} {xs : List Rq}

set_option maxHeartbeats 4000000 in
theorem rfinish_any (h : RQ w M R N la dn xs) (ho : OkS la xs) (hdn : dn ≤ 100000) (hl : xs.length ≤ 4096) (k : Int) :
    Calls Try.prog 22 #[.pointer (some ⟨M, 0, none⟩), .int .i64 k] w fun e w' => e = .returned (.tuple #[a5 (finR xs k), .int .i64 (finV xs k), .int .i64 (finE xs)]) ∧ ∃ R', RQ w' M R' N la (finD dn xs) (finX xs k) ∧ Step R w R' w' := by
  obtain ⟨v, rfl, hm⟩ := h
  have hma := hm.keep ((But.refl [] w).alloc (.cells #[.int .i64 0, .int .i64 0, .int .i64 0, .int .i64 0, .int .i64 0] 60))
  have ha5 := at5_new w 0 0 0 0 0 60
  have sa : Step (bks M v) w (bks M v) (w.alloc (.cells #[.int .i64 0, .int .i64 0, .int .i64 0, .int .i64 0, .int .i64 0] 60)) := Step.keep ((But.refl [] w).alloc _)
  have hMl := hm.lt (x := M) bks_B
  obtain ⟨sl, c, rfl, hrv, hlc, hsl⟩ := hm.shape
  have n0 : w.heap.size ∉ bks M (.slice sl xs.length c) := fun e => by have := hm.lt e; omega
  by_cases hx : xs = []
  · subst hx
    have c1 := hma.c1
    go_enter Try.func22, Try.ntmps22
    go_wp2_with fail
    exact bodyPost_ret (v := .tuple #[a5 z5, .int .i64 0, .int .i64 4]) (by simp [results, Try.results22, go_sem, a5, z5]) rfl ⟨rfl, _, ⟨_, rfl, hma⟩, sa⟩
  · have hlp := List.length_pos_iff.2 hx
    have hp := plc_lt k hx
    have hmem := finR_mem k hx
    have hv : finV xs k = resV (finR xs k) := by unfold finV; rw [if_neg hx]
    have he : finE xs = 0 := by unfold finE; rw [if_neg hx]
    have hd : finD dn xs = dn + 1 := by unfold finD; rw [if_neg hx]
    rw [hv, he, hd]
    have c1 := hma.c1
    have hne : ((xs.length : Int) == 0) = false := by simp; exact hx
    have hpm : 0 < k → Int.tmod k (xs.length : Int) = ((plc xs k : Nat) : Int) := fun h => (plc_pos h).symm
    have hpe : 0 < k → k % (xs.length : Int) = ((plc xs k : Nat) : Int) := fun h => by rw [plc_pos h, Int.tmod_eq_emod_of_nonneg (by omega)]
    have hp0 : ¬ 0 < k → plc xs k = 0 := plc_neg
    obtain ⟨g, rfl, hgM⟩ : ∃ g, sl = some ⟨g, 0, none⟩ ∧ g ≠ M := by
      rcases hsl with ⟨_, h0, _⟩ | h
      · omega
      · exact h
    have hok := ho _ hmem
    have hat : At5 w g (plc xs k * 5) (finR xs k) := by
      obtain ⟨b, o, e, hh⟩ := hrv _ hp
      cases e
      have : rq xs (plc xs k) = finR xs k := rfl
      rw [this, Nat.zero_add] at hh
      exact hh
    have hxs : finX xs k = xs.eraseIdx (plc xs k) := rfl
    rw [hxs, List.eraseIdx_eq_take_drop_succ]
    generalize plc xs k = p at *
    generalize finR xs k = r at *
    obtain ⟨ri, rs, rt, rk, rz⟩ := r
    have hgd := goodB_iff.1 hok.1
    dsimp only at hgd
    have hr0 := hat.below (w' := w.alloc (.cells #[.int .i64 0, .int .i64 0, .int .i64 0, .int .i64 0, .int .i64 0] 60)) ((Below.refl _ _).alloc (Nat.le_refl _) _)
    have hR := fun W => rresult_any ri rs rt rk rz hgd.2.2.1 ⟨hgd.2.2.2.1, hgd.2.2.2.2⟩ W
    generalize resV (ri, rs, rt, rk, rz) = y at *
    have hmx : Try.prog.follows .mixedOrders = true := by kernel_rfl
    clear hmem hv he hd hat hrv hsl hok hgd hxs
    go_enter Try.func22, Try.ntmps22
    go_upto_if 19 with fail
    go_cut [8] from 18 to 22 (fun s8 wx => s8 = .int .i64 (p : Int) ∧ wx = w.alloc (.cells #[.int .i64 0, .int .i64 0, .int .i64 0, .int .i64 0, .int .i64 0] 60))
    case first =>
      by_cases hk : 0 < k
      · have e1 := hpm hk
        have e2 := hpe hk
        clear hpm hpe hp0
        go_wp2_with fail
        go_meet
        case rel => exact ⟨rfl, rfl⟩
      · have e0 : Hid (p = 0) := hp0 hk
        have hk' : decide (0 < k) = false := by simpa using hk
        clear hpm hpe hp0
        go_wp2_with fail
        go_meet
        case rel => exact ⟨by rw [e0.out]; rfl, rfl⟩
    case rest =>
      obtain ⟨rfl, hwc⟩ := hcut
      rw [hwc]
      clear hwc hpm hpe hp0
      obtain ⟨r0, r1, r2, r3, r4⟩ := hr0
      dsimp only at r0 r1 r2 r3 r4
      have hp' : (p : Int) < (xs.length : Int) := by omega
      have hmb := hma.keep ((But.refl [] _).alloc (.cells #[.int .i64 ri, .int .i64 rs, .int .i64 rt, .int .i64 rk, .int .i64 rz] 60))
      have hab := at5_new (w.alloc (.cells #[.int .i64 0, .int .i64 0, .int .i64 0, .int .i64 0, .int .i64 0] 60)) ri rs rt rk rz 60
      have haz := ha5.below (w' := (w.alloc (.cells #[.int .i64 0, .int .i64 0, .int .i64 0, .int .i64 0, .int .i64 0] 60)).alloc (.cells #[.int .i64 ri, .int .i64 rs, .int .i64 rt, .int .i64 rk, .int .i64 rz] 60)) ((Below.refl _ _).alloc (Nat.le_refl _) _)
      have hfz : ∀ j, ((w.alloc (.cells #[.int .i64 0, .int .i64 0, .int .i64 0, .int .i64 0, .int .i64 0] 60)).alloc (.cells #[.int .i64 ri, .int .i64 rs, .int .i64 rt, .int .i64 rk, .int .i64 rz] 60)).frozen? ⟨w.heap.size, j, none⟩ = false := fun j => by simp [go_sem]
      rw [show (w.alloc (.cells #[.int .i64 0, .int .i64 0, .int .i64 0, .int .i64 0, .int .i64 0] 60)).heap.size = w.heap.size + 1 by simp] at hab
      have sb := sa.trans (Step.keep ((But.refl [] _).alloc (.cells #[.int .i64 ri, .int .i64 rs, .int .i64 rt, .int .i64 rk, .int .i64 rz] 60)))
      have hsz : w.heap.size + 1 < ((w.alloc (.cells #[.int .i64 0, .int .i64 0, .int .i64 0, .int .i64 0, .int .i64 0] 60)).alloc (.cells #[.int .i64 ri, .int .i64 rs, .int .i64 rt, .int .i64 rk, .int .i64 rz] 60)).heap.size := by simp
      go_upto_region 8 with fail
      generalize (w.alloc (.cells #[.int .i64 0, .int .i64 0, .int .i64 0, .int .i64 0, .int .i64 0] 60)).alloc (.cells #[.int .i64 ri, .int .i64 rs, .int .i64 rt, .int .i64 rk, .int .i64 rz] 60) = W at *
      clear r0 r1 r2 r3 r4 hma sa ha5 c1
      have hi1 : (0 : Int) ≤ (p : Int) := by omega
      have hi2 : (0 : Int) ≤ (p : Int) + 1 := by omega
      have hiw : IntKind.i64.wrap ((p : Int) + 1) = (p : Int) + 1 := by rw [IntKind.wrap_i64]; omega
      have hic : (p : Int) ≤ (c : Int) := by omega
      have hin : (p : Int) + 1 ≤ (xs.length : Int) := by omega
      have hnc : (xs.length : Int) ≤ (c : Int) := by omega
      obtain ⟨ad, hd⟩ : ∃ ad, ad = (if c = p + 1 then (⟨g, 0, none⟩ : Addr) else ⟨g, (p + 1) * 5, none⟩) := ⟨_, rfl⟩
      obtain ⟨R1, R2⟩ := parts5 hmb.h.rv hp hlc hd
      have hif : (if c = p + 1 then some (⟨g, 0, none⟩ : Addr) else some ⟨g, (p + 1) * 5, none⟩) = some ad := by rw [hd]; split <;> rfl
      clear hd
      have L1 : Hid ((xs.take p).length = p) := by unfold Hid; rw [List.length_take]; omega
      have L2 : Hid ((xs.drop (p + 1)).length = xs.length - (p + 1)) := by unfold Hid; rw [List.length_drop]
      have L3 : Hid ((xs.take p ++ xs.drop (p + 1)).length = p + (xs.length - (p + 1))) := by unfold Hid; rw [List.length_append, L1.out, L2.out]
      have OW1 := (ow_none W 60).drew
      have B1 : But [] W (W.alloc (.cells #[] 60)).drew := ((But.refl [] W).alloc _).drew
      have KS : ∀ w1, But [] W w1 → w1.cell? ⟨M, 1, none⟩ = some (.slice (some ⟨g, 0, none⟩) xs.length c) := fun w1 hb => hb.cell hmb.c1
      have HF : ∀ w1, But [] W w1 → w1.frozen? ⟨M, 1, none⟩ = false := fun w1 hb => (hmb.keep hb).fb 1
      have hmu := fun w2 v' ys => hmb.row (w2 := w2) (v' := v') (ys := ys)
      refine wp_region_K 19 (fun w' => w'.cell? ⟨M, 1, none⟩ = some (.slice (some ⟨g, 0, none⟩) xs.length c)) hmx (by kernel_rfl) (KS _ (But.refl [] W).drew) (fun hHeld hdep => ?_)
      refine wpAnyK_take (i := 0) (v := ?_) (some 30) rfl rfl hdep (by kernel_rfl) (fun _ _ _ h => h) (Or.inl ⟨by rfl, ?_⟩) hHeld ?_
      rotate_left
      · (intro w hSw; go_simp; all_goals with_reducible rfl)
      try simp only [Act.put, List.setIfInBounds_toArray, List.set_cons_zero, List.set_cons_succ]
      refine wpAnyK_take (i := 2) (v := ?_) (some 32) rfl rfl hdep (by kernel_rfl) (fun _ _ _ h => h) (Or.inl ⟨by rfl, ?_⟩) hHeld ?_
      rotate_left
      · (intro w hSw; go_simp; all_goals with_reducible rfl)
      try simp only [Act.put, List.setIfInBounds_toArray, List.set_cons_zero, List.set_cons_succ]
      refine wpAnyK_take (i := 3) (v := ?_) (some 33) rfl rfl hdep (by kernel_rfl) (fun _ _ _ h => h) (Or.inl ⟨by rfl, ?_⟩) hHeld ?_
      rotate_left
      · (intro w hSw; go_simp; all_goals with_reducible rfl)
      try simp only [Act.put, List.setIfInBounds_toArray, List.set_cons_zero, List.set_cons_succ]
      refine wpAnyK_take (i := 4) (v := ?_) (some 34) rfl rfl hdep (by kernel_rfl) (fun _ _ _ h => h) (Or.inl ⟨by rfl, ?_⟩) hHeld ?_
      rotate_left
      · (intro w hSw; go_simp; all_goals with_reducible rfl)
      try simp only [Act.put, List.setIfInBounds_toArray, List.set_cons_zero, List.set_cons_succ]
      refine wpAnyK_take (i := 5) (v := ?_) (some 35) rfl rfl hdep (by kernel_rfl) (fun _ _ _ h => h) (Or.inl ⟨by rfl, ?_⟩) hHeld ?_
      rotate_left
      · (intro w hSw; go_simp; all_goals with_reducible rfl)
      try simp only [Act.put, List.setIfInBounds_toArray, List.set_cons_zero, List.set_cons_succ]
      refine wpAnyK_take (i := 6) (v := ?_) (some 36) rfl rfl hdep (by kernel_rfl) (fun _ _ _ h => h) (Or.inl ⟨by rfl, ?_⟩) hHeld ?_
      rotate_left
      · (intro w hSw; go_simp; all_goals with_reducible rfl)
      try simp only [Act.put, List.setIfInBounds_toArray, List.set_cons_zero, List.set_cons_succ]
      refine wpAnyK_take (i := 7) (v := ?_) (some 37) rfl rfl hdep (by kernel_rfl) (fun _ _ _ h => h) (Or.inl ⟨by rfl, ?_⟩) hHeld ?_
      rotate_left
      · (intro w hSw; go_simp; all_goals with_reducible rfl)
      try simp only [Act.put, List.setIfInBounds_toArray, List.set_cons_zero, List.set_cons_succ]
      refine wpAnyK_take (i := 9) (v := ?_) (some 39) rfl rfl hdep (by kernel_rfl) (fun _ _ _ h => h) (Or.inl ⟨by rfl, ?_⟩) hHeld ?_
      rotate_left
      · (intro w hSw; go_simp; all_goals with_reducible rfl)
      try simp only [Act.put, List.setIfInBounds_toArray, List.set_cons_zero, List.set_cons_succ]
      refine wpAnyK_take (i := 10) (v := ?_) (some 40) rfl rfl hdep (by kernel_rfl) (fun _ _ _ h => h) (Or.inl ⟨by rfl, ?_⟩) hHeld ?_
      rotate_left
      · (intro w hSw; go_simp; all_goals with_reducible rfl)
      try simp only [Act.put, List.setIfInBounds_toArray, List.set_cons_zero, List.set_cons_succ]
      refine wpAnyK_take (i := 11) (v := ?_) (some 41) rfl rfl hdep (by kernel_rfl) (fun _ _ _ h => h) (Or.inl ⟨by rfl, ?_⟩) hHeld ?_
      rotate_left
      · (intro w hSw; go_simp; all_goals with_reducible rfl)
      try simp only [Act.put, List.setIfInBounds_toArray, List.set_cons_zero, List.set_cons_succ]
      refine wpAnyK_take (i := 12) (v := ?_) (some 42) rfl rfl hdep (by kernel_rfl) (fun _ _ _ h => h) (Or.inl ⟨by rfl, ?_⟩) hHeld ?_
      rotate_left
      · (intro w hSw; go_simp; all_goals with_reducible rfl)
      try simp only [Act.put, List.setIfInBounds_toArray, List.set_cons_zero, List.set_cons_succ]
      refine wpAnyK_take (i := 13) (v := ?_) (some 43) rfl rfl hdep (by kernel_rfl) (fun _ _ _ h => h) (Or.inl ⟨by rfl, ?_⟩) hHeld ?_
      rotate_left
      · (intro w hSw; go_simp; all_goals with_reducible rfl)
      try simp only [Act.put, List.setIfInBounds_toArray, List.set_cons_zero, List.set_cons_succ]
      refine wpAnyK_take (i := 14) (v := ?_) (some 44) rfl rfl hdep (by kernel_rfl) (fun _ _ _ h => h) (Or.inl ⟨by rfl, ?_⟩) hHeld ?_
      rotate_left
      · (intro w hSw; go_simp; all_goals with_reducible rfl)
      try simp only [Act.put, List.setIfInBounds_toArray, List.set_cons_zero, List.set_cons_succ]
      refine wpAnyK_take (i := 15) (v := ?_) (some 45) rfl rfl hdep (by kernel_rfl) (fun _ _ _ h => h) (Or.inl ⟨by rfl, ?_⟩) hHeld ?_
      rotate_left
      · (intro w hSw; go_simp; all_goals with_reducible rfl)
      try simp only [Act.put, List.setIfInBounds_toArray, List.set_cons_zero, List.set_cons_succ]
      refine wpAnyK_one (i := 1) (by kernel_rfl) rfl (fun K hK => ?_)
      go_simp
      refine hK.out _ _ (fun _ => KS _ B1) ?_
      clear hK K
      try simp only [Act.put, List.setIfInBounds_toArray, List.set_cons_zero, List.set_cons_succ]
      refine wpAnyK_one (i := 8) (by kernel_rfl) rfl (fun K hK => ?_)
      refine step_app60 rfl (.tmp 31) (.tmp 37) rfl W.heap.size _ [] rfl OW1 _ _ _ (xs.take p) rfl L1.out (R1.but B1) (by simp; omega) (by simp [World.drew] <;> omega) ?_
      intro v2 w2 ho2 hg2 _
      rw [List.nil_append] at ho2
      have hb2 : But [] W w2 := B1.grown hg2 (fun k e => .inr (by cases e; simp))
      obtain ⟨sa2, sc2, rfl⟩ := ho2.at_ L1.out
      refine hK.out _ _ (fun _ => KS _ hb2) ?_
      clear hK K
      try simp only [Act.put, List.setIfInBounds_toArray, List.set_cons_zero, List.set_cons_succ]
      refine wpAnyK_one (i := 16) (by kernel_rfl) rfl (fun K hK => ?_)
      refine step_app60 rfl (.tmp 38) (.tmp 45) rfl W.heap.size _ (xs.take p) rfl ho2 _ _ _ (xs.drop (p + 1)) rfl L2.out (R2.but hb2) (by rw [L1.out]; omega) (by have := hb2.size; first | omega | (simp; omega)) ?_
      intro v3 w3 ho3 hg3 _
      have hb3 : But [] W w3 := hb2.grown hg3 (fun k e => .inr (ho2.lt e).1)
      obtain ⟨sa3, sc3, rfl⟩ := ho3.at_ L3.out
      have g1 := KS _ hb3
      have f1 := HF _ hb3
      refine hK.out _ _ (fun _ => KS _ hb3) ?_
      clear hK K
      try simp only [Act.put, List.setIfInBounds_toArray, List.set_cons_zero, List.set_cons_succ]
      refine wpAnyK_take (i := 17) (v := ?_) (some 47) rfl rfl hdep (by kernel_rfl) (fun _ _ _ h => h) (Or.inl ⟨by rfl, ?_⟩) (KS _ hb3) ?_
      rotate_left
      · (intro w hSw; go_simp; all_goals with_reducible rfl)
      try simp only [Act.put, List.setIfInBounds_toArray, List.set_cons_zero, List.set_cons_succ]
      refine wpAnyK_take (i := 18) (v := ?_) (some 48) rfl rfl hdep (by kernel_rfl) (fun _ _ _ h => h) (Or.inl ⟨by rfl, ?_⟩) (KS _ hb3) ?_
      rotate_left
      · (intro w hSw; go_simp; all_goals with_reducible rfl)
      try simp only [Act.put, List.setIfInBounds_toArray, List.set_cons_zero, List.set_cons_succ]
      refine wpAnyK_one (i := 19) (by kernel_rfl) rfl (fun K hK => ?_)
      go_simp
      refine hK.out _ _ (fun h => absurd rfl h) ?_
      clear hK K
      try simp only [Act.put, List.setIfInBounds_toArray, List.set_cons_zero, List.set_cons_succ]
      refine wpAnyK_done (by kernel_rfl) ?_
      have nb : w.heap.size ∉ bks M (.slice sa3 (p + (xs.length - (p + 1))) sc3) := fun e => by
        rcases bks_out e with e | e
        · omega
        · have := (ho3.lt e).1
          omega
      obtain ⟨k5, s5⟩ := hmu _ _ _ hb3 ho3
      have c3 := k5.c3
      have f3 := k5.fb 3
      go_upto_region 10 with fail
      have k6 := k5.setDn (x := (dn : Int) + 1) (dn + 1) (by simp)
      have s6 := (sb.trans s5).trans (Step.same ((But.refl _ _).set (p := ⟨M, 3, none⟩) bks_B (.int .i64 ((dn : Int) + 1))))
      have hbk : ∀ x, w.heap.size ≤ x → x ∉ [M] := fun x h e => by simp at e; omega
      have b6 := ((hb3.wide (S := [M])).set (p := ⟨M, 1, none⟩) (by simp) (.slice sa3 (p + (xs.length - (p + 1))) sc3)).set (p := ⟨M, 3, none⟩) (by simp) (.int .i64 ((dn : Int) + 1))
      have ab6 := hab.but b6 (hbk _ (by omega))
      have az6 := haz.but b6 (hbk _ (Nat.le_refl _))
      have fz6 := fz_on b6 (by omega) (hbk _ (Nat.le_refl _)) hfz
      have sz6 := Nat.lt_of_lt_of_le hsz b6.size
      clear k5 s5 ho3 hg3 hb3 hab haz hfz hsz sb c3 f3 g1 f1 hmu HF KS B1 OW1 R1 R2 hmb ho2 hg2 hb2 b6
      generalize ((w3.setCell ⟨M, 1, none⟩ (.slice sa3 (p + (xs.length - (p + 1))) sc3)).setCell ⟨M, 3, none⟩ (.int .i64 ((dn : Int) + 1))) = W6 at *
      have hdr : Below W6.heap.size W6 W6.drew := (Below.refl _ _).drew
      obtain ⟨q0, q1, q2, q3, q4⟩ := ab6.below hdr
      have kd := k6.drew
      have azd := az6.below hdr
      have fzd : ∀ j, W6.drew.frozen? ⟨w.heap.size, j, none⟩ = false := fz6
      have sd := s6.trans (Step.keep (But.refl [] W6).drew)
      dsimp only at q0 q1 q2 q3 q4
      have HF : ∀ w7, Below W6.drew.heap.size W6.drew w7 → At5 w7 (w.heap.size + 1) 0 (ri, rs, rt, rk, rz) ∧ At5 w7 w.heap.size 0 (0, 0, 0, 0, 0) ∧ ∀ j, w7.frozen? ⟨w.heap.size, j, none⟩ = false := fun w7 b7 => ⟨(ab6.below hdr).below b7, azd.below b7, fz_on (S := []) (.of_below b7) (by show w.heap.size < W6.heap.size; omega) (by simp) fzd⟩
      go_region_with (go_at_call 37; (with_reducible refine (hR _).mono ?_); rintro e w7 ⟨rfl, b7⟩; obtain ⟨⟨u0, u1, u2, u3, u4⟩, ⟨z0, z1, z2, z3, z4⟩, y0⟩ := HF _ b7; have y00 := y0 0; have y01 := y0 1; have y02 := y0 2; have y03 := y0 3; have y04 := y0 4)
      all_goals
        go_wp2_with fail
        have bb := But.set5 (S := [w.heap.size]) (But.of_below b7) (g := w.heap.size) (o := 0) (by simp) (.int .i64 ri) (.int .i64 rs) (.int .i64 rt) (.int .i64 rk) (.int .i64 rz)
        have kk := kd.but bb (fun x hx hy => nb (by simp at hy; rw [← hy]; exact hx))
        exact bodyPost_ret (v := .tuple #[a5 (ri, rs, rt, rk, rz), .int .i64 y, .int .i64 0]) (by simp [results, Try.results22, go_sem, a5, z0, z1, z2, z3, z4]) rfl ⟨rfl, _, ⟨_, rfl, kk⟩, ⟨sd.but.trans_new bb (fun x hx => .inr (by simp at hx; omega)), sd.new⟩⟩
end
end Go.Proofs.Ytdhgffnlocgfkaa
