/- The document's Start, End, Waiters. -/
import Derived.Test.YtmbpmcgppnanpaaJnW
import Derived.WideShapes
namespace Go.Proofs.Ytmbpmcgppnanpaa.Jn
open Go Go.RowKit Go.Proofs.Ytmbpmcgppnanpaa.Bs
open Go.Proofs.Ytmbpmcgppnanpaa.Ids (right indexI ageI idI rindex_any)
set_option linter.unusedSimpArgs false

section
set_option maxRecDepth 100000
variable {w w' : World} {M n : Nat} {R R' : List Nat} {σ : St}
set_option maxHeartbeats 4000000 in
theorem start_any (hQ : RQ w M R n σ) (id : Int) (hi : id ≤ 9223372036854775807) :
    Calls Try.prog 24 #[.pointer (some ⟨M, 0, none⟩), .int .i64 id] w fun e w' => e = .returned (.int .i64 (startE σ id)) ∧ ∃ R', RQ w' M R' n (startS σ id) ∧ Step R w R' w' := by
  obtain ⟨hok, G, vs, h⟩ := (show RQ w M R n σ from hQ)
  obtain ⟨c, c0⟩ := h.c0
  have I := place_any h id hi
  have hn := hok.n2
  have hok2 := hok.start id
  unfold startS at hok2 ⊢
  by_cases e : plc σ id < 0
  · have hE : startE σ id = 8 := by unfold startE; rw [if_pos e]
    rw [hE, if_neg (by omega)]
    clear hE hok2
    generalize plc σ id = x at *
    go_enter Try.func24, Try.ntmps24
    go_wp2_with (first | (go_at_call 44; (with_reducible refine I.mono ?_); rintro e w1 ⟨rfl, hw⟩; subst w1))
    go_ret
    exact ⟨rfl, R, hQ, Step.refl _ _⟩
  obtain ⟨k, e1, hk, -, -⟩ := hok.plc e
  have hk' : (k : Int) < (n : Int) := by omega
  have hat : at_ σ id = rw σ k := by unfold at_; rw [e1]; rfl
  have r0 := h.r0 hk
  have r1 := h.r1 hk
  rw [e1] at I hok2 ⊢
  rw [Int.toNat_natCast] at hok2 ⊢
  by_cases e2 : (rw σ k).id = 0
  · have hE : startE σ id = 0 := by unfold startE; rw [if_neg e, hat, if_neg (fun e => e.1 e2)]
    rw [hE, if_pos rfl]
    rw [hE, if_pos rfl] at hok2
    rw [e2] at r0
    have r2 := h.r2 hk
    have r3 := h.r3 hk
    have f0 := h.fz (k * 4)
    have f1 := h.fz (k * 4 + 1)
    have f2 := h.fz (k * 4 + 2)
    have f3 := h.fz (k * 4 + 3)
    have h4 := h.row hk id false 0
    have s4 := h.step4 k (.int .i64 id) (.bool false) (.int .i64 0) (.slice none 0 0)
    have FIN := And.intro (show RQ _ M R n _ from ⟨hok2, _, _, h4⟩) s4
    clear h4 s4 hok2 hE hat e e1 e2 hQ h
    generalize (rw σ k).en = re at *
    generalize (rw σ k).va = rv at *
    generalize vs k = v3 at *
    go_enter Try.func24, Try.ntmps24
    go_wp2_with (first | (go_at_call 44; (with_reducible refine I.mono ?_); rintro e w1 ⟨rfl, hw⟩; subst w1))
    go_ret
    exact ⟨rfl, R, FIN⟩
  cases e3 : (rw σ k).en
  · have hE : startE σ id = 5 := by unfold startE; rw [if_neg e, hat, if_pos ⟨e2, e3⟩]
    rw [hE, if_neg (by omega)]
    rw [e3] at r1
    have e4 : ((rw σ k).id != 0) = true := by simpa using e2
    clear hE hok2 e2 e3 hat
    generalize (rw σ k).id = y at *
    go_enter Try.func24, Try.ntmps24
    go_wp2_with (first | (go_at_call 44; (with_reducible refine I.mono ?_); rintro e w1 ⟨rfl, hw⟩; subst w1))
    go_ret
    exact ⟨rfl, R, hQ, Step.refl _ _⟩
  · have hE : startE σ id = 0 := by unfold startE; rw [if_neg e, hat, if_neg (fun e => by rw [e3] at e; cases e.2)]
    rw [hE, if_pos rfl]
    rw [hE, if_pos rfl] at hok2
    rw [e3] at r1
    have e4 : ((rw σ k).id != 0) = true := by simpa using e2
    have r2 := h.r2 hk
    have r3 := h.r3 hk
    have f0 := h.fz (k * 4)
    have f1 := h.fz (k * 4 + 1)
    have f2 := h.fz (k * 4 + 2)
    have f3 := h.fz (k * 4 + 3)
    have h4 := h.row hk id false 0
    have s4 := h.step4 k (.int .i64 id) (.bool false) (.int .i64 0) (.slice none 0 0)
    have FIN := And.intro (show RQ _ M R n _ from ⟨hok2, _, _, h4⟩) s4
    clear h4 s4 hok2 hE hat e e1 e2 e3 hQ h
    generalize (rw σ k).id = ri at *
    generalize (rw σ k).va = rv at *
    generalize vs k = v3 at *
    go_enter Try.func24, Try.ntmps24
    go_wp2_with (first | (go_at_call 44; (with_reducible refine I.mono ?_); rintro e w1 ⟨rfl, hw⟩; subst w1))
    go_ret
    exact ⟨rfl, R, FIN⟩
/-- A row's end is stored. -/
theorem RM.fin {G : Nat} {vs : Nat → Value} (h : RM w M G R n vs σ) {i : Nat} (hi : i < n) (c : Int) : RM (((w.setCell ⟨G, i * 4 + 1, none⟩ (.bool true)).setCell ⟨G, i * 4 + 2, none⟩ (.int .i64 c)).setCell ⟨G, i * 4 + 3, none⟩ (.slice none 0 0)) M G R n (upd vs i (.slice none 0 0)) (σ.set i ⟨(Jn.rw σ i).id, true, c, []⟩) := by
  have hv := h.rw i hi
  have h2 := h.set (k := 1) hi (by omega) (r := ⟨(Jn.rw σ i).id, true, (Jn.rw σ i).va, (Jn.rw σ i).q⟩) (v := vs i) (fun j hj hne => by match j, hj, hne with | 0, _, _ => rfl | 2, _, _ => rfl | 3, _, _ => rfl) hv
  have h3 := h2.set (k := 2) hi (by omega) (r := ⟨(Jn.rw σ i).id, true, c, (Jn.rw σ i).q⟩) (v := vs i) (fun j hj hne => by rw [rw_set_same h.ll hi, upd_same]; match j, hj, hne with | 0, _, _ => rfl | 1, _, _ => rfl | 3, _, _ => rfl) (by have := h2.rw i hi; rw [rw_set_same h.ll hi, upd_same] at this; exact this)
  rw [List.set_set, upd_upd] at h3
  have h4 := h3.set (k := 3) hi (by omega) (r := ⟨(Jn.rw σ i).id, true, c, []⟩) (v := .slice none 0 0) (fun j hj hne => by rw [rw_set_same h.ll hi, upd_same]; match j, hj, hne with | 0, _, _ => rfl | 1, _, _ => rfl | 2, _, _ => rfl | j + 3, h1, h2 => exact absurd (show j + 3 = 3 by omega) h2) (RowF.nil _ _ _)
  rw [List.set_set, upd_upd] at h4
  exact h4
theorem RM.step3 {G : Nat} {vs : Nat → Value} (h : RM w M G R n vs σ) (i : Nat) (b c d : Value) : Step R w R (((w.setCell ⟨G, i * 4 + 1, none⟩ b).setCell ⟨G, i * 4 + 2, none⟩ c).setCell ⟨G, i * 4 + 3, none⟩ d) :=
  Step.same ((((But.refl R w).set (p := ⟨G, i * 4 + 1, none⟩) h.fr.2 _).set (p := ⟨G, i * 4 + 2, none⟩) h.fr.2 _).set (p := ⟨G, i * 4 + 3, none⟩) h.fr.2 _)
theorem Rd.nil (w : World) : Rd w (.slice none 0 0) [] := ⟨none, 0, rfl, fun j x hx => by simp at hx⟩
theorem Rd.put {w w' : World} {v : Value} {xs : List Int} (h : Rd w v xs) (hb : ∀ g, v.ownBlock = some g → w'.heap[g]? = w.heap[g]?) : Rd w' v xs := by
  obtain ⟨a, c, rfl, hc⟩ := h
  refine ⟨a, c, rfl, fun j x hx => ?_⟩
  obtain ⟨g, e1, e2⟩ := hc j x hx
  refine ⟨g, e1, (World.cell?_of_block (hb g ?_)).trans e2⟩
  subst e1
  rfl
set_option maxHeartbeats 4000000 in
theorem end_any (hQ : RQ w M R n σ) (id va : Int) (hi : id ≤ 9223372036854775807) :
    Calls Try.prog 20 #[.pointer (some ⟨M, 0, none⟩), .int .i64 id, .int .i64 va] w fun e w' => ∃ v, e = .returned (.tuple #[v, .int .i64 (endE σ id)]) ∧ Rd w' v (endL σ id) ∧ ∃ R', RQ w' M R' n (endS σ id va) ∧ Step R w R' w' := by
  obtain ⟨hok, G, vs, h⟩ := (show RQ w M R n σ from hQ)
  obtain ⟨c, c0⟩ := h.c0
  have I := fun j => place_any (h.keep ((But.refl [] w).drewN j)) id hi
  have S := state_any h hok id hi
  have hn := hok.n2
  have hok2 := hok.fin id va
  unfold endS at hok2 ⊢
  unfold endE endL
  by_cases e : stI σ id = 1
  rotate_left
  · rw [if_neg e, if_neg e, if_neg e]
    have e2 : (stI σ id != 1) = true := by simpa using e
    clear hok2 e
    generalize stI σ id = x at *
    go_enter Try.func20, Try.ntmps20
    go_wp2_with (first | (go_at_call 27; (with_reducible refine S.mono ?_); rintro e w1 ⟨rfl, hw⟩; subst w1))
    go_ret2
    exact ⟨_, rfl, Rd.nil _, R, hQ, Step.refl _ _⟩
  rw [if_pos e, if_pos e, if_pos e]
  rw [if_pos e] at hok2
  obtain ⟨k, e1, hk, -, -, hat, e5, e6⟩ := hok.st1 e
  have hk' : (k : Int) < (n : Int) := by omega
  replace I : ∀ j, Calls Try.prog 44 #[.pointer (some ⟨M, 0, none⟩), .int .i64 id] (w.drewN j) fun e w' => e = .returned (.int .i64 k) ∧ w' = w.drewN j := fun j => by rw [← e1]; exact I j
  rw [e1] at hok2 ⊢
  rw [hat] at hok2 ⊢
  rw [Int.toNat_natCast] at hok2 ⊢
  rw [e] at S
  have r1 := h.r1 hk
  have r2 := h.r2 hk
  have r3 := h.r3 hk
  have f1 := h.fz (k * 4 + 1)
  have f2 := h.fz (k * 4 + 2)
  have f3 := h.fz (k * 4 + 3)
  have hv := h.rw k hk
  obtain ⟨sa, sc, e7, -⟩ := hv.rd
  have FIN : ∀ j w3, w3 = (((w.drewN j).setCell ⟨G, k * 4 + 1, none⟩ (.bool true)).setCell ⟨G, k * 4 + 2, none⟩ (.int .i64 va)).setCell ⟨G, k * 4 + 3, none⟩ (.slice none 0 0) → Rd w3 (vs k) (rw σ k).q ∧ RQ w3 M R n (σ.set k ⟨(rw σ k).id, true, va, []⟩) ∧ Step R w R w3 := fun j w3 e => by
    have hB := (But.refl [] w).drewN j
    have h := h.keep hB
    have h4 := h.fin hk va
    have s4 := h.step3 k (.bool true) (.int .i64 va) (.slice none 0 0)
    have hv2 := (h.rw k hk).rd
    have d4 := hv2.put (w' := (((w.drewN j).setCell ⟨G, k * 4 + 1, none⟩ (.bool true)).setCell ⟨G, k * 4 + 2, none⟩ (.int .i64 va)).setCell ⟨G, k * 4 + 3, none⟩ (.slice none 0 0)) (fun g hg => by
      have hne : g ≠ G := fun e => (hv.2 g hg).2 (by simp [e])
      exact (Below.heap_setCell _ ⟨G, k * 4 + 3, none⟩ _ g hne).trans ((Below.heap_setCell _ ⟨G, k * 4 + 2, none⟩ _ g hne).trans (Below.heap_setCell _ ⟨G, k * 4 + 1, none⟩ _ g hne)))
    rw [e]
    exact ⟨d4, ⟨hok2, _, _, h4⟩, (Step.keep hB).trans s4⟩
  rw [e7] at r3
  rw [e7] at FIN
  clear hok2 hat e e1 e5 hQ h hv e6 e7
  generalize (rw σ k).en = re at *
  generalize (rw σ k).va = rv at *
  go_enter Try.func20, Try.ntmps20
  go_wp2_with (first | (go_at_call 27; (with_reducible refine S.mono ?_); rintro e w1 ⟨rfl, hw⟩; subst w1))
  go_quiet (first | (go_at_call 44; exact Calls.quiet_of_same (I _)))
  go_wp2_with fail
  go_ret2
  obtain ⟨g1, g2, g3⟩ := FIN _ _ rfl
  exact ⟨_, rfl, g1, R, g2, g3⟩
set_option maxHeartbeats 4000000 in
theorem waiters_any (hQ : RQ w M R n σ) (id : Int) (hi : id ≤ 9223372036854775807) :
    Calls Try.prog 29 #[.pointer (some ⟨M, 0, none⟩), .int .i64 id] w fun e w' => ∃ v, e = .returned v ∧ RowI w' w.heap.size v (waitL σ id) ∧ Below w.heap.size w w' := by
  obtain ⟨hok, G, vs, h⟩ := (show RQ w M R n σ from hQ)
  obtain ⟨c, c0⟩ := h.c0
  have I := fun w1 (hb : But [] w w1) => place_any (h.keep hb) id hi
  have S := state_any h hok id hi
  have hn := hok.n2
  unfold waitL
  by_cases e : stI σ id = 1
  rotate_left
  · rw [if_neg e]
    have e2 : (stI σ id != 1) = true := by simpa using e
    clear e
    generalize stI σ id = x at *
    go_enter Try.func29, Try.ntmps29
    go_wp2_with (first | (go_at_call 27; (with_reducible refine S.mono ?_); rintro e w1 ⟨rfl, hw⟩; subst w1))
    go_ret
    exact ⟨_, rfl, ⟨by simp, .inl ⟨rfl, rfl⟩⟩, Below.refl _ _⟩
  rw [if_pos e]
  obtain ⟨k, e1, hk, -, -, hat, e5, e6⟩ := hok.st1 e
  have hk' : (k : Int) < (n : Int) := by omega
  have HP : ∀ w1, But [] w w1 → Calls Try.prog 44 #[.pointer (some ⟨M, 0, none⟩), .int .i64 id] w1 fun e w' => e = .returned (.int .i64 k) ∧ w' = w1 := fun w1 hb => by rw [← e1]; exact I w1 hb
  rw [hat]
  rw [e] at S
  have r3 := h.r3 hk
  have hv := h.rw k hk
  have hr := hv.1
  obtain ⟨sa, sc, e7, -⟩ := hv.rd
  rw [e7] at r3 hr
  replace hr := RowI.reads hr
  have hlen := hok.qlen hk
  have KS : ∀ w1, But [] w w1 → w1.cell? ⟨M, 0, none⟩ = some (.slice (some ⟨G, 0, none⟩) n c) ∧ w1.cell? ⟨G, k * 4 + 3, none⟩ = some (.slice sa (rw σ k).q.length sc) := fun w1 hb => ⟨hb.cell c0, hb.cell r3⟩
  clear hat e e1 e5 hQ h hv e6 e7 I c0 r3
  generalize (rw σ k).q = q at *
  have hB0 : But [] w w.drew := (But.refl [] w).drew
  have hB1 : But [] w (w.alloc (.cells #[] 3)).drew := ((But.refl [] w).alloc _).drew
  have OW1 := (own_none w).drew
  go_enter Try.func29, Try.ntmps29
  go_upto_region 3 with (first | (go_at_call 27; (with_reducible refine S.mono ?_); rintro e w1 ⟨rfl, hw⟩; subst w1))
  have hmx : Try.prog.follows .mixedOrders = true := by kernel_rfl
  refine wp_region_K 12 (fun w' => w'.cell? ⟨M, 0, none⟩ = some (.slice (some ⟨G, 0, none⟩) n c) ∧ w'.cell? ⟨G, k * 4 + 3, none⟩ = some (.slice sa q.length sc)) hmx (by kernel_rfl) (KS _ hB0) (fun hHeld hdep => ?_)
  refine wpAnyK_take (i := 1) (v := ?_) (some 10) rfl rfl hdep (by kernel_rfl) (fun _ _ _ h => h) (Or.inl ⟨by rfl, ?_⟩) (hHeld) ?_
  rotate_left
  · (intro w hSw; go_simp; all_goals with_reducible rfl)
  try simp only [Act.put, List.setIfInBounds_toArray, List.set_cons_zero, List.set_cons_succ]
  refine wpAnyK_take (i := 2) (v := ?_) (some 11) rfl rfl hdep (by kernel_rfl) (fun _ _ _ h => h) (Or.inl ⟨by rfl, ?_⟩) (hHeld) ?_
  rotate_left
  · (intro w hSw; go_simp; all_goals with_reducible rfl)
  try simp only [Act.put, List.setIfInBounds_toArray, List.set_cons_zero, List.set_cons_succ]
  refine wpAnyK_take (i := 3) (v := ?_) (some 12) rfl rfl hdep (by kernel_rfl) (fun _ _ _ h => h) (Or.inl ⟨by rfl, ?_⟩) (hHeld) ?_
  rotate_left
  · (intro w hSw; go_simp; all_goals with_reducible rfl)
  try simp only [Act.put, List.setIfInBounds_toArray, List.set_cons_zero, List.set_cons_succ]
  refine wpAnyK_take (i := 4) (v := ?_) (some 13) rfl rfl hdep (by kernel_rfl) (fun _ _ _ h => h) (Or.inl ⟨by rfl, ?_⟩) (hHeld) ?_
  rotate_left
  · (intro w hSw; go_simp; all_goals with_reducible rfl)
  try simp only [Act.put, List.setIfInBounds_toArray, List.set_cons_zero, List.set_cons_succ]
  refine wpAnyK_take (i := 5) (v := ?_) (some 14) rfl rfl hdep (by kernel_rfl) (fun _ _ _ h => h) (Or.inl ⟨by rfl, ?_⟩) (hHeld) ?_
  rotate_left
  · (intro w hSw; go_simp; all_goals with_reducible rfl)
  try simp only [Act.put, List.setIfInBounds_toArray, List.set_cons_zero, List.set_cons_succ]
  refine wpAnyK_take (i := 6) (v := ?_) (some 15) rfl rfl hdep (by kernel_rfl) (fun _ _ _ h => h) (Or.inl ⟨by rfl, ?_⟩) (hHeld) ?_
  rotate_left
  · (intro w hSw; go_simp; all_goals with_reducible rfl)
  try simp only [Act.put, List.setIfInBounds_toArray, List.set_cons_zero, List.set_cons_succ]
  refine wpAnyK_two (i := 0) (j := 7) (by kernel_rfl) rfl rfl (fun K hK => ?_) (fun K hK => ?_)
  · go_simp
    refine hK.out _ _ (fun _ => KS _ hB1) ?_
    clear hK K
    try simp only [Act.put, List.setIfInBounds_toArray, List.set_cons_zero, List.set_cons_succ]
    refine wpAnyK_one (i := 7) (by kernel_rfl) rfl (fun K hK => ?_)
    go_simp
    go_at_call 44
    refine (HP _ hB1).mono ?_
    rintro e w1 ⟨rfl, hw⟩
    subst w1
    refine hK.out _ _ (fun _ => KS _ hB1) ?_
    clear hK K
    try simp only [Act.put, List.setIfInBounds_toArray, List.set_cons_zero, List.set_cons_succ]
    refine wpAnyK_take (i := 8) (v := ?_) (some 17) rfl rfl hdep (by kernel_rfl) (fun _ _ _ h => h) (Or.inl ⟨by rfl, ?_⟩) ((KS _ hB1)) ?_
    rotate_left
    · (intro w hSw; go_simp; all_goals with_reducible rfl)
    try simp only [Act.put, List.setIfInBounds_toArray, List.set_cons_zero, List.set_cons_succ]
    refine wpAnyK_take (i := 9) (v := ?_) (some 18) rfl rfl hdep (by kernel_rfl) (fun _ _ _ h => h) (Or.inl ⟨by rfl, ?_⟩) ((KS _ hB1)) ?_
    rotate_left
    · (intro w hSw; go_simp; all_goals with_reducible rfl)
    try simp only [Act.put, List.setIfInBounds_toArray, List.set_cons_zero, List.set_cons_succ]
    refine wpAnyK_take (i := 10) (v := ?_) (some 19) rfl rfl hdep (by kernel_rfl) (fun _ _ _ h => h) (Or.inl ⟨by rfl, ?_⟩) ((KS _ hB1)) ?_
    rotate_left
    · (intro w hSw; go_simp; all_goals with_reducible rfl)
    try simp only [Act.put, List.setIfInBounds_toArray, List.set_cons_zero, List.set_cons_succ]
    refine wpAnyK_one (i := 11) (by kernel_rfl) rfl (fun K hK => ?_)
    refine step_app rfl (.tmp 9) (.tmp 19) rfl w.heap.size _ 0 [] rfl OW1 _ _ _ q rfl rfl (hr.but hB1) (by omega) (by simp [World.drew] <;> omega) ?_
    intro v2 w2 ho2 hg2
    rw [Nat.zero_add, List.nil_append] at ho2
    have hb2 : But [] w w2 := hB1.grown hg2 (fun k e => by cases e; simp)
    refine hK.out _ _ (fun _ => KS _ hb2) ?_
    clear hK K
    try simp only [Act.put, List.setIfInBounds_toArray, List.set_cons_zero, List.set_cons_succ]
    refine wpAnyK_one (i := 12) (by kernel_rfl) rfl (fun K hK => ?_)
    go_simp
    refine hK.out _ _ (fun h => absurd rfl h) ?_
    clear hK K
    try simp only [Act.put, List.setIfInBounds_toArray, List.set_cons_zero, List.set_cons_succ]
    refine wpAnyK_done (by kernel_rfl) ?_
    go_wp2_with fail
    go_ret
    exact ⟨_, rfl, ho2, hb2.to_below⟩
  · go_simp
    go_at_call 44
    refine (HP _ hB0).mono ?_
    rintro e w1 ⟨rfl, hw⟩
    subst w1
    refine hK.out _ _ (fun _ => KS _ hB0) ?_
    clear hK K
    try simp only [Act.put, List.setIfInBounds_toArray, List.set_cons_zero, List.set_cons_succ]
    refine wpAnyK_take (i := 8) (v := ?_) (some 17) rfl rfl hdep (by kernel_rfl) (fun _ _ _ h => h) (Or.inl ⟨by rfl, ?_⟩) ((KS _ hB0)) ?_
    rotate_left
    · (intro w hSw; go_simp; all_goals with_reducible rfl)
    try simp only [Act.put, List.setIfInBounds_toArray, List.set_cons_zero, List.set_cons_succ]
    refine wpAnyK_take (i := 9) (v := ?_) (some 18) rfl rfl hdep (by kernel_rfl) (fun _ _ _ h => h) (Or.inl ⟨by rfl, ?_⟩) ((KS _ hB0)) ?_
    rotate_left
    · (intro w hSw; go_simp; all_goals with_reducible rfl)
    try simp only [Act.put, List.setIfInBounds_toArray, List.set_cons_zero, List.set_cons_succ]
    refine wpAnyK_take (i := 10) (v := ?_) (some 19) rfl rfl hdep (by kernel_rfl) (fun _ _ _ h => h) (Or.inl ⟨by rfl, ?_⟩) ((KS _ hB0)) ?_
    rotate_left
    · (intro w hSw; go_simp; all_goals with_reducible rfl)
    try simp only [Act.put, List.setIfInBounds_toArray, List.set_cons_zero, List.set_cons_succ]
    refine wpAnyK_one (i := 0) (by kernel_rfl) rfl (fun K hK => ?_)
    go_simp
    refine hK.out _ _ (fun _ => KS _ hB1) ?_
    clear hK K
    try simp only [Act.put, List.setIfInBounds_toArray, List.set_cons_zero, List.set_cons_succ]
    refine wpAnyK_one (i := 11) (by kernel_rfl) rfl (fun K hK => ?_)
    refine step_app rfl (.tmp 9) (.tmp 19) rfl w.heap.size _ 0 [] rfl OW1 _ _ _ q rfl rfl (hr.but hB1) (by omega) (by simp [World.drew] <;> omega) ?_
    intro v2 w2 ho2 hg2
    rw [Nat.zero_add, List.nil_append] at ho2
    have hb2 : But [] w w2 := hB1.grown hg2 (fun k e => by cases e; simp)
    refine hK.out _ _ (fun _ => KS _ hb2) ?_
    clear hK K
    try simp only [Act.put, List.setIfInBounds_toArray, List.set_cons_zero, List.set_cons_succ]
    refine wpAnyK_one (i := 12) (by kernel_rfl) rfl (fun K hK => ?_)
    go_simp
    refine hK.out _ _ (fun h => absurd rfl h) ?_
    clear hK K
    try simp only [Act.put, List.setIfInBounds_toArray, List.set_cons_zero, List.set_cons_succ]
    refine wpAnyK_done (by kernel_rfl) ?_
    go_wp2_with fail
    go_ret
    exact ⟨_, rfl, ho2, hb2.to_below⟩
end
end Go.Proofs.Ytmbpmcgppnanpaa.Jn
