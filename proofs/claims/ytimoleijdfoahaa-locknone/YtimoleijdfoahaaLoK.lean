/- The document's Lock and Unlock. -/
import Derived.Test.YtimoleijdfoahaaLoP
namespace Go.Proofs.Ytimoleijdfoahaa.Lo
open Go Go.RowKit Go.Proofs.Ytimoleijdfoahaa.Bs
open Go.Proofs.Ytimoleijdfoahaa.Lk (inN inN_of inN_out wI lsI wI_nat whI whI_none whI_some whI_cases ints ints_iv ints_len iv)
set_option linter.unusedSimpArgs false

section
variable {σ : St} {n T : Nat}
theorem lockE_8 {o t : Int} (h : inO σ o = false ∨ inT σ t = false) : lockE σ o t = 8 := by
  unfold lockE
  rw [if_pos (by rcases h with h | h <;> simp [h])]
theorem lockE_w {o t : Int} (h1 : inO σ o = true) (h2 : inT σ t = true) (h : wt σ t ≠ -1) : lockE σ o t = 5 := by
  unfold lockE
  rw [if_neg (by simp [h1, h2]), if_pos h]
theorem lockE_m {o t : Int} (h1 : inO σ o = true) (h2 : inT σ t = true) (h : owI σ o = t) : lockE σ o t = 5 := by
  unfold lockE
  rw [if_neg (by simp [h1, h2]), if_pos h]
  split <;> rfl
theorem lockE_0 {o t : Int} (h1 : inO σ o = true) (h2 : inT σ t = true) (h3 : wt σ t = -1) (h4 : owI σ o ≠ t) : lockE σ o t = 0 := by
  unfold lockE
  rw [if_neg (by simp [h1, h2]), if_neg (fun h => h h3), if_neg h4]
theorem lockS_no {o t : Int} (h : lockE σ o t ≠ 0) : lockS σ o t = σ ∧ lockB σ o t = false := ⟨by unfold lockS; rw [if_neg h], by unfold lockB; exact decide_eq_false (fun e => h e.1)⟩
theorem unlE_8 {o t : Int} (h : inO σ o = false ∨ inT σ t = false) : unlE σ o t = 8 := by
  unfold unlE
  rw [if_pos (by rcases h with h | h <;> simp [h])]
theorem unlE_w {o t : Int} (h1 : inO σ o = true) (h2 : inT σ t = true) (h : wt σ t ≠ -1) : unlE σ o t = 5 := by
  unfold unlE
  rw [if_neg (by simp [h1, h2]), if_pos h]
theorem unlE_m {o t : Int} (h1 : inO σ o = true) (h2 : inT σ t = true) (h3 : wt σ t = -1) (h : owI σ o ≠ t) : unlE σ o t = 6 := by
  unfold unlE
  rw [if_neg (by simp [h1, h2]), if_neg (fun h => h h3), if_pos h]
theorem unlE_0 {o t : Int} (h1 : inO σ o = true) (h2 : inT σ t = true) (h3 : wt σ t = -1) (h4 : owI σ o = t) : unlE σ o t = 0 := by
  unfold unlE
  rw [if_neg (by simp [h1, h2]), if_neg (fun h => h h3), if_neg (fun h => h h4)]
theorem unlS_no {o t : Int} (h : unlE σ o t ≠ 0) : unlS σ o t = σ ∧ unlV σ o t = -1 := ⟨by unfold unlS; rw [if_neg h], by unfold unlV; rw [if_neg h]⟩
end
section
set_option maxRecDepth 100000
variable {w w' : World} {M n T : Nat} {R R' : List Nat} {σ : St}
set_option maxHeartbeats 4000000 in
theorem lock_any (hQ : RQ w M R n T σ) (o t : Int) :
    Calls Try.prog 27 #[.pointer (some ⟨M, 0, none⟩), .int .i64 o, .int .i64 t] w fun e w' => e = .returned (.tuple #[.bool (lockB σ o t), .int .i64 (lockE σ o t)]) ∧ ∃ R', RQ w' M R' n T (lockS σ o t) ∧ Step R w R' w' := by
  obtain ⟨hok, ob, wb, sb, ab, vw, vs, h⟩ := id hQ
  have A := object_any h o
  have B := thread_any h t
  have C := waits_any h hok t
  cases hO : inO σ o
  · have e := lockE_8 (t := t) (.inl hO)
    obtain ⟨e1, e2⟩ := lockS_no (by rw [e]; omega : lockE σ o t ≠ 0)
    rw [e1, e2, e]
    rw [hO] at A
    go_enter Try.func27, Try.ntmps27
    go_wp2_with (first | (go_at_call 56; (with_reducible refine A.mono ?_); rintro e w1 ⟨rfl, hw⟩; subst w1))
    go_ret2
    exact ⟨rfl, R, hQ, Step.refl _ _⟩
  cases hT : inT σ t
  · have e := lockE_8 (o := o) (.inr hT)
    obtain ⟨e1, e2⟩ := lockS_no (by rw [e]; omega : lockE σ o t ≠ 0)
    rw [e1, e2, e]
    rw [hO] at A
    rw [hT] at B
    go_enter Try.func27, Try.ntmps27
    go_wp2_with (first | (go_at_call 56; (with_reducible refine A.mono ?_); rintro e w1 ⟨rfl, hw⟩; subst w1) | (go_at_call 57; (with_reducible refine B.mono ?_); rintro e w1 ⟨rfl, hw⟩; subst w1))
    go_ret2
    exact ⟨rfl, R, hQ, Step.refl _ _⟩
  by_cases hw : wt σ t = -1
  rotate_left
  · have e := lockE_w hO hT hw
    obtain ⟨e1, e2⟩ := lockS_no (by rw [e]; omega : lockE σ o t ≠ 0)
    rw [e1, e2, e]
    rw [hO] at A
    rw [hT] at B
    rw [decide_eq_true hw] at C
    go_enter Try.func27, Try.ntmps27
    go_wp2_with (first | (go_at_call 56; (with_reducible refine A.mono ?_); rintro e w1 ⟨rfl, hw⟩; subst w1) | (go_at_call 57; (with_reducible refine B.mono ?_); rintro e w1 ⟨rfl, hw⟩; subst w1) | (go_at_call 58; (with_reducible refine C.mono ?_); rintro e w1 ⟨rfl, hw⟩; subst w1))
    go_ret2
    exact ⟨rfl, R, hQ, Step.refl _ _⟩
  obtain ⟨k, rfl, hk⟩ := inO_out hok hO
  obtain ⟨b, rfl, hb⟩ := inT_out hok hT
  have hk' : (k : Int) < (n : Int) := by omega
  obtain ⟨ca, a1⟩ := h.c1
  have a0 := h.own hk
  have f1 := (h.fz k).1
  obtain ⟨hb0, hb1⟩ := hok.own k hk
  rw [decide_eq_false (fun h => h hw)] at C
  rw [hO] at A
  rw [hT] at B
  by_cases hm : ow σ k = (b : Int)
  · have e := lockE_m hO hT (show owI σ (k : Int) = (b : Int) from hm)
    obtain ⟨e1, e2⟩ := lockS_no (by rw [e]; omega : lockE σ (k : Int) (b : Int) ≠ 0)
    rw [e1, e2, e]
    rw [hm] at a0
    go_enter Try.func27, Try.ntmps27
    go_wp2_with (first | (go_at_call 56; (with_reducible refine A.mono ?_); rintro e w1 ⟨rfl, hw⟩; subst w1) | (go_at_call 57; (with_reducible refine B.mono ?_); rintro e w1 ⟨rfl, hw⟩; subst w1) | (go_at_call 58; (with_reducible refine C.mono ?_); rintro e w1 ⟨rfl, hw⟩; subst w1))
    go_ret2
    exact ⟨rfl, R, hQ, Step.refl _ _⟩
  have e := lockE_0 hO hT hw (show owI σ (k : Int) ≠ (b : Int) from hm)
  have eS : lockS σ (k : Int) (b : Int) = wantS σ k b := by unfold lockS; rw [if_pos e]; rfl
  have hokl := hok.want hk hb hw hm
  rw [eS, e]
  have hm' : (ow σ k == (b : Int)) = false := by simpa using hm
  by_cases hf : ow σ k = -1
  · have eB : lockB σ (k : Int) (b : Int) = true := decide_eq_true ⟨e, hf⟩
    rw [eB]
    unfold wantS at hokl ⊢
    rw [if_pos hf] at hokl ⊢
    rw [hf] at a0
    have h1 := h.setO k (b : Int)
    have s1 := h.stepO k (.int .i64 (b : Int))
    have hne : ((-1 : Int) == (b : Int)) = false := by simp
    clear hf hm' eB
    go_enter Try.func27, Try.ntmps27
    go_wp2_with (first | (go_at_call 56; (with_reducible refine A.mono ?_); rintro e w1 ⟨rfl, hw⟩; subst w1) | (go_at_call 57; (with_reducible refine B.mono ?_); rintro e w1 ⟨rfl, hw⟩; subst w1) | (go_at_call 58; (with_reducible refine C.mono ?_); rintro e w1 ⟨rfl, hw⟩; subst w1))
    go_ret2
    exact ⟨rfl, R, ⟨hokl, _, _, _, _, _, _, h1⟩, s1⟩
  · have eB : lockB σ (k : Int) (b : Int) = false := decide_eq_false (fun e => hf e.2)
    rw [eB]
    unfold wantS at hokl ⊢
    rw [if_neg hf] at hokl ⊢
    have hnl : ¬ ow σ k < 0 := by omega
    obtain ⟨cl, a2⟩ := h.c2
    obtain ⟨v, a3, hv⟩ := h.wc hk
    have hlen := hok.wlen hk
    have hI := hv.1
    obtain ⟨sa, sc, rfl, -⟩ := hv.rd
    have hr := RowI.reads hI
    rw [ints_len] at a3
    have EB : Hid (ints (W σ k ++ [b]) = ints (W σ k) ++ [(b : Int)]) := ints_app _ _
    have Hl : Hid ((ints (W σ k)).length = (W σ k).length) := ints_len _
    have FIN : ∀ w3 v3, But [] w w3 → RowI w3 w.heap.size v3 (ints (W σ k ++ [b])) → RQ (w3.setCell ⟨wb, k, none⟩ v3) M (v3.ownBlock.toList ++ R) n T ⟨σ.own, σ.ls.set k (W σ k ++ [b]), σ.ag⟩ ∧ Step R w (v3.ownBlock.toList ++ R) (w3.setCell ⟨wb, k, none⟩ v3) := fun w3 v3 hb hr => by
      obtain ⟨h4, s4⟩ := h.storeW hb hr hk
      exact ⟨⟨hokl, _, _, _, _, _, _, h4⟩, s4⟩
    have HF : ∀ w1, But [] w w1 → w1.cell? ⟨M, 2, none⟩ = some (.slice (some ⟨wb, 0, none⟩) n cl) ∧ w1.cell? ⟨wb, k, none⟩ = some (.slice sa (W σ k).length sc) ∧ w1.frozen? ⟨wb, k, none⟩ = false := fun w1 hb => ⟨hb.cell a2, hb.cell a3, ((h.keep hb).fz k).2.1⟩
    have KS : ∀ w1, But [] w w1 → w1.cell? ⟨M, 2, none⟩ = some (.slice (some ⟨wb, 0, none⟩) n cl) ∧ w1.cell? ⟨wb, k, none⟩ = some (.slice sa (W σ k).length sc) := fun w1 hb => ⟨(HF w1 hb).1, (HF w1 hb).2.1⟩
    generalize σ.ls.set k (W σ k ++ [b]) = ls2 at *
    generalize W σ k = q at *
    generalize ow σ k = x at *
    clear hI hv eB hf hokl
    go_enter Try.func27, Try.ntmps27
    go_upto_region 8 with (first | (go_at_call 56; (with_reducible refine A.mono ?_); rintro e w1 ⟨rfl, hw⟩; subst w1) | (go_at_call 57; (with_reducible refine B.mono ?_); rintro e w1 ⟨rfl, hw⟩; subst w1) | (go_at_call 58; (with_reducible refine C.mono ?_); rintro e w1 ⟨rfl, hw⟩; subst w1))
    have OW1 := (own_none w).drew
    have OW2 := ((own_none w).alloc (.cells #[.int .i64 (b : Int)] 3)).drew
    have OW3 : (((w.alloc (.cells #[.int .i64 (b : Int)] 3)).alloc (.cells #[] 3)).drew).ownsRow w.heap.size 3 1 (.slice (some ⟨w.heap.size + 1, 0, none⟩) 0 0) 0 (([] : List Int).map (Value.int .i64)) := by
      have := row_lower (own_none (w.alloc (.cells #[.int .i64 (b : Int)] 3))) (b := w.heap.size) (by simp)
      rw [World.size_alloc] at this
      exact this.drew
    have B1 : But [] w (w.alloc (.cells #[] 3)).drew := ((But.refl [] w).alloc _).drew
    have B2 : But [] w ((w.alloc (.cells #[] 3)).alloc (.cells #[.int .i64 (b : Int)] 3)).drew := (((But.refl [] w).alloc _).alloc _).drew
    have B3 : But [] w ((w.alloc (.cells #[.int .i64 (b : Int)] 3)).alloc (.cells #[] 3)).drew := (((But.refl [] w).alloc _).alloc _).drew
    have T2 : Reads ((w.alloc (.cells #[] 3)).alloc (.cells #[.int .i64 (b : Int)] 3)).drew (some ⟨w.heap.size + 1, 0, none⟩) 1 [(b : Int)] := by
      have := reads_one (w.alloc (.cells #[] 3)) (b : Int)
      rw [World.size_alloc] at this
      exact this
    have T3 : Reads ((w.alloc (.cells #[.int .i64 (b : Int)] 3)).alloc (.cells #[] 3)).drew (some ⟨w.heap.size, 0, none⟩) 1 [(b : Int)] := (reads_one w (b : Int)).but ((But.refl [] _).alloc _).drew
    have hmx : Try.prog.follows .mixedOrders = true := by kernel_rfl
    refine wp_region_K 18 (fun w' => (w'.cell? ⟨M, 2, none⟩ = some (.slice (some ⟨wb, 0, none⟩) n cl) ∧ w'.cell? ⟨wb, k, none⟩ = some (.slice sa q.length sc))) hmx (by kernel_rfl) (KS _ (But.refl [] w).drew) (fun hHeld hdep => ?_)
    refine wpAnyK_take (i := 0) (v := ?_) (some 47) rfl rfl hdep (by kernel_rfl) (fun _ _ _ h => h) (Or.inl ⟨by rfl, ?_⟩) (hHeld) ?_
    rotate_left
    · (intro w hSw; go_simp; all_goals with_reducible rfl)
    try simp only [Act.put, List.setIfInBounds_toArray, List.set_cons_zero, List.set_cons_succ]
    refine wpAnyK_take (i := 1) (v := ?_) (some 48) rfl rfl hdep (by kernel_rfl) (fun _ _ _ h => h) (Or.inl ⟨by rfl, ?_⟩) (hHeld) ?_
    rotate_left
    · (intro w hSw; go_simp; all_goals with_reducible rfl)
    try simp only [Act.put, List.setIfInBounds_toArray, List.set_cons_zero, List.set_cons_succ]
    refine wpAnyK_take (i := 2) (v := ?_) (some 49) rfl rfl hdep (by kernel_rfl) (fun _ _ _ h => h) (Or.inl ⟨by rfl, ?_⟩) (hHeld) ?_
    rotate_left
    · (intro w hSw; go_simp; all_goals with_reducible rfl)
    try simp only [Act.put, List.setIfInBounds_toArray, List.set_cons_zero, List.set_cons_succ]
    refine wpAnyK_take (i := 3) (v := ?_) (some 50) rfl rfl hdep (by kernel_rfl) (fun _ _ _ h => h) (Or.inl ⟨by rfl, ?_⟩) (hHeld) ?_
    rotate_left
    · (intro w hSw; go_simp; all_goals with_reducible rfl)
    try simp only [Act.put, List.setIfInBounds_toArray, List.set_cons_zero, List.set_cons_succ]
    refine wpAnyK_take (i := 4) (v := ?_) (some 51) rfl rfl hdep (by kernel_rfl) (fun _ _ _ h => h) (Or.inl ⟨by rfl, ?_⟩) (hHeld) ?_
    rotate_left
    · (intro w hSw; go_simp; all_goals with_reducible rfl)
    try simp only [Act.put, List.setIfInBounds_toArray, List.set_cons_zero, List.set_cons_succ]
    refine wpAnyK_take (i := 6) (v := ?_) (some 53) rfl rfl hdep (by kernel_rfl) (fun _ _ _ h => h) (Or.inl ⟨by rfl, ?_⟩) (hHeld) ?_
    rotate_left
    · (intro w hSw; go_simp; all_goals with_reducible rfl)
    try simp only [Act.put, List.setIfInBounds_toArray, List.set_cons_zero, List.set_cons_succ]
    refine wpAnyK_take (i := 7) (v := ?_) (some 54) rfl rfl hdep (by kernel_rfl) (fun _ _ _ h => h) (Or.inl ⟨by rfl, ?_⟩) (hHeld) ?_
    rotate_left
    · (intro w hSw; go_simp; all_goals with_reducible rfl)
    try simp only [Act.put, List.setIfInBounds_toArray, List.set_cons_zero, List.set_cons_succ]
    refine wpAnyK_take (i := 8) (v := ?_) (some 55) rfl rfl hdep (by kernel_rfl) (fun _ _ _ h => h) (Or.inl ⟨by rfl, ?_⟩) (hHeld) ?_
    rotate_left
    · (intro w hSw; go_simp; all_goals with_reducible rfl)
    try simp only [Act.put, List.setIfInBounds_toArray, List.set_cons_zero, List.set_cons_succ]
    refine wpAnyK_take (i := 9) (v := ?_) (some 56) rfl rfl hdep (by kernel_rfl) (fun _ _ _ h => h) (Or.inl ⟨by rfl, ?_⟩) (hHeld) ?_
    rotate_left
    · (intro w hSw; go_simp; all_goals with_reducible rfl)
    try simp only [Act.put, List.setIfInBounds_toArray, List.set_cons_zero, List.set_cons_succ]
    refine wpAnyK_take (i := 10) (v := ?_) (some 57) rfl rfl hdep (by kernel_rfl) (fun _ _ _ h => h) (Or.inl ⟨by rfl, ?_⟩) (hHeld) ?_
    rotate_left
    · (intro w hSw; go_simp; all_goals with_reducible rfl)
    try simp only [Act.put, List.setIfInBounds_toArray, List.set_cons_zero, List.set_cons_succ]
    refine wpAnyK_take (i := 11) (v := ?_) (some 58) rfl rfl hdep (by kernel_rfl) (fun _ _ _ h => h) (Or.inl ⟨by rfl, ?_⟩) (hHeld) ?_
    rotate_left
    · (intro w hSw; go_simp; all_goals with_reducible rfl)
    try simp only [Act.put, List.setIfInBounds_toArray, List.set_cons_zero, List.set_cons_succ]
    refine wpAnyK_take (i := 12) (v := ?_) (some 59) rfl rfl hdep (by kernel_rfl) (fun _ _ _ h => h) (Or.inl ⟨by rfl, ?_⟩) (hHeld) ?_
    rotate_left
    · (intro w hSw; go_simp; all_goals with_reducible rfl)
    try simp only [Act.put, List.setIfInBounds_toArray, List.set_cons_zero, List.set_cons_succ]
    refine wpAnyK_take (i := 14) (v := ?_) (some 61) rfl rfl hdep (by kernel_rfl) (fun _ _ _ h => h) (Or.inl ⟨by rfl, ?_⟩) (hHeld) ?_
    rotate_left
    · (intro w hSw; go_simp; all_goals with_reducible rfl)
    try simp only [Act.put, List.setIfInBounds_toArray, List.set_cons_zero, List.set_cons_succ]
    refine wpAnyK_two (i := 5) (j := 15) (by kernel_rfl) rfl rfl (fun K hK => ?_) (fun K hK => ?_)
    · go_simp
      refine hK.out _ _ (fun _ => KS _ B1) ?_
      clear hK K
      try simp only [Act.put, List.setIfInBounds_toArray, List.set_cons_zero, List.set_cons_succ]
      refine wpAnyK_two (i := 13) (j := 15) (by kernel_rfl) rfl rfl (fun K hK => ?_) (fun K hK => ?_)
      · refine step_app rfl (.tmp 52) (.tmp 59) rfl w.heap.size _ 0 [] rfl OW1 _ _ _ (ints q) rfl Hl.out (hr.but B1) (by omega) (by simp [World.drew] <;> omega) ?_
        intro v2 w2 ho2 hg2
        rw [Nat.zero_add, List.nil_append] at ho2
        have hb2 : But [] w w2 := B1.grown hg2 (fun k e => by cases e; simp)
        obtain ⟨sa2, sc2, rfl⟩ := own_shape ho2
        refine hK.out _ _ (fun _ => KS _ hb2) ?_
        clear hK K
        try simp only [Act.put, List.setIfInBounds_toArray, List.set_cons_zero, List.set_cons_succ]
        refine wpAnyK_one (i := 15) (by kernel_rfl) rfl (fun K hK => ?_)
        go_simp
        refine hK.out _ _ (fun _ => KS _ (hb2.alloc _)) ?_
        clear hK K
        try simp only [Act.put, List.setIfInBounds_toArray, List.set_cons_zero, List.set_cons_succ]
        refine wpAnyK_one (i := 16) (by kernel_rfl) rfl (fun K hK => ?_)
        refine step_app rfl (.tmp 60) (.tmp 62) rfl w.heap.size _ q.length (ints q) rfl (ho2.alloc _) _ _ _ [(b : Int)] rfl rfl (reads_one w2 (b : Int)) (by omega) (by have := hb2.size; first | omega | (simp; omega)) ?_
        intro v3 w3 ho3 hg3
        have hb3 : But [] w w3 := (hb2.alloc _).grown hg3 (fun k e => (ho2.lt k e).1)
        obtain ⟨sa3, sc3, rfl⟩ := own_shape ho3
        obtain ⟨g1, g2, g3⟩ := HF _ hb3
        refine hK.out _ _ (fun _ => KS _ hb3) ?_
        clear hK K
        try simp only [Act.put, List.setIfInBounds_toArray, List.set_cons_zero, List.set_cons_succ]
        refine wpAnyK_take (i := 17) (v := ?_) (some 64) rfl rfl hdep (by kernel_rfl) (fun _ _ _ h => h) (Or.inl ⟨by rfl, ?_⟩) (KS _ hb3) ?_
        rotate_left
        · (intro w hSw; go_simp; all_goals with_reducible rfl)
        try simp only [Act.put, List.setIfInBounds_toArray, List.set_cons_zero, List.set_cons_succ]
        refine wpAnyK_one (i := 18) (by kernel_rfl) rfl (fun K hK => ?_)
        go_simp
        refine hK.out _ _ (fun h => absurd rfl h) ?_
        clear hK K
        try simp only [Act.put, List.setIfInBounds_toArray, List.set_cons_zero, List.set_cons_succ]
        refine wpAnyK_done (by kernel_rfl) ?_
        have R3 : RowI w3 w.heap.size (.slice sa3 (q.length + 1) sc3) (ints (q ++ [b])) := by
          rw [EB.out]
          unfold RowI
          rw [List.length_append, Hl.out]
          exact ho3
        obtain ⟨r1, r2⟩ := FIN _ _ hb3 R3
        go_wp2_with fail
        go_ret2
        exact ⟨rfl, _, r1, r2⟩
      · go_simp
        refine hK.out _ _ (fun _ => KS _ B2) ?_
        clear hK K
        try simp only [Act.put, List.setIfInBounds_toArray, List.set_cons_zero, List.set_cons_succ]
        refine wpAnyK_one (i := 13) (by kernel_rfl) rfl (fun K hK => ?_)
        refine step_app rfl (.tmp 52) (.tmp 59) rfl w.heap.size _ 0 [] rfl OW2 _ _ _ (ints q) rfl Hl.out (hr.but B2) (by omega) (by simp [World.drew] <;> omega) ?_
        intro v2 w2 ho2 hg2
        rw [Nat.zero_add, List.nil_append] at ho2
        have hb2 : But [] w w2 := B2.grown hg2 (fun k e => by cases e; simp)
        have TT := T2.grown hg2 (show some w.heap.size ≠ some (w.heap.size + 1) by simp)
        obtain ⟨sa2, sc2, rfl⟩ := own_shape ho2
        refine hK.out _ _ (fun _ => KS _ hb2) ?_
        clear hK K
        try simp only [Act.put, List.setIfInBounds_toArray, List.set_cons_zero, List.set_cons_succ]
        refine wpAnyK_one (i := 16) (by kernel_rfl) rfl (fun K hK => ?_)
        refine step_app rfl (.tmp 60) (.tmp 62) rfl w.heap.size _ q.length (ints q) rfl ho2 _ _ _ [(b : Int)] rfl rfl TT (by omega) (by have := hb2.size; first | omega | (simp; omega)) ?_
        intro v3 w3 ho3 hg3
        have hb3 : But [] w w3 := hb2.grown hg3 (fun k e => (ho2.lt k e).1)
        obtain ⟨sa3, sc3, rfl⟩ := own_shape ho3
        obtain ⟨g1, g2, g3⟩ := HF _ hb3
        refine hK.out _ _ (fun _ => KS _ hb3) ?_
        clear hK K
        try simp only [Act.put, List.setIfInBounds_toArray, List.set_cons_zero, List.set_cons_succ]
        refine wpAnyK_take (i := 17) (v := ?_) (some 64) rfl rfl hdep (by kernel_rfl) (fun _ _ _ h => h) (Or.inl ⟨by rfl, ?_⟩) (KS _ hb3) ?_
        rotate_left
        · (intro w hSw; go_simp; all_goals with_reducible rfl)
        try simp only [Act.put, List.setIfInBounds_toArray, List.set_cons_zero, List.set_cons_succ]
        refine wpAnyK_one (i := 18) (by kernel_rfl) rfl (fun K hK => ?_)
        go_simp
        refine hK.out _ _ (fun h => absurd rfl h) ?_
        clear hK K
        try simp only [Act.put, List.setIfInBounds_toArray, List.set_cons_zero, List.set_cons_succ]
        refine wpAnyK_done (by kernel_rfl) ?_
        have R3 : RowI w3 w.heap.size (.slice sa3 (q.length + 1) sc3) (ints (q ++ [b])) := by
          rw [EB.out]
          unfold RowI
          rw [List.length_append, Hl.out]
          exact ho3
        obtain ⟨r1, r2⟩ := FIN _ _ hb3 R3
        go_wp2_with fail
        go_ret2
        exact ⟨rfl, _, r1, r2⟩
    · go_simp
      refine hK.out _ _ (fun _ => KS _ (((But.refl [] w).alloc _).drew)) ?_
      clear hK K
      try simp only [Act.put, List.setIfInBounds_toArray, List.set_cons_zero, List.set_cons_succ]
      refine wpAnyK_one (i := 5) (by kernel_rfl) rfl (fun K hK => ?_)
      go_simp
      refine hK.out _ _ (fun _ => KS _ B3) ?_
      clear hK K
      try simp only [Act.put, List.setIfInBounds_toArray, List.set_cons_zero, List.set_cons_succ]
      refine wpAnyK_one (i := 13) (by kernel_rfl) rfl (fun K hK => ?_)
      refine step_app rfl (.tmp 52) (.tmp 59) rfl w.heap.size _ 0 [] rfl OW3 _ _ _ (ints q) rfl Hl.out (hr.but B3) (by omega) (by simp [World.drew] <;> omega) ?_
      intro v2 w2 ho2 hg2
      rw [Nat.zero_add, List.nil_append] at ho2
      have hb2 : But [] w w2 := B3.grown hg2 (fun k e => by cases e; simp)
      have TT := T3.grown hg2 (show some (w.heap.size + 1) ≠ some w.heap.size by simp)
      obtain ⟨sa2, sc2, rfl⟩ := own_shape ho2
      refine hK.out _ _ (fun _ => KS _ hb2) ?_
      clear hK K
      try simp only [Act.put, List.setIfInBounds_toArray, List.set_cons_zero, List.set_cons_succ]
      refine wpAnyK_one (i := 16) (by kernel_rfl) rfl (fun K hK => ?_)
      refine step_app rfl (.tmp 60) (.tmp 62) rfl w.heap.size _ q.length (ints q) rfl ho2 _ _ _ [(b : Int)] rfl rfl TT (by omega) (by have := hb2.size; first | omega | (simp; omega)) ?_
      intro v3 w3 ho3 hg3
      have hb3 : But [] w w3 := hb2.grown hg3 (fun k e => (ho2.lt k e).1)
      obtain ⟨sa3, sc3, rfl⟩ := own_shape ho3
      obtain ⟨g1, g2, g3⟩ := HF _ hb3
      refine hK.out _ _ (fun _ => KS _ hb3) ?_
      clear hK K
      try simp only [Act.put, List.setIfInBounds_toArray, List.set_cons_zero, List.set_cons_succ]
      refine wpAnyK_take (i := 17) (v := ?_) (some 64) rfl rfl hdep (by kernel_rfl) (fun _ _ _ h => h) (Or.inl ⟨by rfl, ?_⟩) (KS _ hb3) ?_
      rotate_left
      · (intro w hSw; go_simp; all_goals with_reducible rfl)
      try simp only [Act.put, List.setIfInBounds_toArray, List.set_cons_zero, List.set_cons_succ]
      refine wpAnyK_one (i := 18) (by kernel_rfl) rfl (fun K hK => ?_)
      go_simp
      refine hK.out _ _ (fun h => absurd rfl h) ?_
      clear hK K
      try simp only [Act.put, List.setIfInBounds_toArray, List.set_cons_zero, List.set_cons_succ]
      refine wpAnyK_done (by kernel_rfl) ?_
      have R3 : RowI w3 w.heap.size (.slice sa3 (q.length + 1) sc3) (ints (q ++ [b])) := by
        rw [EB.out]
        unfold RowI
        rw [List.length_append, Hl.out]
        exact ho3
      obtain ⟨r1, r2⟩ := FIN _ _ hb3 R3
      go_wp2_with fail
      go_ret2
      exact ⟨rfl, _, r1, r2⟩
set_option maxHeartbeats 4000000 in
theorem unlock_any (hQ : RQ w M R n T σ) (o t : Int) :
    Calls Try.prog 28 #[.pointer (some ⟨M, 0, none⟩), .int .i64 o, .int .i64 t] w fun e w' => e = .returned (.tuple #[.int .i64 (unlV σ o t), .int .i64 (unlE σ o t)]) ∧ ∃ R', RQ w' M R' n T (unlS σ o t) ∧ Step R w R' w' := by
  obtain ⟨hok, ob, wb, sb, ab, vw, vs, h⟩ := id hQ
  have A := object_any h o
  have B := thread_any h t
  have C := waits_any h hok t
  cases hO : inO σ o
  · have e := unlE_8 (t := t) (.inl hO)
    obtain ⟨e1, e2⟩ := unlS_no (by rw [e]; omega : unlE σ o t ≠ 0)
    rw [e1, e2, e]
    rw [hO] at A
    go_enter Try.func28, Try.ntmps28
    go_wp2_with (first | (go_at_call 56; (with_reducible refine A.mono ?_); rintro e w1 ⟨rfl, hw⟩; subst w1))
    go_ret2
    exact ⟨rfl, R, hQ, Step.refl _ _⟩
  cases hT : inT σ t
  · have e := unlE_8 (o := o) (.inr hT)
    obtain ⟨e1, e2⟩ := unlS_no (by rw [e]; omega : unlE σ o t ≠ 0)
    rw [e1, e2, e]
    rw [hO] at A
    rw [hT] at B
    go_enter Try.func28, Try.ntmps28
    go_wp2_with (first | (go_at_call 56; (with_reducible refine A.mono ?_); rintro e w1 ⟨rfl, hw⟩; subst w1) | (go_at_call 57; (with_reducible refine B.mono ?_); rintro e w1 ⟨rfl, hw⟩; subst w1))
    go_ret2
    exact ⟨rfl, R, hQ, Step.refl _ _⟩
  rw [hO] at A
  rw [hT] at B
  by_cases hw : wt σ t = -1
  rotate_left
  · have e := unlE_w hO hT hw
    obtain ⟨e1, e2⟩ := unlS_no (by rw [e]; omega : unlE σ o t ≠ 0)
    rw [e1, e2, e]
    rw [decide_eq_true hw] at C
    go_enter Try.func28, Try.ntmps28
    go_wp2_with (first | (go_at_call 56; (with_reducible refine A.mono ?_); rintro e w1 ⟨rfl, hw⟩; subst w1) | (go_at_call 57; (with_reducible refine B.mono ?_); rintro e w1 ⟨rfl, hw⟩; subst w1) | (go_at_call 58; (with_reducible refine C.mono ?_); rintro e w1 ⟨rfl, hw⟩; subst w1))
    go_ret2
    exact ⟨rfl, R, hQ, Step.refl _ _⟩
  obtain ⟨k, rfl, hk⟩ := inO_out hok hO
  obtain ⟨b, rfl, hb⟩ := inT_out hok hT
  have hk' : (k : Int) < (n : Int) := by omega
  obtain ⟨ca, a1⟩ := h.c1
  have a0 := h.own hk
  rw [decide_eq_false (fun h => h hw)] at C
  by_cases hm : ow σ k = (b : Int)
  rotate_left
  · have e := unlE_m hO hT hw (show owI σ (k : Int) ≠ (b : Int) from hm)
    obtain ⟨e1, e2⟩ := unlS_no (by rw [e]; omega : unlE σ (k : Int) (b : Int) ≠ 0)
    rw [e1, e2, e]
    have hm' : (ow σ k != (b : Int)) = true := by simpa using hm
    generalize ow σ k = x at *
    go_enter Try.func28, Try.ntmps28
    go_wp2_with (first | (go_at_call 56; (with_reducible refine A.mono ?_); rintro e w1 ⟨rfl, hw⟩; subst w1) | (go_at_call 57; (with_reducible refine B.mono ?_); rintro e w1 ⟨rfl, hw⟩; subst w1) | (go_at_call 58; (with_reducible refine C.mono ?_); rintro e w1 ⟨rfl, hw⟩; subst w1))
    go_ret2
    exact ⟨rfl, R, hQ, Step.refl _ _⟩
  have e := unlE_0 hO hT hw (show owI σ (k : Int) = (b : Int) from hm)
  have eS : unlS σ (k : Int) (b : Int) = passS σ k := by unfold unlS; rw [if_pos e]; rfl
  have eV : unlV σ (k : Int) (b : Int) = passV σ k := by unfold unlV; rw [if_pos e]; rfl
  rw [eS, eV, e]
  rw [hm] at a0
  have P := pass_any hQ hk
  generalize passV σ k = z at *
  generalize passS σ k = σ2 at *
  go_enter Try.func28, Try.ntmps28
  go_wp2_with (first | (go_at_call 56; (with_reducible refine A.mono ?_); rintro e w1 ⟨rfl, hw⟩; subst w1) | (go_at_call 57; (with_reducible refine B.mono ?_); rintro e w1 ⟨rfl, hw⟩; subst w1) | (go_at_call 58; (with_reducible refine C.mono ?_); rintro e w1 ⟨rfl, hw⟩; subst w1) | (go_at_call 59; (with_reducible refine P.mono ?_); rintro e w2 ⟨rfl, R2, h2, s2⟩))
  go_ret2
  exact ⟨rfl, R2, h2, s2⟩
end
end Go.Proofs.Ytimoleijdfoahaa.Lo
