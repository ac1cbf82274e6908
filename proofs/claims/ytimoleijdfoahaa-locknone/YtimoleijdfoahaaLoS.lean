/- The document's Wait and Signal. -/
import Derived.Test.YtimoleijdfoahaaLoK
namespace Go.Proofs.Ytimoleijdfoahaa.Lo
open Go Go.RowKit Go.Proofs.Ytimoleijdfoahaa.Bs
open Go.Proofs.Ytimoleijdfoahaa.Lk (inN inN_of inN_out wI lsI wI_nat whI whI_none whI_some whI_cases ints ints_iv ints_len iv)
set_option linter.unusedSimpArgs false

section
variable {σ : St} {n T : Nat}
theorem waitE_8 {c o t : Int} (h : inO σ c = false) : waitE σ c o t = 8 := by unfold waitE; rw [if_pos h]
theorem waitE_u {c o t : Int} (h : inO σ c = true) : waitE σ c o t = unlE σ o t := by unfold waitE; rw [if_neg (by simp [h])]
theorem waitS_no {c o t : Int} (h : waitE σ c o t ≠ 0) : waitS σ c o t = σ ∧ waitV σ c o t = -1 := ⟨by unfold waitS; rw [if_neg h], by unfold waitV; rw [if_neg h]⟩
end
section
set_option maxRecDepth 100000
variable {w w' : World} {M n T : Nat} {R R' : List Nat} {σ : St}
set_option maxHeartbeats 4000000 in
theorem wait_any (hQ : RQ w M R n T σ) (c o t : Int) :
    Calls Try.prog 29 #[.pointer (some ⟨M, 0, none⟩), .int .i64 c, .int .i64 o, .int .i64 t] w fun e w' => e = .returned (.tuple #[.int .i64 (waitV σ c o t), .int .i64 (waitE σ c o t)]) ∧ ∃ R', RQ w' M R' n T (waitS σ c o t) ∧ Step R w R' w' := by
  obtain ⟨hok, ob0, wb0, sb0, ab0, vw0, vs0, h0⟩ := id hQ
  have A := object_any h0 c
  have U := unlock_any hQ o t
  clear h0
  cases hC : inO σ c
  · have e := waitE_8 (o := o) (t := t) hC
    obtain ⟨e1, e2⟩ := waitS_no (by rw [e]; omega : waitE σ c o t ≠ 0)
    rw [e1, e2, e]
    rw [hC] at A
    go_enter Try.func29, Try.ntmps29
    go_wp2_with (first | (go_at_call 56; (with_reducible refine A.mono ?_); rintro e w1 ⟨rfl, hw⟩; subst w1))
    go_ret2
    exact ⟨rfl, R, hQ, Step.refl _ _⟩
  rw [hC] at A
  have e := waitE_u (o := o) (t := t) hC
  by_cases hz : unlE σ o t = 0
  rotate_left
  · obtain ⟨e1, e2⟩ := waitS_no (by rw [e]; exact hz : waitE σ c o t ≠ 0)
    obtain ⟨u1, u2⟩ := unlS_no hz
    rw [e1, e2, e]
    rw [u1, u2] at U
    have hz' : (unlE σ o t != 0) = true := by simpa using hz
    generalize unlE σ o t = x at *
    go_enter Try.func29, Try.ntmps29
    go_wp2_with (first | (go_at_call 56; (with_reducible refine A.mono ?_); rintro e w1 ⟨rfl, hw⟩; subst w1) | (go_at_call 28; (with_reducible refine U.mono ?_); rintro e w2 ⟨rfl, R2, h2, s2⟩))
    go_ret2
    exact ⟨rfl, R2, h2, s2⟩
  obtain ⟨cc, rfl, hcc⟩ := inO_out hok hC
  obtain ⟨k, b, rfl, rfl, hk, hb, hwt, how⟩ := unlE_zero hok hz
  have eS : waitS σ (cc : Int) (k : Int) (b : Int) = slp (passS σ k) cc k b := by unfold waitS; rw [if_pos (by rw [e]; exact hz)]; rfl
  have eV : waitV σ (cc : Int) (k : Int) (b : Int) = passV σ k := by unfold waitV; rw [if_pos (by rw [e]; exact hz)]; rfl
  have uS : unlS σ (k : Int) (b : Int) = passS σ k := by unfold unlS; rw [if_pos hz]; rfl
  have uV : unlV σ (k : Int) (b : Int) = passV σ k := by unfold unlV; rw [if_pos hz]; rfl
  have hokw := hok.wait (cc : Int) (k : Int) (b : Int)
  rw [eS] at hokw
  rw [eS, eV, e, hz]
  rw [uS, uV, hz] at U
  clear eS eV uS uV e hz how hwt
  have hc' : (cc : Int) < (n : Int) := by omega
  have hb' : (b : Int) < (T : Int) := by omega
  generalize passV σ k = z at *
  generalize passS σ k = σ2 at *
  clear hQ hC hok
  go_enter Try.func29, Try.ntmps29
  go_upto_region 6 with (first | (go_at_call 56; (with_reducible refine A.mono ?_); rintro e w1 ⟨rfl, hw⟩; subst w1) | (go_at_call 28; (with_reducible refine U.mono ?_); rintro e wu ⟨rfl, R2, h2, s2⟩))
  obtain ⟨hok, ob, wb, sb, ab, vw, vs, h⟩ := h2
  obtain ⟨cl, a2⟩ := h.c3
  obtain ⟨v, a3, hv⟩ := h.sc hcc
  have hlen := hok.slen hcc
  have hI := hv.1
  obtain ⟨sa, sc, rfl, -⟩ := hv.rd
  have hr := RowI.reads hI
  rw [ints_len] at a3
  have EB : Hid (ints (S σ2 cc ++ [b]) = ints (S σ2 cc) ++ [(b : Int)]) := ints_app _ _
  have Hl : Hid ((ints (S σ2 cc)).length = (S σ2 cc).length) := ints_len _
  have FIN : ∀ w3 v3, But [] wu w3 → RowI w3 wu.heap.size v3 (ints (S σ2 cc ++ [b])) → RM (w3.setCell ⟨sb, cc, none⟩ v3) M ob wb sb ab (v3.ownBlock.toList ++ R2) n T vw (vs.set cc v3) ⟨σ2.own, σ2.ls.set (σ2.own.length + cc) (S σ2 cc ++ [b]), σ2.ag⟩ ∧ Step R2 wu (v3.ownBlock.toList ++ R2) (w3.setCell ⟨sb, cc, none⟩ v3) := fun w3 v3 hb hr => h.storeS hb hr hcc
  have HF : ∀ w1, But [] wu w1 → w1.cell? ⟨M, 3, none⟩ = some (.slice (some ⟨sb, 0, none⟩) n cl) ∧ w1.cell? ⟨sb, cc, none⟩ = some (.slice sa (S σ2 cc).length sc) ∧ w1.frozen? ⟨sb, cc, none⟩ = false := fun w1 hb => ⟨hb.cell a2, hb.cell a3, ((h.keep hb).fz cc).2.2.1⟩
  have KS : ∀ w1, But [] wu w1 → w1.cell? ⟨M, 3, none⟩ = some (.slice (some ⟨sb, 0, none⟩) n cl) ∧ w1.cell? ⟨sb, cc, none⟩ = some (.slice sa (S σ2 cc).length sc) := fun w1 hb => ⟨(HF w1 hb).1, (HF w1 hb).2.1⟩
  unfold slp at hokw
  clear hI hv
  have OW1 := (own_none wu).drew
  have OW2 := ((own_none wu).alloc (.cells #[.int .i64 (b : Int)] 3)).drew
  have OW3 : (((wu.alloc (.cells #[.int .i64 (b : Int)] 3)).alloc (.cells #[] 3)).drew).ownsRow wu.heap.size 3 1 (.slice (some ⟨wu.heap.size + 1, 0, none⟩) 0 0) 0 (([] : List Int).map (Value.int .i64)) := by
    have := row_lower (own_none (wu.alloc (.cells #[.int .i64 (b : Int)] 3))) (b := wu.heap.size) (by simp)
    rw [World.size_alloc] at this
    exact this.drew
  have B1 : But [] wu (wu.alloc (.cells #[] 3)).drew := ((But.refl [] wu).alloc _).drew
  have B2 : But [] wu ((wu.alloc (.cells #[] 3)).alloc (.cells #[.int .i64 (b : Int)] 3)).drew := (((But.refl [] wu).alloc _).alloc _).drew
  have B3 : But [] wu ((wu.alloc (.cells #[.int .i64 (b : Int)] 3)).alloc (.cells #[] 3)).drew := (((But.refl [] wu).alloc _).alloc _).drew
  have T2 : Reads ((wu.alloc (.cells #[] 3)).alloc (.cells #[.int .i64 (b : Int)] 3)).drew (some ⟨wu.heap.size + 1, 0, none⟩) 1 [(b : Int)] := by
    have := reads_one (wu.alloc (.cells #[] 3)) (b : Int)
    rw [World.size_alloc] at this
    exact this
  have T3 : Reads ((wu.alloc (.cells #[.int .i64 (b : Int)] 3)).alloc (.cells #[] 3)).drew (some ⟨wu.heap.size, 0, none⟩) 1 [(b : Int)] := (reads_one wu (b : Int)).but ((But.refl [] _).alloc _).drew
  have hmx : Try.prog.follows .mixedOrders = true := by kernel_rfl
  refine wp_region_K 18 (fun w' => (w'.cell? ⟨M, 3, none⟩ = some (.slice (some ⟨sb, 0, none⟩) n cl) ∧ w'.cell? ⟨sb, cc, none⟩ = some (.slice sa (S σ2 cc).length sc))) hmx (by kernel_rfl) (KS _ (But.refl [] wu).drew) (fun hHeld hdep => ?_)
  refine wpAnyK_take (i := 0) (v := ?_) (some 26) rfl rfl hdep (by kernel_rfl) (fun _ _ _ h => h) (Or.inl ⟨by rfl, ?_⟩) (hHeld) ?_
  rotate_left
  · (intro w hSw; go_simp; all_goals with_reducible rfl)
  try simp only [Act.put, List.setIfInBounds_toArray, List.set_cons_zero, List.set_cons_succ]
  refine wpAnyK_take (i := 1) (v := ?_) (some 27) rfl rfl hdep (by kernel_rfl) (fun _ _ _ h => h) (Or.inl ⟨by rfl, ?_⟩) (hHeld) ?_
  rotate_left
  · (intro w hSw; go_simp; all_goals with_reducible rfl)
  try simp only [Act.put, List.setIfInBounds_toArray, List.set_cons_zero, List.set_cons_succ]
  refine wpAnyK_take (i := 2) (v := ?_) (some 28) rfl rfl hdep (by kernel_rfl) (fun _ _ _ h => h) (Or.inl ⟨by rfl, ?_⟩) (hHeld) ?_
  rotate_left
  · (intro w hSw; go_simp; all_goals with_reducible rfl)
  try simp only [Act.put, List.setIfInBounds_toArray, List.set_cons_zero, List.set_cons_succ]
  refine wpAnyK_take (i := 3) (v := ?_) (some 29) rfl rfl hdep (by kernel_rfl) (fun _ _ _ h => h) (Or.inl ⟨by rfl, ?_⟩) (hHeld) ?_
  rotate_left
  · (intro w hSw; go_simp; all_goals with_reducible rfl)
  try simp only [Act.put, List.setIfInBounds_toArray, List.set_cons_zero, List.set_cons_succ]
  refine wpAnyK_take (i := 4) (v := ?_) (some 30) rfl rfl hdep (by kernel_rfl) (fun _ _ _ h => h) (Or.inl ⟨by rfl, ?_⟩) (hHeld) ?_
  rotate_left
  · (intro w hSw; go_simp; all_goals with_reducible rfl)
  try simp only [Act.put, List.setIfInBounds_toArray, List.set_cons_zero, List.set_cons_succ]
  refine wpAnyK_take (i := 6) (v := ?_) (some 32) rfl rfl hdep (by kernel_rfl) (fun _ _ _ h => h) (Or.inl ⟨by rfl, ?_⟩) (hHeld) ?_
  rotate_left
  · (intro w hSw; go_simp; all_goals with_reducible rfl)
  try simp only [Act.put, List.setIfInBounds_toArray, List.set_cons_zero, List.set_cons_succ]
  refine wpAnyK_take (i := 7) (v := ?_) (some 33) rfl rfl hdep (by kernel_rfl) (fun _ _ _ h => h) (Or.inl ⟨by rfl, ?_⟩) (hHeld) ?_
  rotate_left
  · (intro w hSw; go_simp; all_goals with_reducible rfl)
  try simp only [Act.put, List.setIfInBounds_toArray, List.set_cons_zero, List.set_cons_succ]
  refine wpAnyK_take (i := 8) (v := ?_) (some 34) rfl rfl hdep (by kernel_rfl) (fun _ _ _ h => h) (Or.inl ⟨by rfl, ?_⟩) (hHeld) ?_
  rotate_left
  · (intro w hSw; go_simp; all_goals with_reducible rfl)
  try simp only [Act.put, List.setIfInBounds_toArray, List.set_cons_zero, List.set_cons_succ]
  refine wpAnyK_take (i := 9) (v := ?_) (some 35) rfl rfl hdep (by kernel_rfl) (fun _ _ _ h => h) (Or.inl ⟨by rfl, ?_⟩) (hHeld) ?_
  rotate_left
  · (intro w hSw; go_simp; all_goals with_reducible rfl)
  try simp only [Act.put, List.setIfInBounds_toArray, List.set_cons_zero, List.set_cons_succ]
  refine wpAnyK_take (i := 10) (v := ?_) (some 36) rfl rfl hdep (by kernel_rfl) (fun _ _ _ h => h) (Or.inl ⟨by rfl, ?_⟩) (hHeld) ?_
  rotate_left
  · (intro w hSw; go_simp; all_goals with_reducible rfl)
  try simp only [Act.put, List.setIfInBounds_toArray, List.set_cons_zero, List.set_cons_succ]
  refine wpAnyK_take (i := 11) (v := ?_) (some 37) rfl rfl hdep (by kernel_rfl) (fun _ _ _ h => h) (Or.inl ⟨by rfl, ?_⟩) (hHeld) ?_
  rotate_left
  · (intro w hSw; go_simp; all_goals with_reducible rfl)
  try simp only [Act.put, List.setIfInBounds_toArray, List.set_cons_zero, List.set_cons_succ]
  refine wpAnyK_take (i := 12) (v := ?_) (some 38) rfl rfl hdep (by kernel_rfl) (fun _ _ _ h => h) (Or.inl ⟨by rfl, ?_⟩) (hHeld) ?_
  rotate_left
  · (intro w hSw; go_simp; all_goals with_reducible rfl)
  try simp only [Act.put, List.setIfInBounds_toArray, List.set_cons_zero, List.set_cons_succ]
  refine wpAnyK_take (i := 14) (v := ?_) (some 40) rfl rfl hdep (by kernel_rfl) (fun _ _ _ h => h) (Or.inl ⟨by rfl, ?_⟩) (hHeld) ?_
  rotate_left
  · (intro w hSw; go_simp; all_goals with_reducible rfl)
  try simp only [Act.put, List.setIfInBounds_toArray, List.set_cons_zero, List.set_cons_succ]
  refine wpAnyK_two (i := 5) (j := 15) (by kernel_rfl) rfl rfl (fun K hK => ?_) (fun K hK => ?_)
  · go_simp
    refine hK.out _ _ (fun _ => KS _ B1) ?_
    clear hK K
    try simp only [Act.put, List.setIfInBounds_toArray, List.set_cons_zero, List.set_cons_succ]
    refine wpAnyK_two (i := 13) (j := 15) (by kernel_rfl) rfl rfl (fun K hK => ?_) (fun K hK => ?_)
    · refine step_app rfl (.tmp 31) (.tmp 38) rfl wu.heap.size _ 0 [] rfl OW1 _ _ _ (ints (S σ2 cc)) rfl Hl.out (hr.but B1) (by omega) (by simp [World.drew] <;> omega) ?_
      intro v2 w2 ho2 hg2
      rw [Nat.zero_add, List.nil_append] at ho2
      have hb2 : But [] wu w2 := B1.grown hg2 (fun k e => by cases e; simp)
      obtain ⟨sa2, sc2, rfl⟩ := own_shape ho2
      refine hK.out _ _ (fun _ => KS _ hb2) ?_
      clear hK K
      try simp only [Act.put, List.setIfInBounds_toArray, List.set_cons_zero, List.set_cons_succ]
      refine wpAnyK_one (i := 15) (by kernel_rfl) rfl (fun K hK => ?_)
      go_simp
      refine hK.out _ _ (fun _ => KS _ (hb2.alloc _)) ?_
      clear hK K
      try simp only [Act.put, List.setIfInBounds_toArray, List.set_cons_zero, List.set_cons_succ]
      refine wpAnyK_one (i := 16) (by kernel_rfl) rfl (fun K hK => ?_)
      refine step_app rfl (.tmp 39) (.tmp 41) rfl wu.heap.size _ (S σ2 cc).length (ints (S σ2 cc)) rfl (ho2.alloc _) _ _ _ [(b : Int)] rfl rfl (reads_one w2 (b : Int)) (by omega) (by have := hb2.size; first | omega | (simp; omega)) ?_
      intro v3 w3 ho3 hg3
      have hb3 : But [] wu w3 := (hb2.alloc _).grown hg3 (fun k e => (ho2.lt k e).1)
      obtain ⟨sa3, sc3, rfl⟩ := own_shape ho3
      obtain ⟨g1, g2, g3⟩ := HF _ hb3
      refine hK.out _ _ (fun _ => KS _ hb3) ?_
      clear hK K
      try simp only [Act.put, List.setIfInBounds_toArray, List.set_cons_zero, List.set_cons_succ]
      refine wpAnyK_take (i := 17) (v := ?_) (some 43) rfl rfl hdep (by kernel_rfl) (fun _ _ _ h => h) (Or.inl ⟨by rfl, ?_⟩) (KS _ hb3) ?_
      rotate_left
      · (intro w hSw; go_simp; all_goals with_reducible rfl)
      try simp only [Act.put, List.setIfInBounds_toArray, List.set_cons_zero, List.set_cons_succ]
      refine wpAnyK_one (i := 18) (by kernel_rfl) rfl (fun K hK => ?_)
      go_simp
      refine hK.out _ _ (fun h => absurd rfl h) ?_
      clear hK K
      try simp only [Act.put, List.setIfInBounds_toArray, List.set_cons_zero, List.set_cons_succ]
      refine wpAnyK_done (by kernel_rfl) ?_
      have R3 : RowI w3 wu.heap.size (.slice sa3 ((S σ2 cc).length + 1) sc3) (ints ((S σ2 cc) ++ [b])) := by
        rw [EB.out]
        unfold RowI
        rw [List.length_append, Hl.out]
        exact ho3
      obtain ⟨r1, r2⟩ := FIN _ _ hb3 R3
      obtain ⟨cz, y1⟩ := r1.c4
      have y2 := r1.ag hb
      have y3 := (r1.fz b).2.2.2
      have r3 := r1.setA b k
      have s3 := r1.stepA b (.int .i64 (k : Int))
      go_wp2_with fail
      go_ret2
      exact ⟨rfl, _, ⟨hokw, _, _, _, _, _, _, r3⟩, s2.trans (r2.trans s3)⟩
    · go_simp
      refine hK.out _ _ (fun _ => KS _ B2) ?_
      clear hK K
      try simp only [Act.put, List.setIfInBounds_toArray, List.set_cons_zero, List.set_cons_succ]
      refine wpAnyK_one (i := 13) (by kernel_rfl) rfl (fun K hK => ?_)
      refine step_app rfl (.tmp 31) (.tmp 38) rfl wu.heap.size _ 0 [] rfl OW2 _ _ _ (ints (S σ2 cc)) rfl Hl.out (hr.but B2) (by omega) (by simp [World.drew] <;> omega) ?_
      intro v2 w2 ho2 hg2
      rw [Nat.zero_add, List.nil_append] at ho2
      have hb2 : But [] wu w2 := B2.grown hg2 (fun k e => by cases e; simp)
      have TT := T2.grown hg2 (show some wu.heap.size ≠ some (wu.heap.size + 1) by simp)
      obtain ⟨sa2, sc2, rfl⟩ := own_shape ho2
      refine hK.out _ _ (fun _ => KS _ hb2) ?_
      clear hK K
      try simp only [Act.put, List.setIfInBounds_toArray, List.set_cons_zero, List.set_cons_succ]
      refine wpAnyK_one (i := 16) (by kernel_rfl) rfl (fun K hK => ?_)
      refine step_app rfl (.tmp 39) (.tmp 41) rfl wu.heap.size _ (S σ2 cc).length (ints (S σ2 cc)) rfl ho2 _ _ _ [(b : Int)] rfl rfl TT (by omega) (by have := hb2.size; first | omega | (simp; omega)) ?_
      intro v3 w3 ho3 hg3
      have hb3 : But [] wu w3 := hb2.grown hg3 (fun k e => (ho2.lt k e).1)
      obtain ⟨sa3, sc3, rfl⟩ := own_shape ho3
      obtain ⟨g1, g2, g3⟩ := HF _ hb3
      refine hK.out _ _ (fun _ => KS _ hb3) ?_
      clear hK K
      try simp only [Act.put, List.setIfInBounds_toArray, List.set_cons_zero, List.set_cons_succ]
      refine wpAnyK_take (i := 17) (v := ?_) (some 43) rfl rfl hdep (by kernel_rfl) (fun _ _ _ h => h) (Or.inl ⟨by rfl, ?_⟩) (KS _ hb3) ?_
      rotate_left
      · (intro w hSw; go_simp; all_goals with_reducible rfl)
      try simp only [Act.put, List.setIfInBounds_toArray, List.set_cons_zero, List.set_cons_succ]
      refine wpAnyK_one (i := 18) (by kernel_rfl) rfl (fun K hK => ?_)
      go_simp
      refine hK.out _ _ (fun h => absurd rfl h) ?_
      clear hK K
      try simp only [Act.put, List.setIfInBounds_toArray, List.set_cons_zero, List.set_cons_succ]
      refine wpAnyK_done (by kernel_rfl) ?_
      have R3 : RowI w3 wu.heap.size (.slice sa3 ((S σ2 cc).length + 1) sc3) (ints ((S σ2 cc) ++ [b])) := by
        rw [EB.out]
        unfold RowI
        rw [List.length_append, Hl.out]
        exact ho3
      obtain ⟨r1, r2⟩ := FIN _ _ hb3 R3
      obtain ⟨cz, y1⟩ := r1.c4
      have y2 := r1.ag hb
      have y3 := (r1.fz b).2.2.2
      have r3 := r1.setA b k
      have s3 := r1.stepA b (.int .i64 (k : Int))
      go_wp2_with fail
      go_ret2
      exact ⟨rfl, _, ⟨hokw, _, _, _, _, _, _, r3⟩, s2.trans (r2.trans s3)⟩
  · go_simp
    refine hK.out _ _ (fun _ => KS _ (((But.refl [] wu).alloc _).drew)) ?_
    clear hK K
    try simp only [Act.put, List.setIfInBounds_toArray, List.set_cons_zero, List.set_cons_succ]
    refine wpAnyK_one (i := 5) (by kernel_rfl) rfl (fun K hK => ?_)
    go_simp
    refine hK.out _ _ (fun _ => KS _ B3) ?_
    clear hK K
    try simp only [Act.put, List.setIfInBounds_toArray, List.set_cons_zero, List.set_cons_succ]
    refine wpAnyK_one (i := 13) (by kernel_rfl) rfl (fun K hK => ?_)
    refine step_app rfl (.tmp 31) (.tmp 38) rfl wu.heap.size _ 0 [] rfl OW3 _ _ _ (ints (S σ2 cc)) rfl Hl.out (hr.but B3) (by omega) (by simp [World.drew] <;> omega) ?_
    intro v2 w2 ho2 hg2
    rw [Nat.zero_add, List.nil_append] at ho2
    have hb2 : But [] wu w2 := B3.grown hg2 (fun k e => by cases e; simp)
    have TT := T3.grown hg2 (show some (wu.heap.size + 1) ≠ some wu.heap.size by simp)
    obtain ⟨sa2, sc2, rfl⟩ := own_shape ho2
    refine hK.out _ _ (fun _ => KS _ hb2) ?_
    clear hK K
    try simp only [Act.put, List.setIfInBounds_toArray, List.set_cons_zero, List.set_cons_succ]
    refine wpAnyK_one (i := 16) (by kernel_rfl) rfl (fun K hK => ?_)
    refine step_app rfl (.tmp 39) (.tmp 41) rfl wu.heap.size _ (S σ2 cc).length (ints (S σ2 cc)) rfl ho2 _ _ _ [(b : Int)] rfl rfl TT (by omega) (by have := hb2.size; first | omega | (simp; omega)) ?_
    intro v3 w3 ho3 hg3
    have hb3 : But [] wu w3 := hb2.grown hg3 (fun k e => (ho2.lt k e).1)
    obtain ⟨sa3, sc3, rfl⟩ := own_shape ho3
    obtain ⟨g1, g2, g3⟩ := HF _ hb3
    refine hK.out _ _ (fun _ => KS _ hb3) ?_
    clear hK K
    try simp only [Act.put, List.setIfInBounds_toArray, List.set_cons_zero, List.set_cons_succ]
    refine wpAnyK_take (i := 17) (v := ?_) (some 43) rfl rfl hdep (by kernel_rfl) (fun _ _ _ h => h) (Or.inl ⟨by rfl, ?_⟩) (KS _ hb3) ?_
    rotate_left
    · (intro w hSw; go_simp; all_goals with_reducible rfl)
    try simp only [Act.put, List.setIfInBounds_toArray, List.set_cons_zero, List.set_cons_succ]
    refine wpAnyK_one (i := 18) (by kernel_rfl) rfl (fun K hK => ?_)
    go_simp
    refine hK.out _ _ (fun h => absurd rfl h) ?_
    clear hK K
    try simp only [Act.put, List.setIfInBounds_toArray, List.set_cons_zero, List.set_cons_succ]
    refine wpAnyK_done (by kernel_rfl) ?_
    have R3 : RowI w3 wu.heap.size (.slice sa3 ((S σ2 cc).length + 1) sc3) (ints ((S σ2 cc) ++ [b])) := by
      rw [EB.out]
      unfold RowI
      rw [List.length_append, Hl.out]
      exact ho3
    obtain ⟨r1, r2⟩ := FIN _ _ hb3 R3
    obtain ⟨cz, y1⟩ := r1.c4
    have y2 := r1.ag hb
    have y3 := (r1.fz b).2.2.2
    have r3 := r1.setA b k
    have s3 := r1.stepA b (.int .i64 (k : Int))
    go_wp2_with fail
    go_ret2
    exact ⟨rfl, _, ⟨hokw, _, _, _, _, _, _, r3⟩, s2.trans (r2.trans s3)⟩
theorem sgN {c t : Nat} {r : List Nat} {n T : Nat} {σ : St} (h : Ok n T σ) (hc : c < n) (hq : S σ c = t :: r) : lockE (popC σ c) (agN σ t : Nat) (t : Int) = 0 ∧ lockB (popC σ c) (agN σ t : Nat) (t : Int) = decide (ow σ (agN σ t) = -1) ∧ lockS (popC σ c) (agN σ t : Nat) (t : Int) = sgS σ c := by
  have ht : t ∈ S σ c := by rw [hq]; simp
  obtain ⟨a1, a2⟩ := h.again c hc t ht
  have h' := h.popC hc
  have e : lockE (popC σ c) (agN σ t : Nat) (t : Int) = 0 := lockE_0 (inN_of (by rw [h'.ol]; exact a1)) (inN_of (by rw [h'.al]; exact h.slt hc ht)) (h.popped hc hq) (show ow σ (agN σ t) ≠ (t : Int) from a2)
  refine ⟨e, ?_, ?_⟩
  · unfold lockB
    rw [e]
    show decide ((0 : Int) = 0 ∧ ow σ (agN σ t) = -1) = _
    simp
  · unfold lockS sgS
    rw [if_pos e, hq]
    rfl
set_option maxHeartbeats 4000000 in
theorem signal_any (hQ : RQ w M R n T σ) (c : Int) :
    Calls Try.prog 30 #[.pointer (some ⟨M, 0, none⟩), .int .i64 c] w fun e w' => e = .returned (.tuple #[.int .i64 (sigV σ c), .int .i64 (sigE σ c)]) ∧ ∃ R', RQ w' M R' n T (sigS σ c) ∧ Step R w R' w' := by
  obtain ⟨hok, ob, wb, sb, ab, vw, vs, h⟩ := id hQ
  have A := object_any h c
  unfold sigV sigE sigS
  cases hC : inO σ c
  · rw [hC] at A
    simp only [Bool.false_eq_true, if_false]
    go_enter Try.func30, Try.ntmps30
    go_wp2_with (first | (go_at_call 56; (with_reducible refine A.mono ?_); rintro e w1 ⟨rfl, hw⟩; subst w1))
    go_ret2
    exact ⟨rfl, R, hQ, Step.refl _ _⟩
  rw [hC] at A
  simp only [if_true]
  obtain ⟨cc, rfl, hcc⟩ := inO_out hok hC
  rw [Int.toNat_natCast]
  have hc' : (cc : Int) < (n : Int) := by omega
  obtain ⟨cl, a2⟩ := h.c3
  obtain ⟨v, a3, hv⟩ := h.sc hcc
  have hlen := hok.slen hcc
  have hnd := hok.ls.nd _ _ (hok.s hcc)
  cases hq : S σ cc with
  | nil =>
    have eV : sgV σ cc = -1 := by unfold sgV; rw [hq]
    have eS : sgS σ cc = σ := by unfold sgS; rw [hq]
    rw [eV, eS]
    rw [hq] at hv
    obtain ⟨a, c, rfl, -⟩ := hv.rd
    rw [show (ints ([] : List Nat)).length = 0 from rfl] at a3
    clear hv
    go_enter Try.func30, Try.ntmps30
    go_wp2_with (first | (go_at_call 56; (with_reducible refine A.mono ?_); rintro e w1 ⟨rfl, hw⟩; subst w1))
    go_ret2
    exact ⟨rfl, R, hQ, Step.refl _ _⟩
  | cons t r =>
    obtain ⟨e1, e2, e3⟩ := sgN hok hcc hq
    have hokp := hok.popC hcc
    have eV : sgV σ cc = if ow σ (agN σ t) = -1 then (t : Int) else -1 := by unfold sgV; rw [hq]
    rw [eV]
    have hP : popC σ cc = ⟨σ.own, σ.ls.set (σ.own.length + cc) r, σ.ag⟩ := by unfold popC; rw [hq]; rfl
    have htT : t < T := hok.slt hcc (by rw [hq]; simp)
    have ht' : (t : Int) < (T : Int) := by omega
    rw [hq] at hv hnd hlen
    have hrd := hv.rd
    obtain ⟨a, cap, rfl, hel⟩ := hv.rd
    obtain ⟨g, rfl, hg⟩ := hel 0 (t : Int) rfl
    have OUT : ∀ X, But [] w X → Calls Try.prog 60 #[.slice (some ⟨g, 0, none⟩) (ints (t :: r)).length cap, .int .i64 t] X fun e w' => ∃ u, e = .returned u ∧ RowI w' X.heap.size u (ints r) ∧ Below X.heap.size X w' := fun X hX => by
      have := out_any (hrd.below hX.to_below) (by rw [ints_len]; omega) (t : Int)
      rw [outL_tail hnd] at this
      exact this
    have LK : ∀ X RX, RQ X M RX n T (popC σ cc) → Calls Try.prog 27 #[.pointer (some ⟨M, 0, none⟩), .int .i64 (agN σ t : Nat), .int .i64 t] X fun e w' => e = .returned (.tuple #[.bool (decide (ow σ (agN σ t) = -1)), .int .i64 0]) ∧ ∃ R', RQ w' M R' n T (sgS σ cc) ∧ Step RX X R' w' := fun X RX hX => by
      have := lock_any hX (agN σ t : Nat) (t : Int)
      rw [e1, e2, e3] at this
      exact this
    have AG : ∀ X RX vw vs, RM X M ob wb sb ab RX n T vw vs (popC σ cc) → X.cell? ⟨ab, t, none⟩ = some (.int .i64 (agN σ t : Nat)) := fun X RX vw vs hX => hX.ag htT
    have FIN : ∀ w3 v3, But [] w w3 → RowI w3 w.heap.size v3 (ints r) → RM (w3.setCell ⟨sb, cc, none⟩ v3) M ob wb sb ab (v3.ownBlock.toList ++ R) n T vw (vs.set cc v3) (popC σ cc) ∧ Step R w (v3.ownBlock.toList ++ R) (w3.setCell ⟨sb, cc, none⟩ v3) := fun w3 v3 hb hr => by
      rw [hP]
      exact h.storeS hb hr hcc
    have FZ : ∀ w1, But [] w w1 → w1.frozen? ⟨sb, cc, none⟩ = false := fun w1 hb => ((h.keep hb).fz cc).2.2.1
    have hl0 : ((ints (t :: r)).length : Int) ≠ 0 := by rw [ints_len]; simp; omega
    have hl0' : (((ints (t :: r)).length : Int) == 0) = false := by simpa using hl0
    have hl1 : (0 : Int) < ((ints (t :: r)).length : Int) := by omega
    clear e1 e2 e3 eV hnd hlen hrd hel hv hq hP
    generalize hL : (ints (t :: r)).length = l at *
    clear hL hl0
    generalize agN σ t = ag at *
    have KS : ∀ w1, But [] w w1 → w1.cell? ⟨M, 3, none⟩ = some (.slice (some ⟨sb, 0, none⟩) n cl) ∧ w1.cell? ⟨sb, cc, none⟩ = some (.slice (some ⟨g, 0, none⟩) l cap) := fun w1 hb => ⟨hb.cell a2, hb.cell a3⟩
    go_enter Try.func30, Try.ntmps30
    go_upto_region 6 with (first | (go_at_call 56; (with_reducible refine A.mono ?_); rintro e w1 ⟨rfl, hw⟩; subst w1))
    have hmx : Try.prog.follows .mixedOrders = true := by kernel_rfl
    refine wp_region_K 15 (fun w' => w'.cell? ⟨M, 3, none⟩ = some (.slice (some ⟨sb, 0, none⟩) n cl) ∧ w'.cell? ⟨sb, cc, none⟩ = some (.slice (some ⟨g, 0, none⟩) l cap)) hmx (by kernel_rfl) (KS _ (But.refl [] w).drew) (fun hHeld hdep => ?_)
    refine wpAnyK_take (i := 0) (v := ?_) (some 31) rfl rfl hdep (by kernel_rfl) (fun _ _ _ h => h) (Or.inl ⟨by rfl, ?_⟩) (hHeld) ?_
    rotate_left
    · (intro w hSw; go_simp; all_goals with_reducible rfl)
    try simp only [Act.put, List.setIfInBounds_toArray, List.set_cons_zero, List.set_cons_succ]
    refine wpAnyK_take (i := 1) (v := ?_) (some 32) rfl rfl hdep (by kernel_rfl) (fun _ _ _ h => h) (Or.inl ⟨by rfl, ?_⟩) (hHeld) ?_
    rotate_left
    · (intro w hSw; go_simp; all_goals with_reducible rfl)
    try simp only [Act.put, List.setIfInBounds_toArray, List.set_cons_zero, List.set_cons_succ]
    refine wpAnyK_take (i := 2) (v := ?_) (some 33) rfl rfl hdep (by kernel_rfl) (fun _ _ _ h => h) (Or.inl ⟨by rfl, ?_⟩) (hHeld) ?_
    rotate_left
    · (intro w hSw; go_simp; all_goals with_reducible rfl)
    try simp only [Act.put, List.setIfInBounds_toArray, List.set_cons_zero, List.set_cons_succ]
    refine wpAnyK_take (i := 3) (v := ?_) (some 34) rfl rfl hdep (by kernel_rfl) (fun _ _ _ h => h) (Or.inl ⟨by rfl, ?_⟩) (hHeld) ?_
    rotate_left
    · (intro w hSw; go_simp; all_goals with_reducible rfl)
    try simp only [Act.put, List.setIfInBounds_toArray, List.set_cons_zero, List.set_cons_succ]
    refine wpAnyK_take (i := 4) (v := ?_) (some 35) rfl rfl hdep (by kernel_rfl) (fun _ _ _ h => h) (Or.inl ⟨by rfl, ?_⟩) (hHeld) ?_
    rotate_left
    · (intro w hSw; go_simp; all_goals with_reducible rfl)
    try simp only [Act.put, List.setIfInBounds_toArray, List.set_cons_zero, List.set_cons_succ]
    refine wpAnyK_take (i := 5) (v := ?_) (some 36) rfl rfl hdep (by kernel_rfl) (fun _ _ _ h => h) (Or.inl ⟨by rfl, ?_⟩) (hHeld) ?_
    rotate_left
    · (intro w hSw; go_simp; all_goals with_reducible rfl)
    try simp only [Act.put, List.setIfInBounds_toArray, List.set_cons_zero, List.set_cons_succ]
    refine wpAnyK_take (i := 6) (v := ?_) (some 37) rfl rfl hdep (by kernel_rfl) (fun _ _ _ h => h) (Or.inl ⟨by rfl, ?_⟩) (hHeld) ?_
    rotate_left
    · (intro w hSw; go_simp; all_goals with_reducible rfl)
    try simp only [Act.put, List.setIfInBounds_toArray, List.set_cons_zero, List.set_cons_succ]
    refine wpAnyK_take (i := 7) (v := ?_) (some 38) rfl rfl hdep (by kernel_rfl) (fun _ _ _ h => h) (Or.inl ⟨by rfl, ?_⟩) (hHeld) ?_
    rotate_left
    · (intro w hSw; go_simp; all_goals with_reducible rfl)
    try simp only [Act.put, List.setIfInBounds_toArray, List.set_cons_zero, List.set_cons_succ]
    refine wpAnyK_take (i := 8) (v := ?_) (some 39) rfl rfl hdep (by kernel_rfl) (fun _ _ _ h => h) (Or.inl ⟨by rfl, ?_⟩) (hHeld) ?_
    rotate_left
    · (intro w hSw; go_simp; all_goals with_reducible rfl)
    try simp only [Act.put, List.setIfInBounds_toArray, List.set_cons_zero, List.set_cons_succ]
    refine wpAnyK_take (i := 9) (v := ?_) (some 40) rfl rfl hdep (by kernel_rfl) (fun _ _ _ h => h) (Or.inl ⟨by rfl, ?_⟩) (hHeld) ?_
    rotate_left
    · (intro w hSw; go_simp; all_goals with_reducible rfl)
    try simp only [Act.put, List.setIfInBounds_toArray, List.set_cons_zero, List.set_cons_succ]
    refine wpAnyK_take (i := 10) (v := ?_) (some 41) rfl rfl hdep (by kernel_rfl) (fun _ _ _ h => h) (Or.inl ⟨by rfl, ?_⟩) (hHeld) ?_
    rotate_left
    · (intro w hSw; go_simp; all_goals with_reducible rfl)
    try simp only [Act.put, List.setIfInBounds_toArray, List.set_cons_zero, List.set_cons_succ]
    refine wpAnyK_take (i := 11) (v := ?_) (some 42) rfl rfl hdep (by kernel_rfl) (fun _ _ _ h => h) (Or.inl ⟨by rfl, ?_⟩) (hHeld) ?_
    rotate_left
    · (intro w hSw; go_simp; all_goals with_reducible rfl)
    try simp only [Act.put, List.setIfInBounds_toArray, List.set_cons_zero, List.set_cons_succ]
    refine wpAnyK_take (i := 12) (v := ?_) (some 43) rfl rfl hdep (by kernel_rfl) (fun _ _ _ h => h) (Or.inl ⟨by rfl, ?_⟩) (hHeld) ?_
    rotate_left
    · (intro w hSw; go_simp; all_goals with_reducible rfl)
    try simp only [Act.put, List.setIfInBounds_toArray, List.set_cons_zero, List.set_cons_succ]
    refine wpAnyK_one (i := 13) (by kernel_rfl) rfl (fun K hK => ?_)
    go_simp
    go_at_call 60
    refine (OUT _ (But.refl [] w).drew).mono ?_
    rintro e w3 ⟨u, rfl, hr3, hb3⟩
    obtain ⟨ua, uc, rfl⟩ := own_shape hr3
    have hb4 : But [] w w3 := (But.refl [] w).drew.trans (.of_below hb3)
    refine hK.out _ _ (fun _ => KS _ hb4) ?_
    clear hK K
    try simp only [Act.put, List.setIfInBounds_toArray, List.set_cons_zero, List.set_cons_succ]
    refine wpAnyK_take (i := 14) (v := ?_) (some 45) rfl rfl hdep (by kernel_rfl) (fun _ _ _ h => h) (Or.inl ⟨by rfl, ?_⟩) (KS _ hb4) ?_
    rotate_left
    · (intro w hSw; go_simp; all_goals with_reducible rfl)
    try simp only [Act.put, List.setIfInBounds_toArray, List.set_cons_zero, List.set_cons_succ]
    have fw := FZ _ hb4
    obtain ⟨x1, x2⟩ := KS _ hb4
    refine wpAnyK_one (i := 15) (by kernel_rfl) rfl (fun K hK => ?_)
    go_simp
    refine hK.out _ _ (fun h => absurd rfl h) ?_
    clear hK K
    try simp only [Act.put, List.setIfInBounds_toArray, List.set_cons_zero, List.set_cons_succ]
    refine wpAnyK_done (by kernel_rfl) ?_
    obtain ⟨h5, s5⟩ := FIN _ _ hb4 hr3
    obtain ⟨cz, y1⟩ := h5.c4
    have y2 := AG _ _ _ _ h5
    have L := LK _ _ ⟨hokp, _, _, _, _, _, _, h5⟩
    clear h5 AG LK FIN OUT FZ KS
    by_cases hf : ow σ ag = -1
    · rw [decide_eq_true hf] at L
      go_wp2_with (first | (go_at_call 27; (with_reducible refine L.mono ?_); rintro e w6 ⟨rfl, R6, h6, s6⟩))
      go_ret2
      exact ⟨by first | rfl | (rw [if_pos hf]; rfl), R6, h6, s5.trans s6⟩
    · rw [decide_eq_false hf] at L
      go_wp2_with (first | (go_at_call 27; (with_reducible refine L.mono ?_); rintro e w6 ⟨rfl, R6, h6, s6⟩))
      go_ret2
      exact ⟨by first | rfl | (rw [if_neg hf]; rfl), R6, h6, s5.trans s6⟩
end
end Go.Proofs.Ytimoleijdfoahaa.Lo
