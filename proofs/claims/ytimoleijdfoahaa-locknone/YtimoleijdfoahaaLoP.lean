/- The document's pass: a lock goes to the first that waits for it. -/
import Derived.Test.YtimoleijdfoahaaLoF
namespace Go.Proofs.Ytimoleijdfoahaa.Lo
open Go Go.RowKit Go.Proofs.Ytimoleijdfoahaa.Bs
open Go.Proofs.Ytimoleijdfoahaa.Lk (inN inN_of inN_out wI lsI wI_nat whI whI_none whI_some whI_cases ints ints_iv ints_len iv)
set_option linter.unusedSimpArgs false

theorem Ok.passn {σ : St} {n T o : Nat} (h : Ok n T σ) (ho : o < n) (hq : W σ o = []) (hS : σ.ls.set o (W σ o) = σ.ls) : Ok n T ⟨σ.own.set o (-1), σ.ls, σ.ag⟩ := by
  have := h.pass ho
  unfold passS passV at this
  rw [hq, show headV [] = -1 from rfl, List.tail_nil] at this
  rw [hq] at hS
  rw [hS] at this
  exact this
theorem Ok.pass' {σ : St} {n T o t : Nat} {r : List Nat} (h : Ok n T σ) (ho : o < n) (hq : W σ o = t :: r) : Ok n T ⟨σ.own.set o (t : Int), σ.ls.set o r, σ.ag⟩ := by
  have := h.pass ho
  unfold passS passV at this
  rw [hq, show headV (t :: r) = (t : Int) from rfl, List.tail_cons] at this
  exact this
theorem outL_tail {t : Nat} {r : List Nat} (h : (t :: r).Nodup) : outI (t : Int) (ints (t :: r)) = ints r := by
  rw [← ints_out]
  congr 1
  unfold outL
  rw [List.filter_cons_of_neg (by simp)]
  refine List.filter_eq_self.2 (fun x hx => ?_)
  have : x ≠ t := fun e => (List.nodup_cons.1 h).1 (e ▸ hx)
  simpa using this
section
set_option maxRecDepth 100000
variable {w w' : World} {M ob wb sb ab n T : Nat} {R R' F : List Nat} {vw vs : List Value} {σ : St} {q : List Nat} {v : Value}
set_option maxHeartbeats 4000000 in
theorem pass_any (h : RQ w M R n T σ) {o : Nat} (ho : o < n) :
    Calls Try.prog 59 #[.pointer (some ⟨M, 0, none⟩), .int .i64 o] w fun e w' => e = .returned (.int .i64 (passV σ o)) ∧ ∃ R', RQ w' M R' n T (passS σ o) ∧ Step R w R' w' := by
  obtain ⟨hok, ob, wb, sb, ab, vw, vs, h⟩ := h
  obtain ⟨ca, a1⟩ := h.c1
  have f1 := (h.fz o).1
  have a0 := h.own ho
  have hn := hok.n2
  have ho' : (o : Int) < (n : Int) := by omega
  have h1 := h.setO o (-1)
  have s1 := h.stepO o (.int .i64 (-1))
  obtain ⟨cb, b1⟩ := h1.c1
  obtain ⟨cc, b2⟩ := h1.c2
  have b3 := h1.own ho
  rw [show ow ⟨σ.own.set o (-1), σ.ls, σ.ag⟩ o = -1 by unfold ow; rw [getD_set (by rw [h.ol]; exact ho), if_pos rfl]] at b3
  obtain ⟨u, b4, hu⟩ := h1.wc ho
  rw [show W ⟨σ.own.set o (-1), σ.ls, σ.ag⟩ o = W σ o from rfl] at hu
  have hS : σ.ls.set o (W σ o) = σ.ls := by
    have := hok.w ho
    refine List.ext_getElem? (fun i => ?_)
    by_cases e : o = i
    · subst e
      rw [List.getElem?_set_self (List.getElem?_eq_some_iff.1 this).1, this]
    · rw [List.getElem?_set_ne e]
  unfold passV passS
  have hnd := hok.ls.nd _ _ (hok.w ho)
  have hlen := hok.wlen ho
  unfold passV
  cases hq : W σ o with
  | nil =>
    have hS0 := hS
    rw [hq] at hS hu
    rw [show headV [] = -1 from rfl, List.tail_nil, hS]
    obtain ⟨a, c, rfl, -⟩ := hu.rd
    rw [show (ints ([] : List Nat)).length = 0 from rfl] at b4
    clear hu hnd hS
    go_enter Try.func59, Try.ntmps59
    go_wp2_with fail
    go_ret
    exact ⟨rfl, R, ⟨hok.passn ho hq hS0, _, _, _, _, _, _, h1⟩, s1⟩
  | cons t r =>
    rw [hq] at hu hnd hlen
    rw [show headV (t :: r) = (t : Int) from rfl, List.tail_cons]
    obtain ⟨a, c, rfl, hc⟩ := hu.rd
    obtain ⟨g, rfl, hg⟩ := hc 0 (t : Int) rfl
    have hl0 : (0 : Int) < ((ints (t :: r)).length : Int) := by rw [ints_len]; simp
    have OUT : ∀ X, RM X M ob wb sb ab R n T vw vs ⟨(σ.own.set o (-1)).set o (t : Int), σ.ls, σ.ag⟩ → X.cell? ⟨wb, o, none⟩ = some (.slice (some ⟨g, 0, none⟩) (ints (t :: r)).length c) → Calls Try.prog 60 #[.slice (some ⟨g, 0, none⟩) (ints (t :: r)).length c, .int .i64 t] X fun e w' => ∃ u, e = .returned u ∧ RowI w' X.heap.size u (ints r) ∧ Below X.heap.size X w' := fun X hW hc => by
      obtain ⟨u, e, hu⟩ := hW.wc ho
      rw [show W ⟨(σ.own.set o (-1)).set o (t : Int), σ.ls, σ.ag⟩ o = W σ o from rfl, hq] at hu
      rw [hc] at e
      obtain rfl := Option.some.inj e
      have := out_any hu.rd (by rw [ints_len]; omega) (t : Int)
      rw [outL_tail hnd] at this
      exact this
    clear hnd hc hS
    generalize hL : (ints (t :: r)).length = l at *
    clear hL
    go_enter Try.func59, Try.ntmps59
    go_upto_region 4 with fail
    have HQ := h1
    generalize w.setCell ⟨ob, o, none⟩ (.int .i64 (-1)) = W1 at *
    have hcg : W1.cell? ⟨g, 0, none⟩ = some (.int .i64 t) := by simpa using hg
    have F1 := (h1.fz o).1
    have h1d := h1.drew
    have s1d : Step R w R W1.drew := s1.trans (Step.keep (But.refl [] W1).drew)
    have hmx : Try.prog.follows .mixedOrders = true := by kernel_rfl
    obtain ⟨V, hV⟩ : ∃ V, V = W1.drew := ⟨_, rfl⟩
    replace b1 : V.cell? ⟨M, 1, none⟩ = some (.slice (some ⟨ob, 0, none⟩) n cb) := hV ▸ b1
    replace b3 : V.cell? ⟨ob, o, none⟩ = some (.int .i64 (-1)) := hV ▸ b3
    replace hcg : V.cell? ⟨g, 0, none⟩ = some (.int .i64 t) := hV ▸ hcg
    replace b4 : V.cell? ⟨wb, o, none⟩ = some (.slice (some ⟨g, 0, none⟩) l c) := hV ▸ b4
    replace b2 : V.cell? ⟨M, 2, none⟩ = some (.slice (some ⟨wb, 0, none⟩) n cc) := hV ▸ b2
    replace F1 : V.frozen? ⟨ob, o, none⟩ = false := hV ▸ F1
    rw [← hV] at h1d s1d
    refine wp_region_K 9 (fun w' => w'.cell? ⟨M, 1, none⟩ = some (.slice (some ⟨ob, 0, none⟩) n cb) ∧ w'.cell? ⟨g, 0, none⟩ = some (.int .i64 t) ∧ w'.cell? ⟨ob, o, none⟩ = some (.int .i64 (-1)) ∧ IsW V w') hmx (by kernel_rfl) (by rw [← hV]; exact ⟨b1, hcg, b3, rfl⟩) (fun hHeld hdep => ?_)
    rw [← hV]
    have hHeld2 : (fun w' => w'.cell? ⟨M, 1, none⟩ = some (.slice (some ⟨ob, 0, none⟩) n cb) ∧ w'.cell? ⟨g, 0, none⟩ = some (.int .i64 t) ∧ w'.cell? ⟨ob, o, none⟩ = some (.int .i64 (-1)) ∧ IsW V w') V := ⟨b1, hcg, b3, rfl⟩
    clear hV hHeld
    refine wpAnyK_take (i := 0) (v := ?_) (some 22) rfl rfl hdep (by kernel_rfl) (fun _ _ _ h => h) (Or.inl ⟨by rfl, ?_⟩) (by assumption) ?_
    rotate_left
    · (intro w hSw; obtain ⟨z0, z1, z2, z3⟩ := hSw; go_simp; all_goals with_reducible rfl)
    try simp only [Act.put, List.setIfInBounds_toArray, List.set_cons_zero, List.set_cons_succ]
    refine wpAnyK_take (i := 1) (v := ?_) (some 23) rfl rfl hdep (by kernel_rfl) (fun _ _ _ h => h) (Or.inl ⟨by rfl, ?_⟩) (by assumption) ?_
    rotate_left
    · (intro w hSw; obtain ⟨z0, z1, z2, z3⟩ := hSw; go_simp; all_goals with_reducible rfl)
    try simp only [Act.put, List.setIfInBounds_toArray, List.set_cons_zero, List.set_cons_succ]
    refine wpAnyK_take (i := 2) (v := ?_) (some 24) rfl rfl hdep (by kernel_rfl) (fun _ _ _ h => h) (Or.inl ⟨by rfl, ?_⟩) (by assumption) ?_
    rotate_left
    · (intro w hSw; obtain ⟨z0, z1, z2, z3⟩ := hSw; go_simp; all_goals with_reducible rfl)
    try simp only [Act.put, List.setIfInBounds_toArray, List.set_cons_zero, List.set_cons_succ]
    refine wpAnyK_take (i := 3) (v := ?_) (some 25) rfl rfl hdep (by kernel_rfl) (fun _ _ _ h => h) (Or.inl ⟨by rfl, ?_⟩) (by assumption) ?_
    rotate_left
    · (intro w hSw; obtain ⟨z0, z1, z2, z3⟩ := hSw; go_simp; all_goals with_reducible rfl)
    try simp only [Act.put, List.setIfInBounds_toArray, List.set_cons_zero, List.set_cons_succ]
    refine wpAnyK_take (i := 4) (v := ?_) (some 26) rfl rfl hdep (by kernel_rfl) (fun _ _ _ h => h) (Or.inl ⟨by rfl, ?_⟩) (by assumption) ?_
    rotate_left
    · (intro w hSw; obtain ⟨z0, z1, z2, z3⟩ := hSw; go_simp; all_goals with_reducible rfl)
    try simp only [Act.put, List.setIfInBounds_toArray, List.set_cons_zero, List.set_cons_succ]
    refine wpAnyK_take (i := 5) (v := ?_) (some 27) rfl rfl hdep (by kernel_rfl) (fun _ _ _ h => h) (Or.inl ⟨by rfl, ?_⟩) (by assumption) ?_
    rotate_left
    · (intro w hSw; obtain ⟨z0, z1, z2, z3⟩ := hSw; go_simp; all_goals with_reducible rfl)
    try simp only [Act.put, List.setIfInBounds_toArray, List.set_cons_zero, List.set_cons_succ]
    refine wpAnyK_take (i := 6) (v := ?_) (some 28) rfl rfl hdep (by kernel_rfl) (fun _ _ _ h => h) (Or.inl ⟨by rfl, ?_⟩) (by assumption) ?_
    rotate_left
    · (intro w hSw; obtain ⟨z0, z1, z2, z3⟩ := hSw; go_simp; all_goals with_reducible rfl)
    try simp only [Act.put, List.setIfInBounds_toArray, List.set_cons_zero, List.set_cons_succ]
    refine wpAnyK_take (i := 7) (v := ?_) (some 29) rfl rfl hdep (by kernel_rfl) (fun _ _ _ h => h) (Or.inl ⟨by rfl, ?_⟩) (by assumption) ?_
    rotate_left
    · (intro w hSw; obtain ⟨z0, z1, z2, z3⟩ := hSw; go_simp; all_goals with_reducible rfl)
    try simp only [Act.put, List.setIfInBounds_toArray, List.set_cons_zero, List.set_cons_succ]
    refine wpAnyK_take (i := 8) (v := ?_) (some 30) rfl rfl hdep (by kernel_rfl) (fun _ _ _ h => h) (Or.inl ⟨by rfl, ?_⟩) (by assumption) ?_
    rotate_left
    · (intro w hSw; obtain ⟨z0, z1, z2, z3⟩ := hSw; go_simp; all_goals with_reducible rfl)
    try simp only [Act.put, List.setIfInBounds_toArray, List.set_cons_zero, List.set_cons_succ]
    refine wpAnyK_one (i := 9) (by kernel_rfl) rfl (fun K hK => ?_)
    go_simp
    refine hK.out _ _ (fun h => absurd rfl h) ?_
    clear hK K
    try simp only [Act.put, List.setIfInBounds_toArray, List.set_cons_zero, List.set_cons_succ]
    refine wpAnyK_done (by kernel_rfl) ?_
    have h2 := h1d.setO o (t : Int)
    have s2 := s1d.trans (h1d.stepO o (.int .i64 (t : Int)))
    rw [List.set_set] at h2
    rw [List.set_set] at OUT
    obtain ⟨cd, e1⟩ := h2.c2
    have e2 : (V.setCell ⟨ob, o, none⟩ (.int .i64 (t : Int))).cell? ⟨wb, o, none⟩ = some (.slice (some ⟨g, 0, none⟩) l c) := ((But.refl [ob] V).set (p := ⟨ob, o, none⟩) (by simp) _).cell' b4 (by have := h1d.nes.2.1.1; simpa using this.symm)
    have hgo : g ≠ ob := by
      have := (hu.2 g rfl).2
      simp at this
      exact this.2.1
    have e3 : (V.setCell ⟨ob, o, none⟩ (.int .i64 (t : Int))).cell? ⟨g, 0, none⟩ = some (.int .i64 t) := ((But.refl [ob] V).set (p := ⟨ob, o, none⟩) (by simp) _).cell' hcg (by simpa using hgo)
    generalize V.setCell ⟨ob, o, none⟩ (.int .i64 (t : Int)) = W2 at *
    clear h1d s1d b1 b2 b3 b4 hcg F1 h1 s1 HQ hHeld2 a1 a0 f1 hg hu hgo
    have h2d := h2.drew
    have s2d : Step R w R W2.drew := s2.trans (Step.keep (But.refl [] W2).drew)
    go_upto_region 5 with fail
    have KS : ∀ w1, But [] W2.drew w1 → w1.cell? ⟨M, 2, none⟩ = some (.slice (some ⟨wb, 0, none⟩) n cd) ∧ w1.cell? ⟨wb, o, none⟩ = some (.slice (some ⟨g, 0, none⟩) l c) ∧ w1.cell? ⟨g, 0, none⟩ = some (.int .i64 t) := fun w1 hb => ⟨hb.cell e1, hb.cell e2, hb.cell e3⟩
    refine wp_region_K 11 (fun w' => w'.cell? ⟨M, 2, none⟩ = some (.slice (some ⟨wb, 0, none⟩) n cd) ∧ w'.cell? ⟨wb, o, none⟩ = some (.slice (some ⟨g, 0, none⟩) l c) ∧ w'.cell? ⟨g, 0, none⟩ = some (.int .i64 t)) hmx (by kernel_rfl) (KS _ (But.refl [] _)) (fun hHeld hdep => ?_)
    refine wpAnyK_take (i := 0) (v := ?_) (some 31) rfl rfl hdep (by kernel_rfl) (fun _ _ _ h => h) (Or.inl ⟨by rfl, ?_⟩) (by assumption) ?_
    rotate_left
    · (intro w hSw; obtain ⟨z0, z1, z2⟩ := hSw; go_simp; all_goals with_reducible rfl)
    try simp only [Act.put, List.setIfInBounds_toArray, List.set_cons_zero, List.set_cons_succ]
    refine wpAnyK_take (i := 1) (v := ?_) (some 32) rfl rfl hdep (by kernel_rfl) (fun _ _ _ h => h) (Or.inl ⟨by rfl, ?_⟩) (by assumption) ?_
    rotate_left
    · (intro w hSw; obtain ⟨z0, z1, z2⟩ := hSw; go_simp; all_goals with_reducible rfl)
    try simp only [Act.put, List.setIfInBounds_toArray, List.set_cons_zero, List.set_cons_succ]
    refine wpAnyK_take (i := 2) (v := ?_) (some 33) rfl rfl hdep (by kernel_rfl) (fun _ _ _ h => h) (Or.inl ⟨by rfl, ?_⟩) (by assumption) ?_
    rotate_left
    · (intro w hSw; obtain ⟨z0, z1, z2⟩ := hSw; go_simp; all_goals with_reducible rfl)
    try simp only [Act.put, List.setIfInBounds_toArray, List.set_cons_zero, List.set_cons_succ]
    refine wpAnyK_take (i := 3) (v := ?_) (some 34) rfl rfl hdep (by kernel_rfl) (fun _ _ _ h => h) (Or.inl ⟨by rfl, ?_⟩) (by assumption) ?_
    rotate_left
    · (intro w hSw; obtain ⟨z0, z1, z2⟩ := hSw; go_simp; all_goals with_reducible rfl)
    try simp only [Act.put, List.setIfInBounds_toArray, List.set_cons_zero, List.set_cons_succ]
    refine wpAnyK_take (i := 4) (v := ?_) (some 35) rfl rfl hdep (by kernel_rfl) (fun _ _ _ h => h) (Or.inl ⟨by rfl, ?_⟩) (by assumption) ?_
    rotate_left
    · (intro w hSw; obtain ⟨z0, z1, z2⟩ := hSw; go_simp; all_goals with_reducible rfl)
    try simp only [Act.put, List.setIfInBounds_toArray, List.set_cons_zero, List.set_cons_succ]
    refine wpAnyK_take (i := 5) (v := ?_) (some 36) rfl rfl hdep (by kernel_rfl) (fun _ _ _ h => h) (Or.inl ⟨by rfl, ?_⟩) (by assumption) ?_
    rotate_left
    · (intro w hSw; obtain ⟨z0, z1, z2⟩ := hSw; go_simp; all_goals with_reducible rfl)
    try simp only [Act.put, List.setIfInBounds_toArray, List.set_cons_zero, List.set_cons_succ]
    refine wpAnyK_take (i := 6) (v := ?_) (some 37) rfl rfl hdep (by kernel_rfl) (fun _ _ _ h => h) (Or.inl ⟨by rfl, ?_⟩) (by assumption) ?_
    rotate_left
    · (intro w hSw; obtain ⟨z0, z1, z2⟩ := hSw; go_simp; all_goals with_reducible rfl)
    try simp only [Act.put, List.setIfInBounds_toArray, List.set_cons_zero, List.set_cons_succ]
    refine wpAnyK_take (i := 7) (v := ?_) (some 38) rfl rfl hdep (by kernel_rfl) (fun _ _ _ h => h) (Or.inl ⟨by rfl, ?_⟩) (by assumption) ?_
    rotate_left
    · (intro w hSw; obtain ⟨z0, z1, z2⟩ := hSw; go_simp; all_goals with_reducible rfl)
    try simp only [Act.put, List.setIfInBounds_toArray, List.set_cons_zero, List.set_cons_succ]
    refine wpAnyK_take (i := 8) (v := ?_) (some 39) rfl rfl hdep (by kernel_rfl) (fun _ _ _ h => h) (Or.inl ⟨by rfl, ?_⟩) (by assumption) ?_
    rotate_left
    · (intro w hSw; obtain ⟨z0, z1, z2⟩ := hSw; go_simp; all_goals with_reducible rfl)
    try simp only [Act.put, List.setIfInBounds_toArray, List.set_cons_zero, List.set_cons_succ]
    refine wpAnyK_one (i := 9) (by kernel_rfl) rfl (fun K hK => ?_)
    go_simp
    go_at_call 60
    refine (OUT _ h2d (KS _ (But.refl [] _)).2.1).mono ?_
    rintro e w3 ⟨u, rfl, hr3, hb3⟩
    obtain ⟨ua, uc, rfl⟩ := own_shape hr3
    refine hK.out _ _ (fun _ => KS _ (.of_below hb3)) ?_
    clear hK K
    try simp only [Act.put, List.setIfInBounds_toArray, List.set_cons_zero, List.set_cons_succ]
    refine wpAnyK_take (i := 10) (v := ?_) (some 41) rfl rfl hdep (by kernel_rfl) (fun _ _ _ h => h) (Or.inl ⟨by rfl, ?_⟩) (KS _ (.of_below hb3)) ?_
    rotate_left
    · (intro w hSw; obtain ⟨z0, z1, z2⟩ := hSw; go_simp; all_goals with_reducible rfl)
    try simp only [Act.put, List.setIfInBounds_toArray, List.set_cons_zero, List.set_cons_succ]
    obtain ⟨x1, x2, x3⟩ := KS _ (But.of_below hb3)
    obtain ⟨h4, s4⟩ := h2d.storeW (.of_below hb3) hr3 ho
    have fw := ((h2d.below hb3).fz o).2.1
    refine wpAnyK_one (i := 11) (by kernel_rfl) rfl (fun K hK => ?_)
    go_simp
    refine hK.out _ _ (fun h => absurd rfl h) ?_
    clear hK K
    try simp only [Act.put, List.setIfInBounds_toArray, List.set_cons_zero, List.set_cons_succ]
    refine wpAnyK_done (by kernel_rfl) ?_
    obtain ⟨ce, y1⟩ := h4.c1
    have y2 := h4.own ho
    rw [show ow ⟨σ.own.set o (t : Int), σ.ls.set o r, σ.ag⟩ o = (t : Int) by unfold ow; rw [getD_set (by rw [h.ol]; exact ho), if_pos rfl]] at y2
    go_wp2_with fail
    go_ret
    refine ⟨rfl, ?_⟩
    exact ⟨_, ⟨hok.pass' ho hq, _, _, _, _, _, _, h4⟩, s2d.trans s4⟩
end
end Go.Proofs.Ytimoleijdfoahaa.Lo
