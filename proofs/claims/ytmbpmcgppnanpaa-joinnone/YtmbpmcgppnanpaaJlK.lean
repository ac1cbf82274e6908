/- Join. -/
import Derived.Test.YtmbpmcgppnanpaaJlJ
namespace Go.Proofs.Ytmbpmcgppnanpaa.Jl
open Go Go.RowKit Go.Shelf Go.Proofs.Ytmbpmcgppnanpaa.Bs Go.Proofs.Ytmbpmcgppnanpaa.Jn
open Go.Proofs.Ytmbpmcgppnanpaa.Ids (right indexI ageI idI index_any)
open Go.Proofs.Ytmbpmcgppnanpaa.Lk (LQ Pl)
attribute [local go_sem] Oper.semAt_some
set_option linter.unusedSimpArgs false
variable {w w' : World} {B t j n : Nat} {P : Pl} {σ : St} {ls : List (List Nat)} {wt : List Int}

theorem box_three (w : World) (t u v : TypeId) (x y z : Value) : (((w.alloc (.cells #[x] t)).alloc (.cells #[y] u)).alloc (.cells #[z] v)).cell? ⟨w.heap.size, 0, none⟩ = some x ∧ (((w.alloc (.cells #[x] t)).alloc (.cells #[y] u)).alloc (.cells #[z] v)).cell? ⟨w.heap.size + 1, 0, none⟩ = some y ∧ (((w.alloc (.cells #[x] t)).alloc (.cells #[y] u)).alloc (.cells #[z] v)).cell? ⟨w.heap.size + 2, 0, none⟩ = some z := by
  obtain ⟨a, b⟩ := Lk.box_two w t u x y
  have k := (But.refl [] ((w.alloc (.cells #[x] t)).alloc (.cells #[y] u))).alloc (.cells #[z] v)
  refine ⟨k.cell a, k.cell b, ?_⟩
  have := Lk.box_one ((w.alloc (.cells #[x] t)).alloc (.cells #[y] u)) v z
  rwa [show ((w.alloc (.cells #[x] t)).alloc (.cells #[y] u)).heap.size = w.heap.size + 2 by simp] at this
section
set_option maxRecDepth 100000
set_option maxHeartbeats 2000000
theorem join_any (h0 : PM w B t j P n σ ls wt) (l : Li n σ ls wt) (H : Ok n σ) (id y : Int) (hi : Iv id) (hy : Iv y) :
    Calls Try.prog 13 #[.pointer (some ⟨B, 0, none⟩), .int .i64 id, .int .i64 y] w fun e w' => e = .returned (.tuple #[.int .i64 (joinV σ id y), .bool (joinB σ id y), .int .i64 (joinE σ id y)]) ∧ ∃ l2 wt2, PM w' B t j P n (joinS σ id y) l2 wt2 ∧ Li n (joinS σ id y) l2 wt2 ∧ But (bl B t j P) w w' := by
  obtain ⟨W, hW⟩ : ∃ W, Hid (W = ((w.alloc (.cells #[.pointer (some ⟨B, 0, none⟩)] 24)).alloc (.cells #[.int .i64 id] 3)).alloc (.cells #[.int .i64 y] 3)) := ⟨_, rfl⟩
  have bW : But [] w W := by rw [hW.out]; exact (((But.refl [] w).alloc _).alloc _).alloc _
  obtain ⟨x0, x1, x2⟩ := box_three w 24 3 3 (.pointer (some ⟨B, 0, none⟩)) (.int .i64 id) (.int .i64 y)
  rw [← hW.out] at x0 x1 x2
  have h := h0.keep bW
  have HO := of_any h H id hi
  obtain ⟨a, b, c, e, eb, -, eq, ec⟩ := of_parts H id
  rw [e] at HO
  unfold agK at HO
  have HA := fun X (hX : But [] W X) (d : Nat) d0 d1 d2 => ask_join (d := d) (h.keep hX) l H id y hy eq (hX.cell x0) (hX.cell x2) (hX.cell x1) d0 d1 d2
  clear e eq
  have hlt := h0.lt
  have KX : ∀ X, But [] W X → X.cell? ⟨w.heap.size, 0, none⟩ = some (.pointer (some ⟨B, 0, none⟩)) ∧ X.cell? ⟨w.heap.size + 1, 0, none⟩ = some (.int .i64 id) ∧ X.cell? ⟨w.heap.size + 2, 0, none⟩ = some (.int .i64 y) := fun X hX => ⟨hX.cell x0, hX.cell x1, hX.cell x2⟩
  by_cases hz : joinE σ id y = 0
  rotate_left
  · have eB : joinB σ id y = false := by unfold joinB; rw [decide_eq_false]; exact fun h => hz h.1
    have eV : joinV σ id y = 0 := by unfold joinV; rw [eB]; rfl
    have eS : joinS σ id y = σ := by unfold joinS; rw [if_neg]; exact fun h => hz h.1
    rw [eV, eB, eS]
    have hz' : (joinE σ id y != 0) = true := by simpa using hz
    generalize joinE σ id y = z at *
    rw [hW.out] at HO HA h bW KX
    clear x0 x1 x2 eB eV eS hz eb ec
    go_enter Try.func13, Try.ntmps13
    go_wp2_with (first
      | (go_at_call 35; (with_reducible refine HO.mono ?_); rintro e w1 ⟨rfl, b1⟩; obtain ⟨d0, d1, d2⟩ := newK w1 (.int .i64 a) (.int .i64 b) (.int .i64 c); have bX := (But.of_below (S := []) b1).alloc (.cells #[.int .i64 a, .int .i64 b, .int .i64 c] 64); obtain ⟨y0, y1, y2⟩ := KX _ bX)
      | (go_at_call 30; (with_reducible refine (HA _ bX _ d0 d1 d2).mono ?_); rintro e w2 ⟨rfl, m, hm⟩; have b2 := bX.drewN m; rw [← hm] at b2; clear hm))
    go_ret3
    exact ⟨rfl, ls, wt, h.keep b2, l, (bW.trans b2).wide⟩
  rw [hz] at HA ⊢
  have hs0 : stI σ id ≠ 0 := fun e => by
    unfold joinE at hz
    split at hz
    · omega
    split at hz
    · omega
    omega
  have hp : ¬ plc σ y < 0 := fun e => by unfold joinE at hz; rw [if_pos e] at hz; omega
  by_cases hs : stI σ id = 2
  · have eB : joinB σ id y = true := by unfold joinB; rw [decide_eq_true]; exact ⟨hz, hs⟩
    have eV : joinV σ id y = c := by unfold joinV; rw [eB, if_pos rfl, ec hs]
    have eS : joinS σ id y = σ := by unfold joinS; rw [if_neg]; exact fun h => by omega
    rw [eV, eB, eS]
    obtain rfl : b = 2 := by omega
    rw [hW.out] at HO HA h bW KX
    clear x0 x1 x2 eB eV eS hz eb ec hs hs0 hp
    go_enter Try.func13, Try.ntmps13
    go_wp2_with (first
      | (go_at_call 35; (with_reducible refine HO.mono ?_); rintro e w1 ⟨rfl, b1⟩; obtain ⟨d0, d1, d2⟩ := newK w1 (.int .i64 a) (.int .i64 2) (.int .i64 c); have bX := (But.of_below (S := []) b1).alloc (.cells #[.int .i64 a, .int .i64 2, .int .i64 c] 64); obtain ⟨y0, y1, y2⟩ := KX _ bX)
      | (go_at_call 30; (with_reducible refine (HA _ bX _ d0 d1 d2).mono ?_); rintro e w2 ⟨rfl, m, hm⟩; have b2 := bX.drewN m; have bD := (But.refl [] (w1.alloc (.cells #[.int .i64 a, .int .i64 2, .int .i64 c] 64))).drewN m; rw [← hm] at b2 bD; have d1' := bD.cell d1; have d2' := bD.cell d2; clear hm))
    go_ret3
    exact ⟨rfl, ls, wt, h.keep b2, l, (bW.trans b2).wide⟩
  have hs1 : stI σ id = 1 := by
    rcases st_cases (σ := σ) (id := id) with e | e | e
    · exact absurd e hs0
    · exact e
    · exact absurd e hs
  have eB : joinB σ id y = false := by unfold joinB; rw [decide_eq_false]; exact fun h => hs h.2
  have eV : joinV σ id y = 0 := by unfold joinV; rw [eB]; rfl
  obtain ⟨i, i1, hin, i3, i4, ia, -, -⟩ := H.st1 hs1
  obtain ⟨k, k1, hk, k3, -⟩ := H.plc hp
  have eS : joinS σ id y = σ.set i ⟨(rw σ i).id, (rw σ i).en, (rw σ i).va, (rw σ i).q ++ [y]⟩ := by unfold joinS; rw [if_pos ⟨hz, hs1⟩, i1, Int.toNat_natCast, ia]
  have hw : Lk.whI ls k = -1 := by
    rcases l.wh k with ⟨e5, -⟩ | ⟨i', -, -, e5⟩
    · exact e5
    · unfold joinE at hz
      rw [if_neg hp, k1, l.atP H k, e5, if_pos (.inl (by omega))] at hz
      omega
  have l2 := l.wait H hin hk hw k3 ⟨(rw σ i).id, (rw σ i).en, (rw σ i).va, (rw σ i).q ++ [y]⟩ rfl
  have hr : ∀ X l3 wt3, PM X B t j P n σ l3 wt3 → PM X B t j P n (σ.set i ⟨(rw σ i).id, (rw σ i).en, (rw σ i).va, (rw σ i).q ++ [y]⟩) l3 wt3 := fun X l3 wt3 hX => hX.rows hin rfl rfl rfl
  rw [eV, eB, eS]
  have PU : ∀ X wt3, PM X B t j P n σ ls wt3 → _ := fun X wt3 hX => push_at (w := X) (wt := wt3) hX hin hk hw
  obtain rfl : b = 1 := by omega
  have I := fun X => index_any id hi.1 hi.2 X
  rw [i3] at I
  have J := fun X => index_any y hy.1 hy.2 X
  rw [k3] at J
  generalize σ.set i ⟨(rw σ i).id, (rw σ i).en, (rw σ i).va, (rw σ i).q ++ [y]⟩ = σ2 at *
  generalize ls.set i (lsN ls i ++ [k]) = ls2 at *
  obtain ⟨cj, hcj, c2⟩ := h.c2
  have hN := H.n2
  have hk' : (k : Int) < (n : Int) := by omega
  have hmx : Try.prog.follows .mixedOrders = true := by kernel_rfl
  have KS : ∀ X, But [] W X → X.cell? ⟨w.heap.size, 0, none⟩ = some (.pointer (some ⟨B, 0, none⟩)) ∧ X.cell? ⟨w.heap.size + 2, 0, none⟩ = some (.int .i64 y) ∧ X.cell? ⟨B, 2, none⟩ = some (.slice (some ⟨j, 0, none⟩) n cj) := fun X hX => ⟨hX.cell x0, hX.cell x2, hX.cell c2⟩
  have hjw : j < w.heap.size := hlt j (by simp [bl])
  have hBj : B ≠ j := h.nes.1.2.1
  have c1 := h.c1
  have KT : ∀ X, But [j] W X → X.cell? ⟨w.heap.size, 0, none⟩ = some (.pointer (some ⟨B, 0, none⟩)) ∧ X.cell? ⟨w.heap.size + 1, 0, none⟩ = some (.int .i64 id) ∧ X.cell? ⟨w.heap.size + 2, 0, none⟩ = some (.int .i64 y) ∧ X.cell? ⟨B, 1, none⟩ = some (.pointer (some ⟨P.B, 0, none⟩)) := fun X hX => ⟨hX.cell' x0 (by simp; omega), hX.cell' x1 (by simp; omega), hX.cell' x2 (by simp; omega), hX.cell' c1 (by simpa using hBj)⟩
  replace h : ∀ X, But [] W X → PM X B t j P n σ ls wt := fun X hX => h.keep hX
  rw [hW.out] at HO HA h bW KS KT
  clear KX
  clear x0 x1 x2 eB eV eS hz eb ec hs hs0 hs1 hp i1 i3 i4 ia k1 k3 hw c1 c2 hW hBj hjw
  go_enter Try.func13, Try.ntmps13
  go_upto_region 7 with (first
    | (go_at_call 35; (with_reducible refine HO.mono ?_); rintro e w1 ⟨rfl, b1⟩; obtain ⟨d0, d1, d2⟩ := newK w1 (.int .i64 a) (.int .i64 1) (.int .i64 c); have bX := (But.of_below (S := []) b1).alloc (.cells #[.int .i64 a, .int .i64 1, .int .i64 c] 64))
    | (go_at_call 30; (with_reducible refine (HA _ bX _ d0 d1 d2).mono ?_); rintro e w2 ⟨rfl, m, hm⟩; have b2 := bX.drewN m; have bD := (But.refl [] (w1.alloc (.cells #[.int .i64 a, .int .i64 1, .int .i64 c] 64))).drewN m; rw [← hm] at b2 bD; have d1' := bD.cell d1; clear hm))
  have hB0 := b2.drew
  have h2 := h _ hB0
  have xk := h2.xj hk
  have fk := h2.fj k
  refine wp_region_K 8 (fun X => X.cell? ⟨w.heap.size, 0, none⟩ = some (.pointer (some ⟨B, 0, none⟩)) ∧ X.cell? ⟨w.heap.size + 2, 0, none⟩ = some (.int .i64 y) ∧ X.cell? ⟨B, 2, none⟩ = some (.slice (some ⟨j, 0, none⟩) n cj)) hmx (by kernel_rfl) (KS _ hB0) (fun hHeld hdep => ?_)
  refine wpAnyK_take (i := 0) (v := ?_) (some 28) rfl rfl hdep (by kernel_rfl) (fun _ _ _ h => h) (Or.inl ⟨by rfl, ?_⟩) (KS _ hB0) ?_
  rotate_left
  · (intro w hSw; go_simp; all_goals with_reducible rfl)
  try simp only [Act.put, List.setIfInBounds_toArray, List.set_cons_zero, List.set_cons_succ]
  refine wpAnyK_take (i := 1) (v := ?_) (some 29) rfl rfl hdep (by kernel_rfl) (fun _ _ _ h => h) (Or.inl ⟨by rfl, ?_⟩) (KS _ hB0) ?_
  rotate_left
  · (intro w hSw; go_simp; all_goals with_reducible rfl)
  try simp only [Act.put, List.setIfInBounds_toArray, List.set_cons_zero, List.set_cons_succ]
  refine wpAnyK_take (i := 2) (v := ?_) (some 30) rfl rfl hdep (by kernel_rfl) (fun _ _ _ h => h) (Or.inl ⟨by rfl, ?_⟩) (KS _ hB0) ?_
  rotate_left
  · (intro w hSw; go_simp; all_goals with_reducible rfl)
  try simp only [Act.put, List.setIfInBounds_toArray, List.set_cons_zero, List.set_cons_succ]
  refine wpAnyK_take (i := 3) (v := ?_) (some 31) rfl rfl hdep (by kernel_rfl) (fun _ _ _ h => h) (Or.inl ⟨by rfl, ?_⟩) (KS _ hB0) ?_
  rotate_left
  · (intro w hSw; go_simp; all_goals with_reducible rfl)
  try simp only [Act.put, List.setIfInBounds_toArray, List.set_cons_zero, List.set_cons_succ]
  refine wpAnyK_take (i := 4) (v := ?_) (some 32) rfl rfl hdep (by kernel_rfl) (fun _ _ _ h => h) (Or.inl ⟨by rfl, ?_⟩) (KS _ hB0) ?_
  rotate_left
  · (intro w hSw; go_simp; all_goals with_reducible rfl)
  try simp only [Act.put, List.setIfInBounds_toArray, List.set_cons_zero, List.set_cons_succ]
  refine wpAnyK_take (i := 6) (v := ?_) (some 34) rfl rfl hdep (by kernel_rfl) (fun _ _ _ h => h) (Or.inl ⟨by rfl, ?_⟩) (KS _ hB0) ?_
  rotate_left
  · (intro w hSw; go_simp; all_goals with_reducible rfl)
  try simp only [Act.put, List.setIfInBounds_toArray, List.set_cons_zero, List.set_cons_succ]
  refine wpAnyK_one (i := 5) (by kernel_rfl) rfl (fun K hK => ?_)
  go_simp
  go_at_call 34
  refine (J _).mono ?_
  rintro e w3 ⟨rfl, hw⟩
  subst w3
  refine hK.out _ _ (fun _ => KS _ hB0) ?_
  clear hK K
  try simp only [Act.put, List.setIfInBounds_toArray, List.set_cons_zero, List.set_cons_succ]
  refine wpAnyK_one (i := 7) (by kernel_rfl) rfl (fun K hK => ?_)
  go_simp
  refine hK.out _ _ (fun _ => KS _ hB0) ?_
  clear hK K
  try simp only [Act.put, List.setIfInBounds_toArray, List.set_cons_zero, List.set_cons_succ]
  refine wpAnyK_one (i := 8) (by kernel_rfl) rfl (fun K hK => ?_)
  go_simp
  refine hK.out _ _ (fun h => absurd rfl h) ?_
  clear hK K
  try simp only [Act.put, List.setIfInBounds_toArray, List.set_cons_zero, List.set_cons_succ]
  refine wpAnyK_done (by kernel_rfl) ?_
  have h3 := h2.setJ k y
  have hB3 : But [j] _ _ := (hB0.wide (S := [j])).set (p := ⟨j, k, none⟩) (by simp) (.int .i64 y)
  go_upto_region 8 with fail
  have hB4 := hB3.drew
  have h4 := h3.keep ((But.refl [] _).drew)
  refine wp_region_K 8 (fun X => X.cell? ⟨w.heap.size, 0, none⟩ = some (.pointer (some ⟨B, 0, none⟩)) ∧ X.cell? ⟨w.heap.size + 1, 0, none⟩ = some (.int .i64 id) ∧ X.cell? ⟨w.heap.size + 2, 0, none⟩ = some (.int .i64 y) ∧ X.cell? ⟨B, 1, none⟩ = some (.pointer (some ⟨P.B, 0, none⟩))) hmx (by kernel_rfl) (KT _ hB4) (fun hHeld2 hdep => ?_)
  refine wpAnyK_take (i := 0) (v := ?_) (some 36) rfl rfl hdep (by kernel_rfl) (fun _ _ _ h => h) (Or.inl ⟨by rfl, ?_⟩) (KT _ hB4) ?_
  rotate_left
  · (intro w hSw; go_simp; all_goals with_reducible rfl)
  try simp only [Act.put, List.setIfInBounds_toArray, List.set_cons_zero, List.set_cons_succ]
  refine wpAnyK_take (i := 1) (v := ?_) (some 37) rfl rfl hdep (by kernel_rfl) (fun _ _ _ h => h) (Or.inl ⟨by rfl, ?_⟩) (KT _ hB4) ?_
  rotate_left
  · (intro w hSw; go_simp; all_goals with_reducible rfl)
  try simp only [Act.put, List.setIfInBounds_toArray, List.set_cons_zero, List.set_cons_succ]
  refine wpAnyK_take (i := 2) (v := ?_) (some 38) rfl rfl hdep (by kernel_rfl) (fun _ _ _ h => h) (Or.inl ⟨by rfl, ?_⟩) (KT _ hB4) ?_
  rotate_left
  · (intro w hSw; go_simp; all_goals with_reducible rfl)
  try simp only [Act.put, List.setIfInBounds_toArray, List.set_cons_zero, List.set_cons_succ]
  refine wpAnyK_take (i := 3) (v := ?_) (some 39) rfl rfl hdep (by kernel_rfl) (fun _ _ _ h => h) (Or.inl ⟨by rfl, ?_⟩) (KT _ hB4) ?_
  rotate_left
  · (intro w hSw; go_simp; all_goals with_reducible rfl)
  try simp only [Act.put, List.setIfInBounds_toArray, List.set_cons_zero, List.set_cons_succ]
  refine wpAnyK_take (i := 4) (v := ?_) (some 40) rfl rfl hdep (by kernel_rfl) (fun _ _ _ h => h) (Or.inl ⟨by rfl, ?_⟩) (KT _ hB4) ?_
  rotate_left
  · (intro w hSw; go_simp; all_goals with_reducible rfl)
  try simp only [Act.put, List.setIfInBounds_toArray, List.set_cons_zero, List.set_cons_succ]
  refine wpAnyK_take (i := 6) (v := ?_) (some 42) rfl rfl hdep (by kernel_rfl) (fun _ _ _ h => h) (Or.inl ⟨by rfl, ?_⟩) (KT _ hB4) ?_
  rotate_left
  · (intro w hSw; go_simp; all_goals with_reducible rfl)
  try simp only [Act.put, List.setIfInBounds_toArray, List.set_cons_zero, List.set_cons_succ]
  refine wpAnyK_one (i := 5) (by kernel_rfl) rfl (fun K hK => ?_)
  go_simp
  go_at_call 34
  refine (I _).mono ?_
  rintro e w3 ⟨rfl, hw⟩
  subst w3
  refine hK.out _ _ (fun _ => KT _ hB4) ?_
  clear hK K
  try simp only [Act.put, List.setIfInBounds_toArray, List.set_cons_zero, List.set_cons_succ]
  refine wpAnyK_one (i := 7) (by kernel_rfl) rfl (fun K hK => ?_)
  go_simp
  go_at_call 34
  refine (J _).mono ?_
  rintro e w3 ⟨rfl, hw⟩
  subst w3
  refine hK.out _ _ (fun _ => KT _ hB4) ?_
  clear hK K
  try simp only [Act.put, List.setIfInBounds_toArray, List.set_cons_zero, List.set_cons_succ]
  refine wpAnyK_one (i := 8) (by kernel_rfl) rfl (fun K hK => ?_)
  go_simp
  go_at_call 38
  refine (PU _ _ h4).mono ?_
  rintro e w5 ⟨rfl, h5, b5⟩
  refine hK.out _ _ (fun h => absurd rfl h) ?_
  clear hK K
  try simp only [Act.put, List.setIfInBounds_toArray, List.set_cons_zero, List.set_cons_succ]
  refine wpAnyK_done (by kernel_rfl) ?_
  go_wp2_with fail
  go_ret3
  exact ⟨rfl, ls2, wt.set k y, hr _ _ _ h5, l2, ((bW.wide.trans (hB4.mono (by simp [bl]))).trans b5)⟩
end
end Go.Proofs.Ytmbpmcgppnanpaa.Jl
