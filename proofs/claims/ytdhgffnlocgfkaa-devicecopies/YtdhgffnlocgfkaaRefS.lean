/- The contract of the reference's Start. -/
import Derived.Test.YtdhgffnlocgfkaaRefC
import Derived.Test.YtdhgffnlocgfkaaTail
import Derived.Deep.CutRange
import Derived.Deep.RegionWith
namespace Go.Proofs.Ytdhgffnlocgfkaa
open Go.RowKit
set_option linter.unusedSimpArgs false

theorem RV.grown {w w' : World} {row : Option Nat} {b o : Nat} {xs : List Rq} (h : RV w (some ⟨b, o, none⟩) xs) (hg : w.grownBy w' row) (hr : row ≠ some b) : RV w' (some ⟨b, o, none⟩) xs := fun j hj => by
  obtain ⟨b', o', e, h0⟩ := h j hj
  cases e
  exact ⟨b, o, rfl, h0.but (But.own hg) (fun e => hr (by simpa using e))⟩
theorem RV.but {w w' : World} {a : Option Addr} {xs : List Rq} (h : RV w a xs) (hb : But [] w w') : RV w' a xs := h.below hb.to_below
theorem Ow.drew {w : World} {t : TypeId} {B : Nat} {v : Value} {xs : List Rq} (h : Ow w t B v xs) : Ow w.drew t B v xs := h.below ((Below.refl _ _).drew)
theorem Ow.alloc {w : World} {t : TypeId} {B : Nat} {v : Value} {xs : List Rq} (h : Ow w t B v xs) (o : Obj) : Ow (w.alloc o) t B v xs := h.below ((Below.refl _ _).alloc (Nat.le_refl _) _)

section
variable {w : World} {M N la dn : Nat} {R : List Nat} {xs : List Rq}

theorem rstart_bad (i s t k z : Int) (hg : goodB (i, s, t, k, z) = false) :
    Calls Try.prog 21 #[.pointer (some ⟨M, 0, none⟩), .agg #[.int .i64 i, .int .i64 s, .int .i64 t, .int .i64 k, .int .i64 z]] w fun e w' => e = .returned (.tuple #[.int .i64 0, .int .i64 2]) ∧ Below w.heap.size w w' := by
  have hb : Below w.heap.size w (w.alloc (.cells #[.int .i64 i, .int .i64 s, .int .i64 t, .int .i64 k, .int .i64 z] 60)) := (Below.refl _ _).alloc (Nat.le_refl _) _
  unfold goodB at hg
  simp at hg
  by_cases h1 : s < 0
  · clear hg
    go_enter Try.func21, Try.ntmps21
    go_wp2_with fail
    go_ret2
    exact ⟨rfl, hb⟩
  by_cases h2 : t < 0
  · clear hg
    go_enter Try.func21, Try.ntmps21
    go_wp2_with fail
    go_ret2
    exact ⟨rfl, hb⟩
  by_cases h3 : k < 1
  · clear hg
    go_enter Try.func21, Try.ntmps21
    go_wp2_with fail
    go_ret2
    exact ⟨rfl, hb⟩
  by_cases h4 : 2 < k
  · clear hg
    go_enter Try.func21, Try.ntmps21
    go_wp2_with fail
    go_ret2
    exact ⟨rfl, hb⟩
  by_cases h5 : z < 0
  · clear hg
    go_enter Try.func21, Try.ntmps21
    go_wp2_with fail
    go_ret2
    exact ⟨rfl, hb⟩
  have h6 : 1000 < z := by
    have := hg (by omega) (by omega) (by omega) (by omega)
    omega
  clear hg
  go_enter Try.func21, Try.ntmps21
  go_wp2_with fail
  go_ret2
  exact ⟨rfl, hb⟩

set_option maxHeartbeats 4000000 in
theorem rstart_any (h : RQ w M R N la dn xs) (hla : la ≤ 100000) (hl : xs.length ≤ 4096) (i s t k z : Int) :
    Calls Try.prog 21 #[.pointer (some ⟨M, 0, none⟩), .agg #[.int .i64 i, .int .i64 s, .int .i64 t, .int .i64 k, .int .i64 z]] w fun e w' => e = .returned (.tuple #[.int .i64 (staI N la xs (i, s, t, k, z)), .int .i64 (staE N xs (i, s, t, k, z))]) ∧ ∃ R', RQ w' M R' N (staL N la xs (i, s, t, k, z)) dn (staX N la xs (i, s, t, k, z)) ∧ Step R w R' w' := by
  rcases sta_cases N xs (i, s, t, k, z) with ⟨e, hg⟩ | ⟨e, hg, hlt⟩ | ⟨e, hg, hlt⟩
  · simp only [staI, staL, staX, e]
    exact (rstart_bad i s t k z hg).mono (fun e w' ⟨h1, h2⟩ => ⟨h1, _, h.below h2, Step.keep (.of_below h2)⟩)
  · simp only [staI, staL, staX, e]
    obtain ⟨v, rfl, hm⟩ := h
    obtain ⟨sl, c, rfl, -, -, -⟩ := hm.shape
    have hma := hm.keep ((But.refl [] w).alloc (.cells #[.int .i64 i, .int .i64 s, .int .i64 t, .int .i64 k, .int .i64 z] 60))
    have sa : Step (bks M (.slice sl xs.length c)) w (bks M (.slice sl xs.length c)) (w.alloc (.cells #[.int .i64 i, .int .i64 s, .int .i64 t, .int .i64 k, .int .i64 z] 60)) := Step.keep ((But.refl [] w).alloc _)
    have hg' := goodB_iff.1 hg
    dsimp only at hg'
    have h1 : ¬ s < 0 := by omega
    have h2 : ¬ t < 0 := by omega
    have h3 : ¬ k < 1 := by omega
    have h4 : ¬ 2 < k := by omega
    have h5 : ¬ z < 0 := by omega
    have h6 : ¬ 1000 < z := by omega
    have h7 : (N : Int) ≤ (xs.length : Int) := by omega
    have c0 := hma.c0
    have c1 := hma.c1
    clear hg' hg hlt
    go_enter Try.func21, Try.ntmps21
    go_wp2_with fail
    go_quiet (fail)
    go_wp2_with fail
    go_ret2
    exact ⟨rfl, _, ⟨_, rfl, hma.keep ((But.refl [] _).drewN _)⟩, sa.trans (Step.keep ((But.refl [] _).drewN _))⟩
  · simp only [staI, staL, staX, e, if_true]
    obtain ⟨v, rfl, hm⟩ := h
    obtain ⟨sl, c, rfl, -, -, -⟩ := hm.shape
    have hma := hm.keep ((But.refl [] w).alloc (.cells #[.int .i64 i, .int .i64 s, .int .i64 t, .int .i64 k, .int .i64 z] 60))
    have sa : Step (bks M (.slice sl xs.length c)) w (bks M (.slice sl xs.length c)) (w.alloc (.cells #[.int .i64 i, .int .i64 s, .int .i64 t, .int .i64 k, .int .i64 z] 60)) := Step.keep ((But.refl [] w).alloc _)
    have hg' := goodB_iff.1 hg
    dsimp only at hg'
    have h1 : ¬ s < 0 := by omega
    have h2 : ¬ t < 0 := by omega
    have h3 : ¬ k < 1 := by omega
    have h4 : ¬ 2 < k := by omega
    have h5 : ¬ z < 0 := by omega
    have h6 : ¬ 1000 < z := by omega
    have h7 : ¬ (N : Int) ≤ (xs.length : Int) := by omega
    have h8 : ¬ N ≤ xs.length := by omega
    have hwr : IntKind.i64.wrap ((la : Int) + 1) = (la : Int) + 1 := by rw [IntKind.wrap_i64]; omega
    have hla' : (la : Int) ≤ 100000 := by omega
    have c0 := hma.c0
    have c1 := hma.c1
    have c2 := hma.c2
    have f2 := hma.fb 2
    have hMl := hm.lt (x := M) bks_B
    have ha5 := at5_new w i s t k z 60
    clear hg' hg hlt e
    have hmx : Try.prog.follows .mixedOrders = true := by kernel_rfl
    go_enter Try.func21, Try.ntmps21
    go_wp2_with fail
    go_quiet (fail)
    have k2 := (hma.keep ((But.refl [] _).drewN nq)).setLa (x := (la : Int) + 1) (la + 1) (by simp)
    have a2 := (ha5.but ((But.refl [] _).drewN nq) (by simp)).but (S := [M]) ((But.refl _ _).set (p := ⟨M, 2, none⟩) (by simp) (.int .i64 ((la : Int) + 1))) (by simp; omega)
    have s2 := (sa.trans (Step.keep ((But.refl [] _).drewN nq))).trans (Step.same ((But.refl _ _).set (p := ⟨M, 2, none⟩) bks_B (.int .i64 ((la : Int) + 1))))
    go_upto_region 6 with fail
    generalize (((w.alloc (.cells #[.int .i64 i, .int .i64 s, .int .i64 t, .int .i64 k, .int .i64 z] 60)).drewN nq).setCell ⟨M, 2, none⟩ (.int .i64 ((la : Int) + 1))) = W1 at *
    obtain ⟨a20, a21, a22, a23, a24⟩ := a2
    dsimp only at a20 a21 a22 a23 a24
    have k3 := k2.keep ((But.refl [] _).alloc (.cells #[.int .i64 i, .int .i64 s, .int .i64 t, .int .i64 k, .int .i64 z] 60))
    have d2 := k3.c2
    go_upto_region 8 with fail
    have k4 := k2.keep ((But.refl [] _).alloc (.cells #[.int .i64 ((la : Int) + 1), .int .i64 s, .int .i64 t, .int .i64 k, .int .i64 z] 60))
    have a4 := at5_new W1 ((la : Int) + 1) s t k z 60
    have s4 := s2.trans (Step.keep ((But.refl [] W1).alloc (.cells #[.int .i64 ((la : Int) + 1), .int .i64 s, .int .i64 t, .int .i64 k, .int .i64 z] 60)))
    generalize W1.alloc (.cells #[.int .i64 ((la : Int) + 1), .int .i64 s, .int .i64 t, .int .i64 k, .int .i64 z] 60) = W at *
    generalize W1.heap.size = X at *
    clear k3 d2 k2 a20 a21 a22 a23 a24 s2 hma sa c0 c1 c2 f2 ha5
    have OW1 := (ow_none W 60).drew
    have OW2 := ((ow_none W 60).alloc (.cells #[.int .i64 ((la : Int) + 1), .int .i64 s, .int .i64 t, .int .i64 k, .int .i64 z] 60)).drew
    have OW3 : Ow ((W.alloc (.cells #[.int .i64 ((la : Int) + 1), .int .i64 s, .int .i64 t, .int .i64 k, .int .i64 z] 60)).alloc (.cells #[] 60)).drew 60 W.heap.size (.slice (some ⟨W.heap.size + 1, 0, none⟩) 0 0) [] := by
      have := (ow_none (W.alloc (.cells #[.int .i64 ((la : Int) + 1), .int .i64 s, .int .i64 t, .int .i64 k, .int .i64 z] 60)) 60).lower (B := W.heap.size) (by simp)
      rw [World.size_alloc] at this
      exact this.drew
    have B1 : But [] W (W.alloc (.cells #[] 60)).drew := ((But.refl [] W).alloc _).drew
    have B2 : But [] W ((W.alloc (.cells #[] 60)).alloc (.cells #[.int .i64 ((la : Int) + 1), .int .i64 s, .int .i64 t, .int .i64 k, .int .i64 z] 60)).drew := (((But.refl [] W).alloc _).alloc _).drew
    have B0 : But [] W (W.alloc (.cells #[.int .i64 ((la : Int) + 1), .int .i64 s, .int .i64 t, .int .i64 k, .int .i64 z] 60)).drew := ((But.refl [] W).alloc _).drew
    have B3 : But [] W ((W.alloc (.cells #[.int .i64 ((la : Int) + 1), .int .i64 s, .int .i64 t, .int .i64 k, .int .i64 z] 60)).alloc (.cells #[] 60)).drew := (((But.refl [] W).alloc _).alloc _).drew
    have T2 : RV ((W.alloc (.cells #[] 60)).alloc (.cells #[.int .i64 ((la : Int) + 1), .int .i64 s, .int .i64 t, .int .i64 k, .int .i64 z] 60)).drew (some ⟨W.heap.size + 1, 0, none⟩) [((la : Int) + 1, s, t, k, z)] := by
      have := rv_one (W.alloc (.cells #[] 60)) ((la : Int) + 1) s t k z 60
      rw [World.size_alloc] at this
      exact this.but (But.refl [] _).drew
    have T3 : RV ((W.alloc (.cells #[.int .i64 ((la : Int) + 1), .int .i64 s, .int .i64 t, .int .i64 k, .int .i64 z] 60)).alloc (.cells #[] 60)).drew (some ⟨W.heap.size, 0, none⟩) [((la : Int) + 1, s, t, k, z)] := (rv_one W ((la : Int) + 1) s t k z 60).but ((But.refl [] _).alloc _).drew
    have KS : ∀ w1, But [] W w1 → w1.cell? ⟨M, 1, none⟩ = some (.slice sl xs.length c) ∧ At5 w1 X 0 ((la : Int) + 1, s, t, k, z) := fun w1 hb => ⟨hb.cell k4.c1, a4.but hb (by simp)⟩
    have HF : ∀ w1, But [] W w1 → w1.frozen? ⟨M, 1, none⟩ = false := fun w1 hb => (k4.keep hb).fb 1
    have hrv := k4.h.rv
    have hmu := fun w2 v' ys => k4.row (w2 := w2) (v' := v') (ys := ys)
    refine wp_region_K 12 (fun w' => w'.cell? ⟨M, 1, none⟩ = some (.slice sl xs.length c) ∧ w'.cell? ⟨X, 0, none⟩ = some (.int .i64 ((la : Int) + 1)) ∧ w'.cell? ⟨X, 1, none⟩ = some (.int .i64 s) ∧ w'.cell? ⟨X, 2, none⟩ = some (.int .i64 t) ∧ w'.cell? ⟨X, 3, none⟩ = some (.int .i64 k) ∧ w'.cell? ⟨X, 4, none⟩ = some (.int .i64 z)) hmx (by kernel_rfl) (KS _ (But.refl [] W).drew) (fun hHeld hdep => ?_)
    refine wpAnyK_take (i := 0) (v := ?_) (some 58) rfl rfl hdep (by kernel_rfl) (fun _ _ _ h => h) (Or.inl ⟨by rfl, ?_⟩) hHeld ?_
    rotate_left
    · (intro w hSw; go_simp; all_goals with_reducible rfl)
    try simp only [Act.put, List.setIfInBounds_toArray, List.set_cons_zero, List.set_cons_succ]
    refine wpAnyK_take (i := 2) (v := ?_) (some 60) rfl rfl hdep (by kernel_rfl) (fun _ _ _ h => h) (Or.inl ⟨by rfl, ?_⟩) hHeld ?_
    rotate_left
    · (intro w hSw; go_simp; all_goals with_reducible rfl)
    try simp only [Act.put, List.setIfInBounds_toArray, List.set_cons_zero, List.set_cons_succ]
    refine wpAnyK_take (i := 3) (v := ?_) (some 61) rfl rfl hdep (by kernel_rfl) (fun _ _ _ h => h) (Or.inl ⟨by rfl, ?_⟩) hHeld ?_
    rotate_left
    · (intro w hSw; go_simp; all_goals with_reducible rfl)
    try simp only [Act.put, List.setIfInBounds_toArray, List.set_cons_zero, List.set_cons_succ]
    refine wpAnyK_take (i := 4) (v := ?_) (some 62) rfl rfl hdep (by kernel_rfl) (fun _ _ _ h => h) (Or.inl ⟨by rfl, ?_⟩) hHeld ?_
    rotate_left
    · (intro w hSw; go_simp; all_goals with_reducible rfl)
    try simp only [Act.put, List.setIfInBounds_toArray, List.set_cons_zero, List.set_cons_succ]
    refine wpAnyK_take (i := 5) (v := ?_) (some 63) rfl rfl hdep (by kernel_rfl) (fun _ _ _ h => h) (Or.inl ⟨by rfl, ?_⟩) hHeld ?_
    rotate_left
    · (intro w hSw; go_simp; all_goals with_reducible rfl)
    try simp only [Act.put, List.setIfInBounds_toArray, List.set_cons_zero, List.set_cons_succ]
    refine wpAnyK_take (i := 7) (v := ?_) (some 65) rfl rfl hdep (by kernel_rfl) (fun _ _ _ h => h) (Or.inl ⟨by rfl, ?_⟩) hHeld ?_
    rotate_left
    · (intro w hSw; go_simp; all_goals with_reducible rfl)
    try simp only [Act.put, List.setIfInBounds_toArray, List.set_cons_zero, List.set_cons_succ]
    refine wpAnyK_two (i := 1) (j := 8) (by kernel_rfl) rfl rfl (fun K hK => ?_) (fun K hK => ?_)
    · go_simp
      refine hK.out _ _ (fun _ => KS _ B1) ?_
      clear hK K
      try simp only [Act.put, List.setIfInBounds_toArray, List.set_cons_zero, List.set_cons_succ]
      refine wpAnyK_two (i := 6) (j := 8) (by kernel_rfl) rfl rfl (fun K hK => ?_) (fun K hK => ?_)
      · refine step_app60 rfl (.tmp 59) (.tmp 63) rfl W.heap.size _ [] rfl OW1 _ _ _ xs rfl rfl (hrv.but B1) (by simp; omega) (by simp [World.drew] <;> omega) ?_
        intro v2 w2 ho2 hg2 _
        rw [List.nil_append] at ho2
        have hb2 : But [] W w2 := B1.grown hg2 (fun k e => .inr (by cases e; simp))
        obtain ⟨sa2, sc2, rfl⟩ := ho2.at_ (n := xs.length) rfl
        refine hK.out _ _ (fun _ => KS _ hb2) ?_
        clear hK K
        try simp only [Act.put, List.setIfInBounds_toArray, List.set_cons_zero, List.set_cons_succ]
        refine wpAnyK_one (i := 8) (by kernel_rfl) rfl (fun K hK => ?_)
        go_simp
        refine hK.out _ _ (fun _ => KS _ (hb2.alloc (.cells #[.int .i64 ((la : Int) + 1), .int .i64 s, .int .i64 t, .int .i64 k, .int .i64 z] 60))) ?_
        clear hK K
        try simp only [Act.put, List.setIfInBounds_toArray, List.set_cons_zero, List.set_cons_succ]
        refine wpAnyK_one (i := 9) (by kernel_rfl) rfl (fun K hK => ?_)
        refine step_app60 rfl (.tmp 64) (.tmp 66) rfl W.heap.size _ xs rfl (ho2.alloc (.cells #[.int .i64 ((la : Int) + 1), .int .i64 s, .int .i64 t, .int .i64 k, .int .i64 z] 60)) _ _ _ [((la : Int) + 1, s, t, k, z)] rfl rfl (rv_one w2 ((la : Int) + 1) s t k z 60) (by omega) (by have := hb2.size; first | omega | (simp; omega)) ?_
        intro v3 w3 ho3 hg3 _
        have hb3 : But [] W w3 := (hb2.alloc (.cells #[.int .i64 ((la : Int) + 1), .int .i64 s, .int .i64 t, .int .i64 k, .int .i64 z] 60)).grown hg3 (fun k e => .inr (ho2.lt e).1)
        obtain ⟨sa3, sc3, rfl⟩ := ho3.at_ (n := xs.length + 1) (by simp)
        obtain ⟨g1, g2, g3, g4, g5, g6⟩ := KS _ hb3
        have f1 := HF _ hb3
        refine hK.out _ _ (fun _ => KS _ hb3) ?_
        clear hK K
        try simp only [Act.put, List.setIfInBounds_toArray, List.set_cons_zero, List.set_cons_succ]
        refine wpAnyK_take (i := 10) (v := ?_) (some 68) rfl rfl hdep (by kernel_rfl) (fun _ _ _ h => h) (Or.inl ⟨by rfl, ?_⟩) (KS _ hb3) ?_
        rotate_left
        · (intro w hSw; go_simp; all_goals with_reducible rfl)
        try simp only [Act.put, List.setIfInBounds_toArray, List.set_cons_zero, List.set_cons_succ]
        refine wpAnyK_take (i := 11) (v := ?_) (some 69) rfl rfl hdep (by kernel_rfl) (fun _ _ _ h => h) (Or.inl ⟨by rfl, ?_⟩) (KS _ hb3) ?_
        rotate_left
        · (intro w hSw; go_simp; all_goals with_reducible rfl)
        try simp only [Act.put, List.setIfInBounds_toArray, List.set_cons_zero, List.set_cons_succ]
        refine wpAnyK_one (i := 12) (by kernel_rfl) rfl (fun K hK => ?_)
        go_simp
        refine hK.out _ _ (fun h => absurd rfl h) ?_
        clear hK K
        try simp only [Act.put, List.setIfInBounds_toArray, List.set_cons_zero, List.set_cons_succ]
        refine wpAnyK_done (by kernel_rfl) ?_
        go_wp2_with fail
        go_ret2
        obtain ⟨r1, r2⟩ := hmu _ _ _ hb3 ho3
        exact ⟨rfl, _, ⟨_, rfl, r1⟩, s4.trans r2⟩
      · go_simp
        refine hK.out _ _ (fun _ => KS _ B2) ?_
        clear hK K
        try simp only [Act.put, List.setIfInBounds_toArray, List.set_cons_zero, List.set_cons_succ]
        refine wpAnyK_one (i := 6) (by kernel_rfl) rfl (fun K hK => ?_)
        refine step_app60 rfl (.tmp 59) (.tmp 63) rfl W.heap.size _ [] rfl OW2 _ _ _ xs rfl rfl (hrv.but B2) (by simp; omega) (by simp [World.drew] <;> omega) ?_
        intro v2 w2 ho2 hg2 _
        rw [List.nil_append] at ho2
        have hb2 : But [] W w2 := B2.grown hg2 (fun k e => .inr (by cases e; simp))
        have TT := T2.grown hg2 (show some W.heap.size ≠ some (W.heap.size + 1) by simp)
        obtain ⟨sa2, sc2, rfl⟩ := ho2.at_ (n := xs.length) rfl
        refine hK.out _ _ (fun _ => KS _ hb2) ?_
        clear hK K
        try simp only [Act.put, List.setIfInBounds_toArray, List.set_cons_zero, List.set_cons_succ]
        refine wpAnyK_one (i := 9) (by kernel_rfl) rfl (fun K hK => ?_)
        refine step_app60 rfl (.tmp 64) (.tmp 66) rfl W.heap.size _ xs rfl ho2 _ _ _ [((la : Int) + 1, s, t, k, z)] rfl rfl TT (by omega) (by have := hb2.size; first | omega | (simp; omega)) ?_
        intro v3 w3 ho3 hg3 _
        have hb3 : But [] W w3 := hb2.grown hg3 (fun k e => .inr (ho2.lt e).1)
        obtain ⟨sa3, sc3, rfl⟩ := ho3.at_ (n := xs.length + 1) (by simp)
        obtain ⟨g1, g2, g3, g4, g5, g6⟩ := KS _ hb3
        have f1 := HF _ hb3
        refine hK.out _ _ (fun _ => KS _ hb3) ?_
        clear hK K
        try simp only [Act.put, List.setIfInBounds_toArray, List.set_cons_zero, List.set_cons_succ]
        refine wpAnyK_take (i := 10) (v := ?_) (some 68) rfl rfl hdep (by kernel_rfl) (fun _ _ _ h => h) (Or.inl ⟨by rfl, ?_⟩) (KS _ hb3) ?_
        rotate_left
        · (intro w hSw; go_simp; all_goals with_reducible rfl)
        try simp only [Act.put, List.setIfInBounds_toArray, List.set_cons_zero, List.set_cons_succ]
        refine wpAnyK_take (i := 11) (v := ?_) (some 69) rfl rfl hdep (by kernel_rfl) (fun _ _ _ h => h) (Or.inl ⟨by rfl, ?_⟩) (KS _ hb3) ?_
        rotate_left
        · (intro w hSw; go_simp; all_goals with_reducible rfl)
        try simp only [Act.put, List.setIfInBounds_toArray, List.set_cons_zero, List.set_cons_succ]
        refine wpAnyK_one (i := 12) (by kernel_rfl) rfl (fun K hK => ?_)
        go_simp
        refine hK.out _ _ (fun h => absurd rfl h) ?_
        clear hK K
        try simp only [Act.put, List.setIfInBounds_toArray, List.set_cons_zero, List.set_cons_succ]
        refine wpAnyK_done (by kernel_rfl) ?_
        go_wp2_with fail
        go_ret2
        obtain ⟨r1, r2⟩ := hmu _ _ _ hb3 ho3
        exact ⟨rfl, _, ⟨_, rfl, r1⟩, s4.trans r2⟩
    · go_simp
      refine hK.out _ _ (fun _ => KS _ B0) ?_
      clear hK K
      try simp only [Act.put, List.setIfInBounds_toArray, List.set_cons_zero, List.set_cons_succ]
      refine wpAnyK_one (i := 1) (by kernel_rfl) rfl (fun K hK => ?_)
      go_simp
      refine hK.out _ _ (fun _ => KS _ B3) ?_
      clear hK K
      try simp only [Act.put, List.setIfInBounds_toArray, List.set_cons_zero, List.set_cons_succ]
      refine wpAnyK_one (i := 6) (by kernel_rfl) rfl (fun K hK => ?_)
      refine step_app60 rfl (.tmp 59) (.tmp 63) rfl W.heap.size _ [] rfl OW3 _ _ _ xs rfl rfl (hrv.but B3) (by simp; omega) (by simp [World.drew] <;> omega) ?_
      intro v2 w2 ho2 hg2 _
      rw [List.nil_append] at ho2
      have hb2 : But [] W w2 := B3.grown hg2 (fun k e => .inr (by cases e; simp))
      have TT := T3.grown hg2 (show some (W.heap.size + 1) ≠ some W.heap.size by simp)
      obtain ⟨sa2, sc2, rfl⟩ := ho2.at_ (n := xs.length) rfl
      refine hK.out _ _ (fun _ => KS _ hb2) ?_
      clear hK K
      try simp only [Act.put, List.setIfInBounds_toArray, List.set_cons_zero, List.set_cons_succ]
      refine wpAnyK_one (i := 9) (by kernel_rfl) rfl (fun K hK => ?_)
      refine step_app60 rfl (.tmp 64) (.tmp 66) rfl W.heap.size _ xs rfl ho2 _ _ _ [((la : Int) + 1, s, t, k, z)] rfl rfl TT (by omega) (by have := hb2.size; first | omega | (simp; omega)) ?_
      intro v3 w3 ho3 hg3 _
      have hb3 : But [] W w3 := hb2.grown hg3 (fun k e => .inr (ho2.lt e).1)
      obtain ⟨sa3, sc3, rfl⟩ := ho3.at_ (n := xs.length + 1) (by simp)
      obtain ⟨g1, g2, g3, g4, g5, g6⟩ := KS _ hb3
      have f1 := HF _ hb3
      refine hK.out _ _ (fun _ => KS _ hb3) ?_
      clear hK K
      try simp only [Act.put, List.setIfInBounds_toArray, List.set_cons_zero, List.set_cons_succ]
      refine wpAnyK_take (i := 10) (v := ?_) (some 68) rfl rfl hdep (by kernel_rfl) (fun _ _ _ h => h) (Or.inl ⟨by rfl, ?_⟩) (KS _ hb3) ?_
      rotate_left
      · (intro w hSw; go_simp; all_goals with_reducible rfl)
      try simp only [Act.put, List.setIfInBounds_toArray, List.set_cons_zero, List.set_cons_succ]
      refine wpAnyK_take (i := 11) (v := ?_) (some 69) rfl rfl hdep (by kernel_rfl) (fun _ _ _ h => h) (Or.inl ⟨by rfl, ?_⟩) (KS _ hb3) ?_
      rotate_left
      · (intro w hSw; go_simp; all_goals with_reducible rfl)
      try simp only [Act.put, List.setIfInBounds_toArray, List.set_cons_zero, List.set_cons_succ]
      refine wpAnyK_one (i := 12) (by kernel_rfl) rfl (fun K hK => ?_)
      go_simp
      refine hK.out _ _ (fun h => absurd rfl h) ?_
      clear hK K
      try simp only [Act.put, List.setIfInBounds_toArray, List.set_cons_zero, List.set_cons_succ]
      refine wpAnyK_done (by kernel_rfl) ?_
      go_wp2_with fail
      go_ret2
      obtain ⟨r1, r2⟩ := hmu _ _ _ hb3 ho3
      exact ⟨rfl, _, ⟨_, rfl, r1⟩, s4.trans r2⟩
end
end Go.Proofs.Ytdhgffnlocgfkaa
