/- Waiters. -/
import Derived.Test.YtmbpmcgppnanpaaJlW
namespace Go.Proofs.Ytmbpmcgppnanpaa.Jl
open Go Go.RowKit Go.Shelf Go.Proofs.Ytmbpmcgppnanpaa.Bs Go.Proofs.Ytmbpmcgppnanpaa.Jn
open Go.Proofs.Ytmbpmcgppnanpaa.Ids (right indexI ageI idI index_any)
open Go.Proofs.Ytmbpmcgppnanpaa.Lk (LQ Pl iv ints wI wI_nat whI_cases Src all_stops all_any lsI lsI_nat Owned Kq kq_t kq_b rebase kq_append)
attribute [local go_sem] Oper.semAt_some
set_option linter.unusedSimpArgs false
variable {w w' : World} {B t j n : Nat} {P : Pl} {σ : St} {ls : List (List Nat)} {wt : List Int}

/-- Places that stand in a list. -/
abbrev In (q : List Nat) : Type := { x : Nat // x ∈ q }
section
set_option maxRecDepth 100000
set_option maxHeartbeats 4000000
theorem waiters_in (h : PM w B t j P n σ ls wt) (l : Li n σ ls wt) (H : Ok n σ) (id : Int) (hi : Iv id) (hs : stI σ id = 1) :
    CallsIn Fence.wide 5 Try.prog 19 #[.pointer (some ⟨B, 0, none⟩), .int .i64 id] w fun e w' => ∃ v, e = .returned v ∧ RowI w' w.heap.size v (waitL σ id) ∧ Below w.heap.size w w' := by
  obtain ⟨k, e1, hk, e3, e4, ea, -, -⟩ := H.st1 hs
  have hL : waitL σ id = (lsN ls k).map (wtI wt) := by unfold waitL; rw [if_pos hs, ea, l.q k hk]
  rw [hL]
  have b0 : But [] w (w.alloc (.cells #[.pointer (some ⟨B, 0, none⟩)] 24)) := (But.refl [] w).alloc _
  have x0 := (Lk.box_two w 24 3 (.pointer (some ⟨B, 0, none⟩)) (.int .i64 0)).1
  replace x0 : (w.alloc (.cells #[.pointer (some ⟨B, 0, none⟩)] 24)).cell? ⟨w.heap.size, 0, none⟩ = some (.pointer (some ⟨B, 0, none⟩)) := by simp [go_sem]
  have h0 := h.keep b0
  have HO := of_any h0 H id hi
  have HG := fun W => going_any id W
  obtain ⟨a, b, c, e, -, en, -, -⟩ := of_parts H id
  rw [e] at HO
  have NE := fun W => neK W a b c id 1 0
  rw [en, decide_eq_true hs, Bool.not_true] at NE
  have I := fun X => index_any id hi.1 hi.2 X
  rw [e3] at I
  unfold agK at HO HG NE
  have hlt : ∀ p ∈ lsN ls k, p < n := fun p hp => l.lk.lt k _ (lsN_get l.lk hk) p hp
  have hN := H.n2
  clear hs hL ea e en e1
  refine callsIn_of_wp_marks Try.func19 rfl trivial ?_ rfl
  simp only [Try.ntmps19, List.size_toArray, List.length_cons, List.length_nil, Nat.reduceAdd, Nat.reduceSub, Array.replicate_succ, Array.replicate_zero, List.push_toArray, List.append_toArray, List.nil_append, List.cons_append]
  refine wpIn_wide.2 ?_
  go_upto_region 4 with (first
    | (go_at_call 35; (with_reducible refine HO.mono ?_); rintro e w1 ⟨rfl, b1⟩)
    | (go_at_call 33; (with_reducible refine (HG _).mono ?_); rintro e w2 ⟨rfl, b2⟩))
  have b12 := b0.trans ((But.of_below (S := []) b1).trans (.of_below b2))
  have h2 := h0.keep ((But.of_below (S := []) b1).trans (.of_below b2))
  have x2 := ((But.of_below (S := []) b1).trans (.of_below b2)).cell x0
  have hkn : (k : Int) < (n : Int) := by omega
  clear x0 h0 HO HG NE b1 b2
  have KS : ∀ X, Below w2.heap.size w2 X → X.cell? ⟨w.heap.size, 0, none⟩ = some (.pointer (some ⟨B, 0, none⟩)) ∧ X.cell? ⟨B, 1, none⟩ = some (.pointer (some ⟨P.B, 0, none⟩)) := fun X hX => ⟨cell_on hX x2, (h2.below hX).c1⟩
  have hB0 : Below w2.heap.size w2 (w2.alloc (.cells #[.slice none 0 0] 34)).drew := ((Below.refl _ w2).alloc (Nat.le_refl _) _).drew
  have hmx : Try.prog.follows .mixedOrders = true := by kernel_rfl
  refine wp_region_KN 6 (fun X => X.cell? ⟨w.heap.size, 0, none⟩ = some (.pointer (some ⟨B, 0, none⟩)) ∧ X.cell? ⟨B, 1, none⟩ = some (.pointer (some ⟨P.B, 0, none⟩))) hmx (by kernel_rfl) (KS _ hB0) (fun hHeld hdep => ?_)
  refine wpAnyK_take (i := 0) (v := ?_) (some 13) rfl rfl hdep (by kernel_rfl) (fun _ _ _ h => h) (Or.inl ⟨by rfl, ?_⟩) (KS _ hB0) ?_
  rotate_left
  · (intro w hSw; go_simp; all_goals with_reducible rfl)
  try simp only [Act.put, List.setIfInBounds_toArray, List.set_cons_zero, List.set_cons_succ]
  refine wpAnyK_take (i := 1) (v := ?_) (some 14) rfl rfl hdep (by kernel_rfl) (fun _ _ _ h => h) (Or.inl ⟨by rfl, ?_⟩) (KS _ hB0) ?_
  rotate_left
  · (intro w hSw; go_simp; all_goals with_reducible rfl)
  try simp only [Act.put, List.setIfInBounds_toArray, List.set_cons_zero, List.set_cons_succ]
  refine wpAnyK_take (i := 2) (v := ?_) (some 15) rfl rfl hdep (by kernel_rfl) (fun _ _ _ h => h) (Or.inl ⟨by rfl, ?_⟩) (KS _ hB0) ?_
  rotate_left
  · (intro w hSw; go_simp; all_goals with_reducible rfl)
  try simp only [Act.put, List.setIfInBounds_toArray, List.set_cons_zero, List.set_cons_succ]
  refine wpAnyK_take (i := 3) (v := ?_) (some 16) rfl rfl hdep (by kernel_rfl) (fun _ _ _ h => h) (Or.inl ⟨by rfl, ?_⟩) (KS _ hB0) ?_
  rotate_left
  · (intro w hSw; go_simp; all_goals with_reducible rfl)
  try simp only [Act.put, List.setIfInBounds_toArray, List.set_cons_zero, List.set_cons_succ]
  refine wpAnyK_take (i := 4) (v := ?_) (some 17) rfl rfl hdep (by kernel_rfl) (fun _ _ _ h => h) (Or.inl ⟨by rfl, ?_⟩) (KS _ hB0) ?_
  rotate_left
  · (intro w hSw; go_simp; all_goals with_reducible rfl)
  try simp only [Act.put, List.setIfInBounds_toArray, List.set_cons_zero, List.set_cons_succ]
  refine wpAnyK_one (i := 5) (by kernel_rfl) rfl (fun K hK => ?_)
  go_simp
  go_at_call 34
  refine (I _).mono ?_
  rintro e w3 ⟨rfl, hw⟩
  subst w3
  refine hK.out _ _ (fun _ => KS _ hB0) ?_
  clear hK K
  try simp only [Act.put, List.setIfInBounds_toArray, List.set_cons_zero, List.set_cons_succ]
  refine wpAnyK_one (i := 6) (by kernel_rfl) rfl (fun K hK => ?_)
  go_simp
  go_at_call 43
  refine (all_any _ _ _).mono ?_
  rintro e w3 ⟨rfl, hw⟩
  subst w3
  refine hK.out _ _ (fun h => absurd rfl h) ?_
  clear hK K
  try simp only [Act.put, List.setIfInBounds_toArray, List.set_cons_zero, List.set_cons_succ]
  refine wpAnyK_done (by kernel_rfl) ?_
  dsimp only [NQ]
  go_wp2_with fail
  have bx : Boxed (w2.alloc (.cells #[.slice none 0 0] 34)).drew w2.heap.size 34 (.slice none 0 0) := Boxed.new w2 34 (.slice none 0 0)
  have hsz : (w2.alloc (.cells #[.slice none 0 0] 34)).drew.heap.size = w2.heap.size + 1 := by
    show (w2.alloc (.cells #[.slice none 0 0] 34)).heap.size = _
    simp
  clear hHeld hdep
  generalize (w2.alloc (.cells #[.slice none 0 0] 34)).drew = X at *
  have hB3 : Below X.heap.size X ((X.alloc (.cells #[.pointer (some ⟨P.B, 0, none⟩)] 50)).alloc (.cells #[.int .i64 (k : Int)] 3)) := ((Below.refl _ X).alloc (Nat.le_refl _) _).alloc (by simp) _
  obtain ⟨v0, v1⟩ := Lk.box_two X 50 3 (.pointer (some ⟨P.B, 0, none⟩)) (.int .i64 (k : Int))
  have bx3 : Boxed ((X.alloc (.cells #[.pointer (some ⟨P.B, 0, none⟩)] 50)).alloc (.cells #[.int .i64 (k : Int)] 3)) w2.heap.size 34 (.slice none 0 0) := (hB3.block w2.heap.size (by omega)).trans bx
  have hB4 := hB0.trans (hB3.mono (by omega))
  have hs3 : w2.heap.size + 3 = ((X.alloc (.cells #[.pointer (some ⟨P.B, 0, none⟩)] 50)).alloc (.cells #[.int .i64 (k : Int)] 3)).heap.size := by simp; omega
  have hsrc := (h2.below hB4).q.src (k : Int)
  rw [lsI_nat] at hsrc
  change Src _ _ _ (lsN ls k) at hsrc
  clear hB3 hB0 bx
  generalize ((X.alloc (.cells #[.pointer (some ⟨P.B, 0, none⟩)] 50)).alloc (.cells #[.int .i64 (k : Int)] 3)) = W3 at *
  have hle := hsrc.le
  obtain ⟨q, hq⟩ : ∃ q, q = lsN ls k := ⟨_, rfl⟩
  rw [← hq] at hsrc hlt hle
  have hat : q.attach.map (fun x : In q => x.1) = q := by simp
  have hO : ∀ b, ¬ Owned W3 w2.heap.size b := by
    rintro b ⟨u, g, hu, hg, _⟩
    have := hu.symm.trans bx3
    simp only [Option.some.injEq, Obj.cells.injEq, Array.mk.injEq, List.cons.injEq, and_true] at this
    obtain rfl := this
    simp [Value.ownBlock] at hg
  obtain ⟨cj, -, y2⟩ := h2.c2
  have KS2 : ∀ Y, Below w2.heap.size w2 Y → ∀ x : In q, Y.cell? ⟨w.heap.size, 0, none⟩ = some (.pointer (some ⟨B, 0, none⟩)) ∧ Y.cell? ⟨B, 2, none⟩ = some (.slice (some ⟨j, 0, none⟩) n cj) ∧ Y.cell? ⟨j, x.1, none⟩ = some (.int .i64 (wtI wt x.1)) := fun Y hY x => ⟨cell_on hY x2, cell_on hY y2, (h2.below hY).xj (hlt x.1 x.2)⟩
  refine wpIn_wide (n := 5) |>.1 ?_
  refine wpIn_rangeFunc_ownG rfl (by omega) (gf := 58) (lb := #[.pointer (some ⟨X.heap.size, 0, none⟩), .pointer (some ⟨X.heap.size + 1, 0, none⟩)]) rfl trivial (enters_of Try.func58 (by kernel_rfl) rfl)
    (all_stops (fun x : In q => x.1) (5 - 1) (by omega) X.heap.size (X.heap.size + 1) (.pointer (some ⟨P.B, 0, none⟩)) (k : Int) q.attach W3 (by rw [hat]; exact hsrc) v0 v1 (Kq w2.heap.size) (fun A T => T ≠ w2.heap.size ∧ ¬ Owned A w2.heap.size T)
      (fun W T hW hT => ⟨by omega, fun ⟨u, g, hu, hg, hle⟩ => hO T ⟨u, g, (hW.block _ (by omega)).symm.trans hu, hg, hle⟩⟩)
      (fun A B T vs hk ⟨s1, s2⟩ ⟨cur, h1, h2⟩ => by obtain ⟨k1, k2⟩ := hk T _ s1 s2 h1 rfl; exact ⟨⟨cur, k1, h2⟩, s1, k2⟩)) kq_t (kq_b (by omega)) (Below.refl _ _) (fun _ => rfl)
    (fun pre W => (∃ v, Boxed W w2.heap.size 34 v ∧ W.ownsRow w2.heap.size 3 1 v pre.length ((pre.map (fun x : In q => wtI wt x.1)).map (Value.int .i64)) ∧ True) ∧ Below w2.heap.size w2 W)
    (fun c pre W => False)
    (OwnFrom.and (Own.from (holdsRow_own w2.heap.size w2.heap.size 34 3 1 (fun pre : List (In q) => pre.length) (fun pre => (pre.map (fun x : In q => wtI wt x.1)).map (Value.int .i64)) (fun _ _ => True)) _) (ownFrom_below (Nat.le_refl _) (by omega)))
    (fun c => Own.from (fun _ A B row hs hg hr => hs) _)
    ⟨⟨_, bx3, World.ownsRow_nil _ _ _ _, trivial⟩, hB4⟩ ?a1 ?assign ?body ?done ?stop
  case assign =>
    intro l x W K hK
    gi_wp2
    exact hK
  case body =>
    rintro l pre x W ⟨⟨v, hv, hrow0, _⟩, hB⟩ hlt2
    have hB5 : w2.heap.size + 1 ≤ W.heap.size := by
      have h2 := hv.lt
      omega
    have hvv : ∃ a c, v = .slice a pre.length c := by
      rcases hrow0.2 with ⟨rfl, h0⟩ | ⟨g, cap, cur, rfl, _⟩
      · exact ⟨none, 0, by rw [h0]⟩
      · exact ⟨_, cap, rfl⟩
    have hx := hlt x.1 x.2
    have hx' : ((x.1 : Nat) : Int) < (n : Int) := by omega
    obtain ⟨base, hb1, hb2', hrow, hbs⟩ := rebase hrow0 (by omega)
    obtain ⟨sa, sc, rfl⟩ := hvv
    have hvd : Boxed W.drew w2.heap.size 34 (.slice sa pre.length sc) := hv
    have hrow0d : W.drew.ownsRow w2.heap.size 3 1 (.slice sa pre.length sc) pre.length ((pre.map (fun x : In q => wtI wt x.1)).map (Value.int .i64)) := hrow0
    have hrowd : W.drew.ownsRow base 3 1 (.slice sa pre.length sc) pre.length ((pre.map (fun x : In q => wtI wt x.1)).map (Value.int .i64)) := hrow
    have d2 : W.drew.cell? ⟨w2.heap.size, 0, none⟩ = some (.slice sa pre.length sc) := hvd.cell
    have g3 := KS2 _ hB.drew x
    have hlen : pre.length ≤ 4096 := by
      have : q.attach.length = q.length := by simp
      omega
    have hzd : W.drew.heap.size = W.heap.size := rfl
    have KB : ∀ Y, Below w2.heap.size w2 Y → Y.cell? ⟨w2.heap.size, 0, none⟩ = some (.slice sa pre.length sc) → Y.cell? ⟨w2.heap.size, 0, none⟩ = some (.slice sa pre.length sc) ∧ Y.cell? ⟨w.heap.size, 0, none⟩ = some (.pointer (some ⟨B, 0, none⟩)) ∧ Y.cell? ⟨B, 2, none⟩ = some (.slice (some ⟨j, 0, none⟩) n cj) ∧ Y.cell? ⟨j, x.1, none⟩ = some (.int .i64 (wtI wt x.1)) := fun Y hY h => ⟨h, KS2 Y hY x⟩
    have hS := KB _ hB.drew d2
    have bT : Below w2.heap.size w2 (W.drew.alloc (.cells #[.int .i64 (wtI wt x.1)] 3)) := hB.drew.alloc (by omega) _
    have dT : (W.drew.alloc (.cells #[.int .i64 (wtI wt x.1)] 3)).cell? ⟨w2.heap.size, 0, none⟩ = some (.slice sa pre.length sc) := (hvd.alloc _).cell
    gi_wp2_with fail
    refine wpIn_region_K 10 (fun Y => Y.cell? ⟨w2.heap.size, 0, none⟩ = some (.slice sa pre.length sc) ∧ Y.cell? ⟨w.heap.size, 0, none⟩ = some (.pointer (some ⟨B, 0, none⟩)) ∧ Y.cell? ⟨B, 2, none⟩ = some (.slice (some ⟨j, 0, none⟩) n cj) ∧ Y.cell? ⟨j, x.1, none⟩ = some (.int .i64 (wtI wt x.1))) hmx (by kernel_rfl) (by kernel_rfl) hS (fun hHeld hdep => ?_)
    refine wpAnyK_take (i := 0) (v := ?_) (some 21) rfl rfl hdep (by kernel_rfl) (fun _ _ _ h => h) (Or.inl ⟨by rfl, ?_⟩) hS ?_
    rotate_left
    · (intro w hSw; go_simp; all_goals with_reducible rfl)
    try simp only [Act.put, List.setIfInBounds_toArray, List.set_cons_zero, List.set_cons_succ]
    refine wpAnyK_take (i := 1) (v := ?_) (some 22) rfl rfl hdep (by kernel_rfl) (fun _ _ _ h => h) (Or.inl ⟨by rfl, ?_⟩) hS ?_
    rotate_left
    · (intro w hSw; go_simp; all_goals with_reducible rfl)
    try simp only [Act.put, List.setIfInBounds_toArray, List.set_cons_zero, List.set_cons_succ]
    refine wpAnyK_take (i := 2) (v := ?_) (some 23) rfl rfl hdep (by kernel_rfl) (fun _ _ _ h => h) (Or.inl ⟨by rfl, ?_⟩) hS ?_
    rotate_left
    · (intro w hSw; go_simp; all_goals with_reducible rfl)
    try simp only [Act.put, List.setIfInBounds_toArray, List.set_cons_zero, List.set_cons_succ]
    refine wpAnyK_take (i := 3) (v := ?_) (some 24) rfl rfl hdep (by kernel_rfl) (fun _ _ _ h => h) (Or.inl ⟨by rfl, ?_⟩) hS ?_
    rotate_left
    · (intro w hSw; go_simp; all_goals with_reducible rfl)
    try simp only [Act.put, List.setIfInBounds_toArray, List.set_cons_zero, List.set_cons_succ]
    refine wpAnyK_take (i := 4) (v := ?_) (some 25) rfl rfl hdep (by kernel_rfl) (fun _ _ _ h => h) (Or.inl ⟨by rfl, ?_⟩) hS ?_
    rotate_left
    · (intro w hSw; go_simp; all_goals with_reducible rfl)
    try simp only [Act.put, List.setIfInBounds_toArray, List.set_cons_zero, List.set_cons_succ]
    refine wpAnyK_take (i := 5) (v := ?_) (some 26) rfl rfl hdep (by kernel_rfl) (fun _ _ _ h => h) (Or.inl ⟨by rfl, ?_⟩) hS ?_
    rotate_left
    · (intro w hSw; go_simp; all_goals with_reducible rfl)
    try simp only [Act.put, List.setIfInBounds_toArray, List.set_cons_zero, List.set_cons_succ]
    refine wpAnyK_take (i := 6) (v := ?_) (some 27) rfl rfl hdep (by kernel_rfl) (fun _ _ _ h => h) (Or.inl ⟨by rfl, ?_⟩) hS ?_
    rotate_left
    · (intro w hSw; go_simp; all_goals with_reducible rfl)
    try simp only [Act.put, List.setIfInBounds_toArray, List.set_cons_zero, List.set_cons_succ]
    refine wpAnyK_take (i := 7) (v := ?_) (some 28) rfl rfl hdep (by kernel_rfl) (fun _ _ _ h => h) (Or.inl ⟨by rfl, ?_⟩) hS ?_
    rotate_left
    · (intro w hSw; go_simp; all_goals with_reducible rfl)
    try simp only [Act.put, List.setIfInBounds_toArray, List.set_cons_zero, List.set_cons_succ]
    refine wpAnyK_one (i := 8) (by kernel_rfl) rfl (fun K hK => ?_)
    go_simp
    refine hK.out _ _ (fun _ => KB _ bT dT) ?_
    clear hK K
    try simp only [Act.put, List.setIfInBounds_toArray, List.set_cons_zero, List.set_cons_succ]
    refine wpAnyK_one (i := 9) (by kernel_rfl) rfl (fun K hK => ?_)
    refine step_app rfl (.tmp 21) (.tmp 29) rfl base _ pre.length (pre.map (fun x : In q => wtI wt x.1)) rfl (hrowd.alloc _) _ 1 1 [wtI wt x.1] rfl rfl (reads_one _ _) (by omega) (by simp; omega) ?_
    intro v3 w3 hown3 hgrow3
    obtain ⟨g4, cap4, rfl⟩ := ownsRow_succ hown3
    obtain ⟨hv1, hv2, hr2, hk2, hb2⟩ := hvd.appended (by decide) hrow0d (by omega) (Nat.le_refl _) (row_lower hown3 hb1) hgrow3
    have hkq := kq_append hvd hrowd hbs hown3 hgrow3
    have hc1 := hv1.cell
    have hf1 := hv1.frozen
    have b3 := ((But.of_below (S := []) bT).grown hgrow3 (fun k e => (World.ownsRow.lt hrow0d k e).1)).to_below
    refine hK.out _ _ (fun _ => KB _ b3 hc1) ?_
    clear hK K
    try simp only [Act.put, List.setIfInBounds_toArray, List.set_cons_zero, List.set_cons_succ]
    refine wpAnyK_one (i := 10) (by kernel_rfl) rfl (fun K hK => ?_)
    go_simp
    refine hK.out _ _ (fun h => absurd rfl h) ?_
    clear hK K
    try simp only [Act.put, List.setIfInBounds_toArray, List.set_cons_zero, List.set_cons_succ]
    refine wpAnyK_done (by kernel_rfl) ?_
    dsimp only [NQ]
    gi_wp2_with fail
    have hk2' : KeepsOthers W _ := ⟨hk2.size, hk2.same⟩
    have hkq' : Kq w2.heap.size W _ := hkq
    refine ⟨hk2'.from _, hkq', ⟨_, hv2, ?_, trivial⟩, hB.drew.trans hb2⟩
    rw [List.length_append, List.map_append]
    exact hr2
  case done =>
    rintro D ys W hD rfl ⟨⟨v, hv, hrow, _⟩, hB⟩ hK
    have d2 := hv.cell
    go_wp2_with fail
    refine ⟨by simp, .inl ⟨_, _, rfl, run_takeDeferred hK, ?_⟩⟩
    refine ⟨v, by simp [results, Try.f19, go_sem], v, rfl, ?_, ?_⟩
    · have hz : (q.attach.map (fun x : In q => wtI wt x.1)) = q.map (wtI wt) := by
        conv => rhs; rw [← hat, List.map_map]
        rfl
      unfold RowI
      rw [← hq, ← hz, List.length_map]
      exact row_lower (ownsRow_putObj hrow _ hK rfl) b12.size
    · exact b12.to_below.trans ((hB.trans (belowK_b (w := w2) (Nat.le_refl _) W D _ _ (by omega) hK rfl rfl)).mono b12.size)
  case stop =>
    rintro D c pre W hD hpre h hK
    exact h.elim
end
end Go.Proofs.Ytmbpmcgppnanpaa.Jl
