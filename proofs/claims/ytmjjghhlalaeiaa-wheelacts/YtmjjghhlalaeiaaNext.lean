/- Contract of the wheel's Next. -/
import Derived.Test.YtmjjghhlalaeiaaNextM
import Derived.Test.YtmjjghhlalaeiaaWall
namespace Go.Proofs.Ytmjjghhlalaeiaa
open Go.RowKit Go.Shelf
attribute [local go_sem] Oper.semAt_some

section
variable {w : World} {T : Wp} {N n : Nat} {wh : List Nat} {us : List Int} {ls : List (List Nat)}

/-- What Next's loop keeps. -/
def NxB (w : World) (T : Wp) (W : World) : Prop := Boxed W w.heap.size 24 (.pointer (some ⟨T.B, 0, none⟩)) ∧ Below w.heap.size w W ∧ w.heap.size + 2 < W.heap.size
def NxI (w : World) (T : Wp) (ls : List (List Nat)) (pre : List Nat) (W : World) : Prop := catL ls pre = [] ∧ Boxed W (w.heap.size + 1) 3 (.int .i64 0) ∧ Boxed W (w.heap.size + 2) 4 (.bool false) ∧ NxB w T W
def NxS (w : World) (T : Wp) (us : List Int) (ls : List (List Nat)) (c : Code) (pre : List Nat) (W : World) : Prop := c = .ret ∧ ∃ p x t, pre = p ++ [x] ∧ catL ls p = [] ∧ t ∈ ls.getD x [] ∧ (∀ z ∈ ls.getD x [], us.getD t 0 ≤ us.getD z 0) ∧ Boxed W (w.heap.size + 1) 3 (.int .i64 (us.getD t 0)) ∧ Boxed W (w.heap.size + 2) 4 (.bool true) ∧ NxB w T W

theorem box_row {m A B : World} {k : Nat} {t : TypeId} {v : Value} {row : Option Nat} (q : Boxed A k t v) (hk : k < m.heap.size) (hg : A.grownBy B row) (hr : ∀ r, row = some r → m.heap.size ≤ r) : Boxed B k t v :=
  (hg.block _ (Array.getElem?_eq_some_iff.1 q).1 (fun e => by have := hr k e.symm; omega)).trans q
theorem nxb_row {m A B : World} {row : Option Nat} (q : NxB w T A) (hk : w.heap.size + 2 < m.heap.size) (hg : A.grownBy B row) (hr : ∀ r, row = some r → m.heap.size ≤ r) : NxB w T B := by
  obtain ⟨q1, q2, q3⟩ := q
  have hb := grown_but hg
  exact ⟨box_row q1 (by omega) hg hr, ⟨hb.os.trans q2.os, hb.tape.trans q2.tape, hb.output.trans q2.output, Nat.le_trans q2.size hb.size, fun k hk' => (hg.block k (Nat.lt_of_lt_of_le hk' q2.size) (fun e => by have := hr k e.symm; omega)).trans (q2.block k hk')⟩, Nat.lt_of_lt_of_le q3 hg.size⟩

set_option maxRecDepth 100000 in
set_option maxHeartbeats 8000000 in
theorem next_in (hm : WM w T N n us ls) (hp : WP N n wh us ls (fun u i => i = rowN n u) []) (hf : ∀ t, wt wh t ≠ 0 → n < wt wh t) (hT : Tm n) :
    CallsIn Fence.wide 5 Try.prog 15 #[.pointer (some ⟨T.B, 0, none⟩)] w fun e w' => e = .returned (.tuple #[.int .i64 (nextN wh : Nat), .bool (decide (nextN wh ≠ 0))]) ∧ Below w.heap.size w w' := by
  have hB0 : Below w.heap.size w (w.alloc (.cells #[.pointer (some ⟨T.B, 0, none⟩)] 24)) := (Below.refl _ w).alloc (Nat.le_refl _) _
  refine callsIn_of_wp_marks Try.func15 rfl trivial ?_ rfl
  simp only [Try.ntmps15, List.size_toArray, List.length_cons, List.length_nil, Nat.reduceAdd, Nat.reduceSub, Array.replicate_succ, Array.replicate_zero, List.push_toArray, List.append_toArray, List.nil_append, List.cons_append]
  refine wpIn_wide.2 ?_
  have hB1 : Below w.heap.size w (((w.alloc (.cells #[.pointer (some ⟨T.B, 0, none⟩)] 24)).alloc (.cells #[.int .i64 0] 3)).alloc (.cells #[.bool false] 4)) := (hB0.alloc hB0.size _).alloc (hB0.alloc hB0.size _).size _
  have HM := wmade_any (hm.below hB1)
  have HI := inTurn_any (hm.below hB1) hT
  have x0 : Boxed (((w.alloc (.cells #[.pointer (some ⟨T.B, 0, none⟩)] 24)).alloc (.cells #[.int .i64 0] 3)).alloc (.cells #[.bool false] 4)) w.heap.size 24 (.pointer (some ⟨T.B, 0, none⟩)) := ((Boxed.new w 24 _).alloc _).alloc _
  have x1 : Boxed (((w.alloc (.cells #[.pointer (some ⟨T.B, 0, none⟩)] 24)).alloc (.cells #[.int .i64 0] 3)).alloc (.cells #[.bool false] 4)) (w.heap.size + 1) 3 (.int .i64 0) := by
    have := Boxed.new (w.alloc (.cells #[.pointer (some ⟨T.B, 0, none⟩)] 24)) 3 (.int .i64 0)
    rw [World.size_alloc] at this
    exact this.alloc _
  have x2 : Boxed (((w.alloc (.cells #[.pointer (some ⟨T.B, 0, none⟩)] 24)).alloc (.cells #[.int .i64 0] 3)).alloc (.cells #[.bool false] 4)) (w.heap.size + 2) 4 (.bool false) := by
    have := Boxed.new ((w.alloc (.cells #[.pointer (some ⟨T.B, 0, none⟩)] 24)).alloc (.cells #[.int .i64 0] 3)) 4 (.bool false)
    rw [World.size_alloc, World.size_alloc] at this
    exact this
  have x0c := x0.cell
  go_wp2_with (first
    | (go_at_call 31; refine HM.mono ?_; rintro e w' ⟨rfl, hw⟩; subst w')
    | (go_at_call 32; refine HI.mono ?_; rintro e w2 ⟨X1, X2, rfl, hG, hx1, hx2, b2⟩))
  have hB2 := hB1.trans (b2.mono hB1.size)
  have hsz1 : (((w.alloc (.cells #[.pointer (some ⟨T.B, 0, none⟩)] 24)).alloc (.cells #[.int .i64 0] 3)).alloc (.cells #[.bool false] 4)).heap.size = w.heap.size + 3 := by simp
  have y0 : Boxed w2 w.heap.size 24 (.pointer (some ⟨T.B, 0, none⟩)) := (b2.block _ (by rw [hsz1]; omega)).trans x0
  have y1 : Boxed w2 (w.heap.size + 1) 3 (.int .i64 0) := (b2.block _ (by rw [hsz1]; omega)).trans x1
  have y2 : Boxed w2 (w.heap.size + 2) 4 (.bool false) := (b2.block _ (by rw [hsz1]; omega)).trans x2
  have hs2 : w.heap.size + 2 < w2.heap.size := by have := b2.size; rw [hsz1] at this; omega
  have hm2 := hm.below hB2
  clear x0 x1 x2 x0c HI HM b2 hB1 hB0 hx1 hx2 hsz1
  refine (wpIn_wide (n := 5)).1 ?_
  refine wpIn_rangeFunc_ownG rfl (by omega) (gf := 50) (lb := #[.pointer (some ⟨X1, 0, none⟩), .pointer (some ⟨X2, 0, none⟩)]) rfl trivial (enters_of Try.func50 (by kernel_rfl) rfl)
    (turn_stops (5 - 1) (by omega) T N n X1 X2 us ls w2 hm2 hT hG) ka_t (ka_b (w := w2)) (Below.refl _ _) (fun _ => rfl)
    (NxI w T ls) (NxS w T us ls)
    (fun pre A B row ⟨q1, q2, q3, q4⟩ hg hr => ⟨q1, box_row (m := w2) q2 (by omega) hg (fun r e => (hr r e).1), box_row (m := w2) q3 (by omega) hg (fun r e => (hr r e).1), nxb_row (m := w2) q4 hs2 hg (fun r e => (hr r e).1)⟩)
    (fun c pre A B row ⟨q0, p, x, t, q1, q2, q3, q4, q5, q6, q7⟩ hg hr => ⟨q0, p, x, t, q1, q2, q3, q4, box_row (m := w2) q5 (by omega) hg (fun r e => (hr r e).1), box_row (m := w2) q6 (by omega) hg (fun r e => (hr r e).1), nxb_row (m := w2) q7 hs2 hg (fun r e => (hr r e).1)⟩)
    ⟨rfl, y1, y2, y0, hB2, hs2⟩ ?a1 ?assign ?body ?done ?stop
  case assign =>
    intro l x W K hK
    gi_wp2
    exact hK
  case body =>
    rintro l pre x W ⟨hcat, d1, d2, d0, hB, hsz⟩ hlt
    have hmx : Try.prog.follows .mixedOrders = true := by kernel_rfl
    have hmW := hm.below hB
    obtain ⟨qx, hqx⟩ : ∃ qx, qx = ls.getD x [] := ⟨_, rfl⟩
    have HQ : Hid (qx = ls.getD x []) := hqx
    have h1 : qx.length ≤ 4096 := by rw [hqx]; exact one_len hm x
    have cw := d0.cell
    have HMb := members_any T.B (some ⟨T.P.B, 0, none⟩) (x : Int) _ W hmW.c66 (hmW.l.src (x : Int))
    rw [lsI_nat, ← hqx] at HMb
    clear hqx
    by_cases hq0 : qx.length = 0
    · have hz : ((ints qx).length : Int) = 0 := by rw [ints_len, hq0]; rfl
      gi_wp2_with (refine ⟨trivial, ?_⟩; gi_at_call 34; refine (callsIn_wide.2 HMb).mono ?_; rintro e w3 ⟨u, rfl, r2, b2⟩; obtain ⟨ua, uc, rfl, -⟩ := r2.open')
      have hqn : ls.getD x [] = [] := by rw [← HQ.out]; exact List.length_eq_zero_iff.1 hq0
      have hbl : ∀ {k : Nat} {o : Obj}, W.heap[k]? = some o → w3.heap[k]? = some o := fun {k o} h => (b2.block k (Array.getElem?_eq_some_iff.1 h).1).trans h
      refine ⟨(But.of_below b2).keepsFrom (S := []) (by simp), fun b cur t ht hb => hbl hb, ?_, hbl d1, hbl d2, hbl d0, hB.trans (b2.mono hB.size), Nat.lt_of_lt_of_le hsz b2.size⟩
      rw [catL_snoc, hcat, hqn]
      rfl
    · have hz : (0 : Int) < ((ints qx).length : Int) := by rw [ints_len]; omega
      gi_wp2_with (refine ⟨trivial, ?_⟩; gi_at_call 34; refine (callsIn_wide.2 HMb).mono ?_; rintro e w3 ⟨u, rfl, r2, b2⟩; obtain ⟨ua, uc, rfl, -⟩ := r2.open')
      have hbl : ∀ {k : Nat} {o : Obj}, W.heap[k]? = some o → w3.heap[k]? = some o := fun {k o} h => (b2.block k (Array.getElem?_eq_some_iff.1 h).1).trans h
      have hltN : ∀ t ∈ ls.getD x [], t < N := fun t ht => by
        rcases Nat.lt_or_ge x ls.length with hx | hx
        · exact hm.l.ok.lt x _ (getD_at hx) t ht
        · rw [List.getD_eq_getElem?_getD, List.getElem?_eq_none hx] at ht
          cases ht
      rw [← HQ.out] at hltN
      refine wpIn_region_any hmx (anyRound (by kernel_rfl) ?_)
      change wpAnyIn _ _ _ _ _ _ _ _ _ (World.drew _)
      have bW : Below W.heap.size W w3.drew := b2.drew
      have r1 : RowI w3.drew W.heap.size (.slice ua (ints qx).length uc) (ints qx) := r2
      generalize w3.drew = W1 at bW r1 ⊢
      clear r2 b2 hbl
      have hB1 := hB.trans (bW.mono hB.size)
      have hm1 := hm.below hB1
      have ba : Below W1.heap.size W1 (W1.alloc (.cells #[.pointer (some ⟨T.B, 0, none⟩)] 24)) := (Below.refl _ W1).alloc (Nat.le_refl _) _
      have ra := r1.below ba
      have bWa := bW.trans (ba.mono bW.size)
      have hma := hm1.below ba
      have hne := hm.b.lt
      have hgl := hm.g.lt
      have hBs := hB.size
      have OA := order_any (some ⟨T.B, 0, none⟩) W1
      have nX : (Value.slice ua (ints qx).length uc).ownBlock ≠ some W1.heap.size := fun e => by have := (r1.lt _ e).2; omega
      have nS : ∀ k, k < w.heap.size → (Value.slice ua (ints qx).length uc).ownBlock ≠ some k := fun k hk e => by have := (r1.lt _ e).1; omega
      have MF := minf_row (X := W1.heap.size) (ut := fun t => us.getD t 0) ra hm.sizes.1 hltN h1 (by omega) (by simp [go_sem]) hma.c1 (fun t ht => hma.xu (by rw [List.getD_eq_getElem?_getD, List.getElem?_eq_getElem (by rw [hm.ul]; exact ht)]; rfl)) nX (nS _ hne) (nS _ hgl)
      have b4 : ∀ w4, (W1.alloc (.cells #[.pointer (some ⟨T.B, 0, none⟩)] 24)).grownBy w4 (Value.slice ua (ints qx).length uc).ownBlock → Below W.heap.size W w4 := fun w4 hg => bWa.grown hg bWa.size (fun k e => (r1.lt k e).1)
      have hk4 : ∀ w4, Below W.heap.size W w4 → ∀ {k : Nat} {o : Obj}, W.heap[k]? = some o → w4.heap[k]? = some o := fun w4 b4 {k o} h => (b4.block k (Array.getElem?_eq_some_iff.1 h).1).trans h
      have HK : ∀ w4, (W1.alloc (.cells #[.pointer (some ⟨T.B, 0, none⟩)] 24)).grownBy w4 (Value.slice ua (ints qx).length uc).ownBlock → w4.cell? ⟨w.heap.size, 0, none⟩ = some (.pointer (some ⟨T.B, 0, none⟩)) ∧ w4.cell? ⟨w.heap.size + 1, 0, none⟩ = some (.int .i64 0) ∧ w4.frozen? ⟨w.heap.size + 1, 0, none⟩ = false ∧ w4.cell? ⟨T.B, 1, none⟩ = some (.slice (some ⟨T.G, 0, none⟩) N T.c) ∧ (∀ v, (w4.setCell ⟨w.heap.size + 1, 0, none⟩ v).cell? ⟨w.heap.size + 2, 0, none⟩ = some (.bool false)) ∧ (∀ v, (w4.setCell ⟨w.heap.size + 1, 0, none⟩ v).frozen? ⟨w.heap.size + 2, 0, none⟩ = false) ∧ ∀ t ∈ qx, w4.cell? ⟨T.G, t, none⟩ = some (.int .i64 (us.getD t 0)) := fun w4 hg => by
        have b := b4 w4 hg
        have e0 : Boxed w4 w.heap.size 24 (.pointer (some ⟨T.B, 0, none⟩)) := hk4 w4 b d0
        have e1 : Boxed w4 (w.heap.size + 1) 3 (.int .i64 0) := hk4 w4 b d1
        have e2 : ∀ v, Boxed (w4.setCell ⟨w.heap.size + 1, 0, none⟩ v) (w.heap.size + 2) 4 (.bool false) := fun v => (Below.heap_setCell _ _ _ _ (by show w.heap.size + 2 ≠ w.heap.size + 1; omega)).trans (hk4 w4 b d2)
        have h4 := hm.below (hB.trans (b.mono hB.size))
        exact ⟨e0.cell, e1.cell, e1.frozen, h4.c1, fun v => (e2 v).cell, fun v => (e2 v).frozen, fun t ht => h4.xu (by rw [List.getD_eq_getElem?_getD, List.getElem?_eq_getElem (by rw [hm.ul]; exact hltN t ht)]; rfl)⟩
      have HF : ∀ (t : Nat) w4, t ∈ qx → (∀ z ∈ qx, us.getD t 0 ≤ us.getD z 0) → (W1.alloc (.cells #[.pointer (some ⟨T.B, 0, none⟩)] 24)).grownBy w4 (Value.slice ua (ints qx).length uc).ownBlock → KeepsFrom w2.heap.size W ((w4.setCell ⟨w.heap.size + 1, 0, none⟩ (.int .i64 (us.getD t 0))).setCell ⟨w.heap.size + 2, 0, none⟩ (.bool true)) ∧ NxS w T us ls .ret (pre ++ [x]) ((w4.setCell ⟨w.heap.size + 1, 0, none⟩ (.int .i64 (us.getD t 0))).setCell ⟨w.heap.size + 2, 0, none⟩ (.bool true)) := fun t w4 ht hmin hg => by
        have b := b4 w4 hg
        have e0 : Boxed w4 w.heap.size 24 (.pointer (some ⟨T.B, 0, none⟩)) := hk4 w4 b d0
        have e1 : Boxed w4 (w.heap.size + 1) 3 (.int .i64 0) := hk4 w4 b d1
        have e2 : Boxed w4 (w.heap.size + 2) 4 (.bool false) := hk4 w4 b d2
        have s1 := e1.set (.int .i64 (us.getD t 0))
        have s2 : Boxed (w4.setCell ⟨w.heap.size + 1, 0, none⟩ (.int .i64 (us.getD t 0))) (w.heap.size + 2) 4 (.bool false) := (Below.heap_setCell _ _ _ _ (by show w.heap.size + 2 ≠ w.heap.size + 1; omega)).trans e2
        have s0 : Boxed (w4.setCell ⟨w.heap.size + 1, 0, none⟩ (.int .i64 (us.getD t 0))) w.heap.size 24 (.pointer (some ⟨T.B, 0, none⟩)) := (Below.heap_setCell _ _ _ _ (by show w.heap.size ≠ w.heap.size + 1; omega)).trans e0
        have bb : But [w.heap.size + 1, w.heap.size + 2] W ((w4.setCell ⟨w.heap.size + 1, 0, none⟩ (.int .i64 (us.getD t 0))).setCell ⟨w.heap.size + 2, 0, none⟩ (.bool true)) := ((But.of_below b).set (p := ⟨w.heap.size + 1, 0, none⟩) (by simp) _).set (p := ⟨w.heap.size + 2, 0, none⟩) (by simp) _
        refine ⟨bb.keepsFrom (fun y hy => by simp at hy; omega), rfl, pre, x, t, rfl, hcat, by rw [← HQ.out]; exact ht, by rw [← HQ.out]; exact hmin, (Below.heap_setCell _ _ _ _ (by show w.heap.size + 1 ≠ w.heap.size + 2; omega)).trans s1, s2.set _, (Below.heap_setCell _ _ _ _ (by show w.heap.size ≠ w.heap.size + 2; omega)).trans s0, ((hB.trans (b.mono hB.size)).setCell (p := ⟨w.heap.size + 1, 0, none⟩) (by simp) _).setCell (p := ⟨w.heap.size + 2, 0, none⟩) (by simp) _, ?_⟩
        exact Nat.lt_of_lt_of_le hsz bb.size
      have cw1 : W1.cell? ⟨w.heap.size, 0, none⟩ = some (.pointer (some ⟨T.B, 0, none⟩)) := (show Boxed W1 w.heap.size 24 _ from hk4 W1 bW d0).cell
      have cwa : (W1.alloc (.cells #[.pointer (some ⟨T.B, 0, none⟩)] 24)).cell? ⟨w.heap.size, 0, none⟩ = some (.pointer (some ⟨T.B, 0, none⟩)) := (show Boxed (W1.alloc (.cells #[.pointer (some ⟨T.B, 0, none⟩)] 24)) w.heap.size 24 _ from hk4 _ bWa d0).cell
      have cb1 := hm1.c1
      have cba := hma.c1
      have hq := hltN
      clear cw hmW HMb hma hm1 ra r1 ba hk4 b4 nX nS
      refine wpAnyIn_take (i := 4) (v := .slice ua (ints qx).length uc) rfl rfl (by kernel_rfl) (by kernel_rfl) (by kernel_rfl) (fun _ _ _ h => h) ⟨Or.inl ⟨rfl, fun w => by go_simp⟩, fun _ => rfl⟩ ?_
      refine wpAnyIn_ready (rs := [0, 5]) (by kernel_rfl) (by simp) ?_
      refine AllReadyIn.cons rfl (fun K hK => ?_) (AllReadyIn.cons rfl (fun K hK => ?_) AllReadyIn.nil)
      · go_simp
        refine hK _ _ ?_
        clear hK K
        refine wpAnyIn_take (i := 1) (v := .pointer (some ⟨T.B, 0, none⟩)) rfl rfl (by kernel_rfl) (by kernel_rfl) (by kernel_rfl) (fun _ _ _ h => h) ⟨Or.inl ⟨rfl, fun w => by go_simp⟩, fun _ => rfl⟩ ?_
        refine wpAnyIn_take (i := 2) (v := .pointer (some ⟨T.B, 1, none⟩)) rfl rfl (by kernel_rfl) (by kernel_rfl) (by kernel_rfl) (fun _ _ _ h => h) ⟨Or.inl ⟨rfl, fun w => by go_simp⟩, fun _ => rfl⟩ ?_
        refine wpAnyIn_ready (rs := [3, 5]) (by kernel_rfl) (by simp) ?_
        refine AllReadyIn.cons rfl (fun K hK => ?_) (AllReadyIn.cons rfl (fun K hK => ?_) AllReadyIn.nil)
        · go_simp
          refine hK _ _ ?_
          clear hK K
          refine wpAnyIn_drop 5 rfl (by kernel_rfl) ?_
          show wpListIn _ _ _ _ _ [_, _, _, _, _, _, _] _ _
          gi_wp2_with (first | (refine ⟨trivial, ?_⟩; gi_at_call 36; refine (callsIn_wide.2 OA).mono ?_; rintro e w3 ⟨rfl, hw3⟩; subst w3) | (refine ⟨trivial, ?_⟩; gi_at_call 35; refine (callsIn_wide.2 MF).mono ?_; rintro e w4 ⟨t, rfl, ht, hmin, hg⟩; obtain ⟨k0, k1, kf1, k3, k2, kf2, k5⟩ := HK w4 hg; have k6 := k5 t ht; have k2' := k2 (.int .i64 (us.getD t 0)); have kf2' := kf2 (.int .i64 (us.getD t 0)); have ht0 : (0 : Int) ≤ (t : Int) := Int.natCast_nonneg t; have htN : (t : Int) < (N : Int) := Int.ofNat_lt.2 (hq t ht)))
          exact HF t w4 ht hmin hg
        · go_simp
          refine hK _ _ ?_
          clear hK K
          refine wpAnyIn_ready (rs := [3, 6]) (by kernel_rfl) (by simp) ?_
          refine AllReadyIn.cons rfl (fun K hK => ?_) (AllReadyIn.cons rfl (fun K hK => ?_) AllReadyIn.nil)
          · go_simp
            refine hK _ _ ?_
            clear hK K
            refine wpAnyIn_drop 6 rfl (by kernel_rfl) ?_
            show wpListIn _ _ _ _ _ [_, _, _, _, _, _] _ _
            gi_wp2_with (first | (refine ⟨trivial, ?_⟩; gi_at_call 36; refine (callsIn_wide.2 OA).mono ?_; rintro e w3 ⟨rfl, hw3⟩; subst w3) | (refine ⟨trivial, ?_⟩; gi_at_call 35; refine (callsIn_wide.2 MF).mono ?_; rintro e w4 ⟨t, rfl, ht, hmin, hg⟩; obtain ⟨k0, k1, kf1, k3, k2, kf2, k5⟩ := HK w4 hg; have k6 := k5 t ht; have k2' := k2 (.int .i64 (us.getD t 0)); have kf2' := kf2 (.int .i64 (us.getD t 0)); have ht0 : (0 : Int) ≤ (t : Int) := Int.natCast_nonneg t; have htN : (t : Int) < (N : Int) := Int.ofNat_lt.2 (hq t ht)))
            exact HF t w4 ht hmin hg
          · go_simp
            refine ⟨trivial, (callsIn_wide.2 OA).mono ?_⟩
            rintro e w3 ⟨rfl, hw3⟩
            subst w3
            refine hK _ _ ?_
            clear hK K
            refine wpAnyIn_ready (rs := [3, 7]) (by kernel_rfl) (by simp) ?_
            refine AllReadyIn.cons rfl (fun K hK => ?_) (AllReadyIn.cons rfl (fun K hK => ?_) AllReadyIn.nil)
            · go_simp
              refine hK _ _ ?_
              clear hK K
              refine wpAnyIn_drop 7 rfl (by kernel_rfl) ?_
              show wpListIn _ _ _ _ _ [_, _, _, _, _] _ _
              gi_wp2_with (first | (refine ⟨trivial, ?_⟩; gi_at_call 35; refine (callsIn_wide.2 MF).mono ?_; rintro e w4 ⟨t, rfl, ht, hmin, hg⟩; obtain ⟨k0, k1, kf1, k3, k2, kf2, k5⟩ := HK w4 hg; have k6 := k5 t ht; have k2' := k2 (.int .i64 (us.getD t 0)); have kf2' := kf2 (.int .i64 (us.getD t 0)); have ht0 : (0 : Int) ≤ (t : Int) := Int.natCast_nonneg t; have htN : (t : Int) < (N : Int) := Int.ofNat_lt.2 (hq t ht)))
              exact HF t w4 ht hmin hg
            · go_simp
              refine ⟨trivial, (callsIn_wide.2 MF).mono ?_⟩
              rintro e w4 ⟨t, rfl, ht, hmin, hg⟩
              obtain ⟨k0, k1, kf1, k3, k2, kf2, k5⟩ := HK w4 hg
              have k6 := k5 t ht
              have k2' := k2 (.int .i64 (us.getD t 0))
              have kf2' := kf2 (.int .i64 (us.getD t 0))
              have ht0 : (0 : Int) ≤ (t : Int) := Int.natCast_nonneg t
              have htN : (t : Int) < (N : Int) := Int.ofNat_lt.2 (hq t ht)
              refine hK _ _ ?_
              clear hK K
              refine wpAnyIn_ready (rs := [3]) (by kernel_rfl) (by simp) ?_
              refine AllReadyIn.cons rfl (fun K hK => ?_) AllReadyIn.nil
              go_simp
              refine hK _ _ ?_
              clear hK K
              refine wpAnyIn_drop 8 rfl (by kernel_rfl) ?_
              show wpListIn _ _ _ _ _ [_, _, _, _] _ _
              gi_wp2_with fail
              exact HF t w4 ht hmin hg
      · go_simp
        refine hK _ _ ?_
        clear hK K
        refine wpAnyIn_ready (rs := [0, 6]) (by kernel_rfl) (by simp) ?_
        refine AllReadyIn.cons rfl (fun K hK => ?_) (AllReadyIn.cons rfl (fun K hK => ?_) AllReadyIn.nil)
        · go_simp
          refine hK _ _ ?_
          clear hK K
          refine wpAnyIn_take (i := 1) (v := .pointer (some ⟨T.B, 0, none⟩)) rfl rfl (by kernel_rfl) (by kernel_rfl) (by kernel_rfl) (fun _ _ _ h => h) ⟨Or.inl ⟨rfl, fun w => by go_simp⟩, fun _ => rfl⟩ ?_
          refine wpAnyIn_take (i := 2) (v := .pointer (some ⟨T.B, 1, none⟩)) rfl rfl (by kernel_rfl) (by kernel_rfl) (by kernel_rfl) (fun _ _ _ h => h) ⟨Or.inl ⟨rfl, fun w => by go_simp⟩, fun _ => rfl⟩ ?_
          refine wpAnyIn_ready (rs := [3, 6]) (by kernel_rfl) (by simp) ?_
          refine AllReadyIn.cons rfl (fun K hK => ?_) (AllReadyIn.cons rfl (fun K hK => ?_) AllReadyIn.nil)
          · go_simp
            refine hK _ _ ?_
            clear hK K
            refine wpAnyIn_drop 6 rfl (by kernel_rfl) ?_
            show wpListIn _ _ _ _ _ [_, _, _, _, _, _] _ _
            gi_wp2_with (first | (refine ⟨trivial, ?_⟩; gi_at_call 36; refine (callsIn_wide.2 OA).mono ?_; rintro e w3 ⟨rfl, hw3⟩; subst w3) | (refine ⟨trivial, ?_⟩; gi_at_call 35; refine (callsIn_wide.2 MF).mono ?_; rintro e w4 ⟨t, rfl, ht, hmin, hg⟩; obtain ⟨k0, k1, kf1, k3, k2, kf2, k5⟩ := HK w4 hg; have k6 := k5 t ht; have k2' := k2 (.int .i64 (us.getD t 0)); have kf2' := kf2 (.int .i64 (us.getD t 0)); have ht0 : (0 : Int) ≤ (t : Int) := Int.natCast_nonneg t; have htN : (t : Int) < (N : Int) := Int.ofNat_lt.2 (hq t ht)))
            exact HF t w4 ht hmin hg
          · go_simp
            refine ⟨trivial, (callsIn_wide.2 OA).mono ?_⟩
            rintro e w3 ⟨rfl, hw3⟩
            subst w3
            refine hK _ _ ?_
            clear hK K
            refine wpAnyIn_ready (rs := [3, 7]) (by kernel_rfl) (by simp) ?_
            refine AllReadyIn.cons rfl (fun K hK => ?_) (AllReadyIn.cons rfl (fun K hK => ?_) AllReadyIn.nil)
            · go_simp
              refine hK _ _ ?_
              clear hK K
              refine wpAnyIn_drop 7 rfl (by kernel_rfl) ?_
              show wpListIn _ _ _ _ _ [_, _, _, _, _] _ _
              gi_wp2_with (first | (refine ⟨trivial, ?_⟩; gi_at_call 35; refine (callsIn_wide.2 MF).mono ?_; rintro e w4 ⟨t, rfl, ht, hmin, hg⟩; obtain ⟨k0, k1, kf1, k3, k2, kf2, k5⟩ := HK w4 hg; have k6 := k5 t ht; have k2' := k2 (.int .i64 (us.getD t 0)); have kf2' := kf2 (.int .i64 (us.getD t 0)); have ht0 : (0 : Int) ≤ (t : Int) := Int.natCast_nonneg t; have htN : (t : Int) < (N : Int) := Int.ofNat_lt.2 (hq t ht)))
              exact HF t w4 ht hmin hg
            · go_simp
              refine ⟨trivial, (callsIn_wide.2 MF).mono ?_⟩
              rintro e w4 ⟨t, rfl, ht, hmin, hg⟩
              obtain ⟨k0, k1, kf1, k3, k2, kf2, k5⟩ := HK w4 hg
              have k6 := k5 t ht
              have k2' := k2 (.int .i64 (us.getD t 0))
              have kf2' := kf2 (.int .i64 (us.getD t 0))
              have ht0 : (0 : Int) ≤ (t : Int) := Int.natCast_nonneg t
              have htN : (t : Int) < (N : Int) := Int.ofNat_lt.2 (hq t ht)
              refine hK _ _ ?_
              clear hK K
              refine wpAnyIn_ready (rs := [3]) (by kernel_rfl) (by simp) ?_
              refine AllReadyIn.cons rfl (fun K hK => ?_) AllReadyIn.nil
              go_simp
              refine hK _ _ ?_
              clear hK K
              refine wpAnyIn_drop 8 rfl (by kernel_rfl) ?_
              show wpListIn _ _ _ _ _ [_, _, _, _] _ _
              gi_wp2_with fail
              exact HF t w4 ht hmin hg
        · go_simp
          refine ⟨trivial, (callsIn_wide.2 OA).mono ?_⟩
          rintro e w3 ⟨rfl, hw3⟩
          subst w3
          refine hK _ _ ?_
          clear hK K
          refine wpAnyIn_ready (rs := [0, 7]) (by kernel_rfl) (by simp) ?_
          refine AllReadyIn.cons rfl (fun K hK => ?_) (AllReadyIn.cons rfl (fun K hK => ?_) AllReadyIn.nil)
          · go_simp
            refine hK _ _ ?_
            clear hK K
            refine wpAnyIn_take (i := 1) (v := .pointer (some ⟨T.B, 0, none⟩)) rfl rfl (by kernel_rfl) (by kernel_rfl) (by kernel_rfl) (fun _ _ _ h => h) ⟨Or.inl ⟨rfl, fun w => by go_simp⟩, fun _ => rfl⟩ ?_
            refine wpAnyIn_take (i := 2) (v := .pointer (some ⟨T.B, 1, none⟩)) rfl rfl (by kernel_rfl) (by kernel_rfl) (by kernel_rfl) (fun _ _ _ h => h) ⟨Or.inl ⟨rfl, fun w => by go_simp⟩, fun _ => rfl⟩ ?_
            refine wpAnyIn_ready (rs := [3, 7]) (by kernel_rfl) (by simp) ?_
            refine AllReadyIn.cons rfl (fun K hK => ?_) (AllReadyIn.cons rfl (fun K hK => ?_) AllReadyIn.nil)
            · go_simp
              refine hK _ _ ?_
              clear hK K
              refine wpAnyIn_drop 7 rfl (by kernel_rfl) ?_
              show wpListIn _ _ _ _ _ [_, _, _, _, _] _ _
              gi_wp2_with (first | (refine ⟨trivial, ?_⟩; gi_at_call 35; refine (callsIn_wide.2 MF).mono ?_; rintro e w4 ⟨t, rfl, ht, hmin, hg⟩; obtain ⟨k0, k1, kf1, k3, k2, kf2, k5⟩ := HK w4 hg; have k6 := k5 t ht; have k2' := k2 (.int .i64 (us.getD t 0)); have kf2' := kf2 (.int .i64 (us.getD t 0)); have ht0 : (0 : Int) ≤ (t : Int) := Int.natCast_nonneg t; have htN : (t : Int) < (N : Int) := Int.ofNat_lt.2 (hq t ht)))
              exact HF t w4 ht hmin hg
            · go_simp
              refine ⟨trivial, (callsIn_wide.2 MF).mono ?_⟩
              rintro e w4 ⟨t, rfl, ht, hmin, hg⟩
              obtain ⟨k0, k1, kf1, k3, k2, kf2, k5⟩ := HK w4 hg
              have k6 := k5 t ht
              have k2' := k2 (.int .i64 (us.getD t 0))
              have kf2' := kf2 (.int .i64 (us.getD t 0))
              have ht0 : (0 : Int) ≤ (t : Int) := Int.natCast_nonneg t
              have htN : (t : Int) < (N : Int) := Int.ofNat_lt.2 (hq t ht)
              refine hK _ _ ?_
              clear hK K
              refine wpAnyIn_ready (rs := [3]) (by kernel_rfl) (by simp) ?_
              refine AllReadyIn.cons rfl (fun K hK => ?_) AllReadyIn.nil
              go_simp
              refine hK _ _ ?_
              clear hK K
              refine wpAnyIn_drop 8 rfl (by kernel_rfl) ?_
              show wpListIn _ _ _ _ _ [_, _, _, _] _ _
              gi_wp2_with fail
              exact HF t w4 ht hmin hg
          · go_simp
            refine ⟨trivial, (callsIn_wide.2 MF).mono ?_⟩
            rintro e w4 ⟨t, rfl, ht, hmin, hg⟩
            obtain ⟨k0, k1, kf1, k3, k2, kf2, k5⟩ := HK w4 hg
            have k6 := k5 t ht
            have k2' := k2 (.int .i64 (us.getD t 0))
            have kf2' := kf2 (.int .i64 (us.getD t 0))
            have ht0 : (0 : Int) ≤ (t : Int) := Int.natCast_nonneg t
            have htN : (t : Int) < (N : Int) := Int.ofNat_lt.2 (hq t ht)
            refine hK _ _ ?_
            clear hK K
            refine wpAnyIn_ready (rs := [0]) (by kernel_rfl) (by simp) ?_
            refine AllReadyIn.cons rfl (fun K hK => ?_) AllReadyIn.nil
            go_simp
            refine hK _ _ ?_
            clear hK K
            refine wpAnyIn_take (i := 1) (v := .pointer (some ⟨T.B, 0, none⟩)) rfl rfl (by kernel_rfl) (by kernel_rfl) (by kernel_rfl) (fun _ _ _ h => h) ⟨Or.inl ⟨rfl, fun w => by go_simp⟩, fun _ => rfl⟩ ?_
            refine wpAnyIn_take (i := 2) (v := .pointer (some ⟨T.B, 1, none⟩)) rfl rfl (by kernel_rfl) (by kernel_rfl) (by kernel_rfl) (fun _ _ _ h => h) ⟨Or.inl ⟨rfl, fun w => by go_simp⟩, fun _ => rfl⟩ ?_
            refine wpAnyIn_ready (rs := [3]) (by kernel_rfl) (by simp) ?_
            refine AllReadyIn.cons rfl (fun K hK => ?_) AllReadyIn.nil
            go_simp
            refine hK _ _ ?_
            clear hK K
            refine wpAnyIn_drop 8 rfl (by kernel_rfl) ?_
            show wpListIn _ _ _ _ _ [_, _, _, _] _ _
            gi_wp2_with fail
            exact HF t w4 ht hmin hg
  case done =>
    rintro D ys W hD rfl ⟨hcat, d1, d2, d0, hB, hsz⟩ hK
    have hnx := next_none hm hp hcat
    have c1 := d1.cell
    have f1 := d1.frozen
    have c2 := d2.cell
    have f2 := d2.frozen
    have s1 : Boxed (W.setCell ⟨w.heap.size + 1, 0, none⟩ (.int .i64 0)) (w.heap.size + 1) 3 (.int .i64 0) := d1.set _
    have s2 : Boxed (W.setCell ⟨w.heap.size + 1, 0, none⟩ (.int .i64 0)) (w.heap.size + 2) 4 (.bool false) := (Below.heap_setCell _ _ _ _ (by show w.heap.size + 2 ≠ w.heap.size + 1; omega)).trans d2
    have t1 : Boxed ((W.setCell ⟨w.heap.size + 1, 0, none⟩ (.int .i64 0)).setCell ⟨w.heap.size + 2, 0, none⟩ (.bool false)) (w.heap.size + 1) 3 (.int .i64 0) := (Below.heap_setCell _ _ _ _ (by show w.heap.size + 1 ≠ w.heap.size + 2; omega)).trans s1
    have t2 : Boxed ((W.setCell ⟨w.heap.size + 1, 0, none⟩ (.int .i64 0)).setCell ⟨w.heap.size + 2, 0, none⟩ (.bool false)) (w.heap.size + 2) 4 (.bool false) := s2.set _
    have hK' := (KeepsOthers.setCell _ ⟨w.heap.size + 2, 0, none⟩ (.bool false)).same D _ ((KeepsOthers.setCell W ⟨w.heap.size + 1, 0, none⟩ (.int .i64 0)).same D _ hK rfl) rfl
    have c2' := s2.cell
    have f2' := s2.frozen
    go_wp2_with fail
    refine ⟨by simp, .inl ⟨_, _, rfl, run_takeDeferred hK', ?_⟩⟩
    have hc5 := cell_kept t1.cell (grownBy_putObj' _ D (.deferred none)) (fun r e => by cases e; exact ⟨_, hK', rfl⟩)
    have hc6 := cell_kept t2.cell (grownBy_putObj' _ D (.deferred none)) (fun r e => by cases e; exact ⟨_, hK', rfl⟩)
    refine ⟨.tuple #[.int .i64 0, .bool false], ?_, by simp [hnx], ((hB.setCell (p := ⟨w.heap.size + 1, 0, none⟩) (by simp) _).setCell (p := ⟨w.heap.size + 2, 0, none⟩) (by simp) _).trans (belowK_b (w := w) (Nat.le_refl _) _ D _ _ (by omega) hK' rfl rfl)⟩
    simp [results, Try.f15, go_sem, hc5, hc6]
  case stop =>
    rintro D c pre W hD hpre ⟨rfl, p, x, t, rfl, q2, q3, q4, q5, q6, q7, q8, q9⟩ hK
    gi_wp2
    refine ⟨by simp, .inl ⟨_, _, rfl, run_takeDeferred hK, ?_⟩⟩
    have hc5 := cell_kept q5.cell (grownBy_putObj' _ D (.deferred none)) (fun r e => by cases e; exact ⟨_, hK, rfl⟩)
    have hc6 := cell_kept q6.cell (grownBy_putObj' _ D (.deferred none)) (fun r e => by cases e; exact ⟨_, hK, rfl⟩)
    obtain ⟨n1, n2⟩ := next_first hm hp hf hpre q2 q3 q4
    refine ⟨.tuple #[.int .i64 (nextN wh : Nat), .bool true], ?_, by simp [n2], q8.trans (belowK_b (w := w) (Nat.le_refl _) W D _ _ (by omega) hK rfl rfl)⟩
    rw [← n1]
    simp [results, Try.f15, go_sem, hc5, hc6]
end
end Go.Proofs.Ytmjjghhlalaeiaa
