/- Contract of the wheel's All. -/
import Derived.Test.YtmjjghhlalaeiaaGath
import Derived.Test.YtmjjghhlalaeiaaSortId
namespace Go.Proofs.Ytmjjghhlalaeiaa
open Go.RowKit Go.Shelf Go.Sort
attribute [local go_sem] Oper.semAt_some

theorem order_any (p : Option Addr) (w : World) :
    Calls Try.prog 36 #[.pointer p] w fun e w' => e = .returned (.func (.func 53) #[] #[.pointer (some ⟨w.heap.size, 0, none⟩)]) ∧ w' = w.alloc (.cells #[.pointer p] 24) := by
  go_enter Try.func36, Try.ntmps36
  go_wp2_with fail
  go_ret
  exact ⟨rfl, rfl⟩

section
variable {w : World} {T : Wp} {N n : Nat} {wh : List Nat} {us : List Int} {ls : List (List Nat)}

set_option maxRecDepth 100000 in
set_option maxHeartbeats 8000000 in
theorem wall_in (hm : WM w T N n us ls) (hT : Tm n) :
    CallsIn Fence.wide 5 Try.prog 19 #[.pointer (some ⟨T.B, 0, none⟩)] w fun e w' => ∃ v r, e = .returned v ∧ r.Perm (catL ls (turnL n)) ∧ r.Pairwise (fun a b => ltU (fun t => us.getD t 0) b a = false) ∧ RowI w' w.heap.size v (ints r) ∧ Below w.heap.size w w' := by
  have hB0 : Below w.heap.size w (w.alloc (.cells #[.pointer (some ⟨T.B, 0, none⟩)] 24)) := (Below.refl _ w).alloc (Nat.le_refl _) _
  have HM := wmade_any (hm.below hB0)
  refine callsIn_of_wp_marks Try.func19 rfl trivial ?_ rfl
  simp only [Try.ntmps19, List.size_toArray, List.length_cons, List.length_nil, Nat.reduceAdd, Nat.reduceSub, Array.replicate_succ, Array.replicate_zero, List.push_toArray, List.append_toArray, List.nil_append, List.cons_append]
  refine wpIn_wide.2 ?_
  have hB1 : Below w.heap.size w ((w.alloc (.cells #[.pointer (some ⟨T.B, 0, none⟩)] 24)).alloc (.cells #[.slice none 0 0] 32)) := hB0.alloc hB0.size _
  have HI := inTurn_any (hm.below hB1) hT
  have x0 : Boxed ((w.alloc (.cells #[.pointer (some ⟨T.B, 0, none⟩)] 24)).alloc (.cells #[.slice none 0 0] 32)) w.heap.size 24 (.pointer (some ⟨T.B, 0, none⟩)) := (Below.heap_alloc _ _ _ (by simp)).trans (heap_alloc_new w _)
  have x1 : Boxed ((w.alloc (.cells #[.pointer (some ⟨T.B, 0, none⟩)] 24)).alloc (.cells #[.slice none 0 0] 32)) (w.heap.size + 1) 32 (.slice none 0 0) := by
    have := Boxed.new (w.alloc (.cells #[.pointer (some ⟨T.B, 0, none⟩)] 24)) 32 (.slice none 0 0)
    rwa [show (w.alloc (.cells #[.pointer (some ⟨T.B, 0, none⟩)] 24)).heap.size = w.heap.size + 1 by simp] at this
  have x0c := x0.cell
  go_wp2_with (first
    | (go_at_call 31; refine HM.mono ?_; rintro e w' ⟨rfl, hw⟩; subst w')
    | (go_at_call 32; refine HI.mono ?_; rintro e w2 ⟨X1, X2, rfl, hG, hx1, hx2, b2⟩))
  have hB2 := hB1.trans (b2.mono hB1.size)
  have hsz1 : ((w.alloc (.cells #[.pointer (some ⟨T.B, 0, none⟩)] 24)).alloc (.cells #[.slice none 0 0] 32)).heap.size = w.heap.size + 1 + 1 := by simp
  have y0 : Boxed w2 w.heap.size 24 (.pointer (some ⟨T.B, 0, none⟩)) := (b2.block _ (by rw [hsz1]; omega)).trans x0
  have y1 : Boxed w2 (w.heap.size + 1) 32 (.slice none 0 0) := (b2.block _ (by rw [hsz1]; omega)).trans x1
  have hs2 : w.heap.size + 1 + 1 ≤ w2.heap.size := by rw [← hsz1]; exact b2.size
  have hm2 := hm.below hB2
  clear x0 x1 x0c HI HM b2 hB1 hB0 hx1 hx2 hsz1
  refine (wpIn_wide (n := 5)).1 ?_
  refine wpIn_rangeFunc_ownG rfl (by omega) (gf := 50) (lb := #[.pointer (some ⟨X1, 0, none⟩), .pointer (some ⟨X2, 0, none⟩)]) rfl trivial (enters_of Try.func50 (by kernel_rfl) rfl)
    (turn_stops (5 - 1) (by omega) T N n X1 X2 us ls w2 hm2 hT hG) ka_t (ka_b (w := w2)) (Below.refl _ _) (fun _ => rfl)
    (GaI w T ls)
    (fun c pre W => False)
    (fun pre A B row ⟨⟨v, q1, q5⟩, q2, q3, q4, q6⟩ hg hr => by
      have hn : ∀ k, k < w2.heap.size → some k ≠ row := fun k hk e => by
        have := (hr k e.symm).1
        omega
      have hb := grown_but hg
      refine ⟨⟨v, (hg.block _ (Array.getElem?_eq_some_iff.1 q1).1 (hn _ (by omega))).trans q1, ?_⟩, ⟨hb.os.trans q2.os, hb.tape.trans q2.tape, hb.output.trans q2.output, Nat.le_trans q2.size hb.size, fun k hk => (hg.block k (Nat.lt_of_lt_of_le hk q2.size) (hn k (by omega))).trans (q2.block k hk)⟩, (hg.block _ (Array.getElem?_eq_some_iff.1 q3).1 (hn _ (by omega))).trans q3, q4, Nat.lt_of_lt_of_le q6 hg.size⟩
      refine World.ownsRow.kept q5 hg ?_
      rcases hv : v.ownBlock with _ | g
      · exact .inl rfl
      · right
        intro e
        obtain ⟨cur, hc⟩ := own3_at q5 g hv
        obtain ⟨_, o, ho, hw⟩ := hr g e.symm
        rw [hc] at ho
        cases ho
        cases hw)
    (fun c _ _ _ _ hs _ _ => hs)
    ⟨⟨_, y1, World.ownsRow_nil _ _ _ _⟩, hB2, y0, by simp [catL], by omega⟩ ?a1 ?assign ?body ?done ?stop
  case assign =>
    intro l x W K hK
    gi_wp2
    exact hK
  case body =>
    rintro l pre x W ⟨⟨v, hv, hrow⟩, hB0, d0, hle, hsz⟩ hlt
    have hmx : Try.prog.follows .mixedOrders = true := by kernel_rfl
    obtain ⟨qx, hqx⟩ : ∃ qx, qx = ls.getD x [] := ⟨_, rfl⟩
    have HQ : Hid (qx = ls.getD x []) := hqx
    have h1 : qx.length ≤ 4096 := by rw [hqx]; exact one_len hm x
    obtain ⟨va, vc, rfl, -⟩ := hrow.open'
    gi_wp2_with fail
    refine wpIn_region_any hmx (anyRound (by kernel_rfl) ?_)
    change wpAnyIn _ _ _ _ _ _ _ _ _ (World.drew _)
    have b1 : Below W.heap.size W W.drew := (Below.refl _ W).drew
    have hv1 : Boxed W.drew (w.heap.size + 1) 32 (.slice va (ints (catL ls pre)).length vc) := hv
    have d01 : Boxed W.drew w.heap.size 24 (.pointer (some ⟨T.B, 0, none⟩)) := d0
    have hrow1 : RowI W.drew w.heap.size (.slice va (ints (catL ls pre)).length vc) (ints (catL ls pre)) := hrow
    have hB1 : Below w.heap.size w W.drew := hB0.drew
    have hsW : W.heap.size = W.drew.heap.size := rfl
    have hmW := hm.below hB1
    generalize W.drew = W1 at b1 hv1 d01 hrow1 hB1 hmW hsW ⊢
    have cx := hv1.cell
    have cw := d01.cell
    have hs1 := hB1.size
    have HMb := members_any T.B (some ⟨T.P.B, 0, none⟩) (x : Int) _ W1 hmW.c66 (hmW.l.src (x : Int))
    rw [lsI_nat, ← hqx] at HMb
    clear hqx
    have boxk : ∀ {w2 : World}, Below W1.heap.size W1 w2 → ∀ w3, w2.grownBy w3 (Value.slice va (ints (catL ls pre)).length vc).ownBlock → Boxed w3 (w.heap.size + 1) 32 (.slice va (ints (catL ls pre)).length vc) := fun {w2} b2 w3 hg => by
      have e2 : Boxed w2 (w.heap.size + 1) 32 (.slice va (ints (catL ls pre)).length vc) := (b2.block _ (by omega)).trans hv1
      refine (hg.block _ (by have := b2.size; omega) (fun e => ?_)).trans e2
      obtain ⟨cur, hc⟩ := own3_at (hrow1.below b2) _ e.symm
      have := hc.symm.trans e2
      simp at this
    refine wpAnyIn_take (i := 2) (v := .int .i64 (x : Nat)) rfl rfl (by kernel_rfl) (by kernel_rfl) (by kernel_rfl) (fun _ _ _ h => h) ⟨Or.inl ⟨rfl, fun w => by go_simp⟩, fun _ => rfl⟩ ?_
    refine wpAnyIn_ready (rs := [0, 1]) (by kernel_rfl) (by simp) ?_
    refine AllReadyIn.cons rfl (fun K hK => ?_) (AllReadyIn.cons rfl (fun K hK => ?_) AllReadyIn.nil)
    · go_simp
      refine hK _ _ ?_
      clear hK K
      refine wpAnyIn_ready (rs := [1]) (by kernel_rfl) (by simp) ?_
      refine AllReadyIn.cons rfl (fun K hK => ?_) AllReadyIn.nil
      go_simp
      refine hK _ _ ?_
      clear hK K
      refine wpAnyIn_drop 3 rfl (by kernel_rfl) ?_
      show wpListIn _ _ _ _ _ [_, _, _] _ _
      gi_wp2_with (first
        | (refine ⟨trivial, ?_⟩; gi_at_call 34; refine (callsIn_wide.2 HMb).mono ?_; rintro e w2 ⟨u, rfl, r2, b2⟩; obtain ⟨ua, uc, rfl, -⟩ := r2.open'; have hrd := r2.reads; have cx2 := cell_on b2 cx; have hr2' := hrow1.below b2; have hbox := boxk b2)
        | (gi_at_builtin; refine wpListIn_app rfl (.tmp 11) (.tmp 14) rfl w.heap.size _ _ (ints (catL ls pre)) rfl (show World.ownsRow _ _ _ _ _ _ _ from hr2') ua _ uc (ints qx) rfl rfl hrd (by rw [ints_len, ints_len]; omega) (by have := b2.size; omega) ?_; intro v3 w3 ho3 hg3; obtain ⟨oa, oc, rfl⟩ := own_shape ho3; have HO : Hid (World.ownsRow w3 w.heap.size 3 1 (.slice oa ((ints (catL ls pre)).length + (ints qx).length) oc) ((catL ls pre).length + qx.length) ((ints (catL ls pre) ++ ints qx).map (Value.int .i64))) := (by have e1 := ints_len (catL ls pre); have e2 := ints_len qx; rw [← e1, ← e2]; exact ho3); have kx := Boxed.cell (hbox w3 hg3); have kf := Boxed.frozen (hbox w3 hg3)))
      exact ga_step hsz hv hrow hB0 d0 hle (one_len hm x) (b1.trans (b2.mono b1.size)) (by rw [← HQ.out]; exact HO.out) hg3
    · go_simp
      refine hK _ _ ?_
      clear hK K
      refine wpAnyIn_ready (rs := [0, 3]) (by kernel_rfl) (by simp) ?_
      refine AllReadyIn.cons rfl (fun K hK => ?_) (AllReadyIn.cons rfl (fun K hK => ?_) AllReadyIn.nil)
      · go_simp
        refine hK _ _ ?_
        clear hK K
        refine wpAnyIn_drop 3 rfl (by kernel_rfl) ?_
        show wpListIn _ _ _ _ _ [_, _, _] _ _
        gi_wp2_with (first
          | (refine ⟨trivial, ?_⟩; gi_at_call 34; refine (callsIn_wide.2 HMb).mono ?_; rintro e w2 ⟨u, rfl, r2, b2⟩; obtain ⟨ua, uc, rfl, -⟩ := r2.open'; have hrd := r2.reads; have cx2 := cell_on b2 cx; have hr2' := hrow1.below b2; have hbox := boxk b2)
          | (gi_at_builtin; refine wpListIn_app rfl (.tmp 11) (.tmp 14) rfl w.heap.size _ _ (ints (catL ls pre)) rfl (show World.ownsRow _ _ _ _ _ _ _ from hr2') ua _ uc (ints qx) rfl rfl hrd (by rw [ints_len, ints_len]; omega) (by have := b2.size; omega) ?_; intro v3 w3 ho3 hg3; obtain ⟨oa, oc, rfl⟩ := own_shape ho3; have HO : Hid (World.ownsRow w3 w.heap.size 3 1 (.slice oa ((ints (catL ls pre)).length + (ints qx).length) oc) ((catL ls pre).length + qx.length) ((ints (catL ls pre) ++ ints qx).map (Value.int .i64))) := (by have e1 := ints_len (catL ls pre); have e2 := ints_len qx; rw [← e1, ← e2]; exact ho3); have kx := Boxed.cell (hbox w3 hg3); have kf := Boxed.frozen (hbox w3 hg3)))
        exact ga_step hsz hv hrow hB0 d0 hle (one_len hm x) (b1.trans (b2.mono b1.size)) (by rw [← HQ.out]; exact HO.out) hg3
      · go_simp
        refine ⟨trivial, (callsIn_wide.2 HMb).mono ?_⟩
        rintro e w2 ⟨u, rfl, r2, b2⟩
        obtain ⟨ua, uc, rfl, -⟩ := r2.open'
        have hrd := r2.reads
        have cx2 := cell_on b2 cx
        have hr2' := hrow1.below b2
        have hbox := boxk b2
        refine hK _ _ ?_
        clear hK K
        refine wpAnyIn_ready (rs := [0]) (by kernel_rfl) (by simp) ?_
        refine AllReadyIn.cons rfl (fun K hK => ?_) AllReadyIn.nil
        go_simp
        refine hK _ _ ?_
        clear hK K
        refine wpAnyIn_drop 4 rfl (by kernel_rfl) ?_
        show wpListIn _ _ _ _ _ [_, _] _ _
        gi_wp2_with (first
          | (gi_at_builtin; refine wpListIn_app rfl (.tmp 11) (.tmp 14) rfl w.heap.size _ _ (ints (catL ls pre)) rfl (show World.ownsRow _ _ _ _ _ _ _ from hr2') ua _ uc (ints qx) rfl rfl hrd (by rw [ints_len, ints_len]; omega) (by have := b2.size; omega) ?_; intro v3 w3 ho3 hg3; obtain ⟨oa, oc, rfl⟩ := own_shape ho3; have HO : Hid (World.ownsRow w3 w.heap.size 3 1 (.slice oa ((ints (catL ls pre)).length + (ints qx).length) oc) ((catL ls pre).length + qx.length) ((ints (catL ls pre) ++ ints qx).map (Value.int .i64))) := (by have e1 := ints_len (catL ls pre); have e2 := ints_len qx; rw [← e1, ← e2]; exact ho3); have kx := Boxed.cell (hbox w3 hg3); have kf := Boxed.frozen (hbox w3 hg3)))
        exact ga_step hsz hv hrow hB0 d0 hle (one_len hm x) (b1.trans (b2.mono b1.size)) (by rw [← HQ.out]; exact HO.out) hg3
  case done =>
    rintro D ys W hD rfl ⟨⟨v, hv, hrow⟩, hB, d0, hle, hsz⟩ hK
    have hcat : (catL ls (turnL n)).length ≤ 4096 := cat_len hm (List.prefix_refl _)
    have hltN : ∀ t ∈ catL ls (turnL n), t < N := fun t ht => by
      obtain ⟨i, hi, h⟩ := mem_catL.1 ht
      exact hm.l.ok.lt i _ (getD_at (by rw [hm.l.ok.len]; exact mem_turnL.1 hi)) t h
    have hmW := hm.below hB
    have cx := hv.cell
    have cw := d0.cell
    obtain ⟨va, vc, rfl, -⟩ := hrow.open'
    obtain ⟨q, hq⟩ : ∃ q, q = catL ls (turnL n) := ⟨_, rfl⟩
    have HQ : Hid (q = catL ls (turnL n)) := hq
    rw [← hq] at hv hrow hcat hltN cx hle
    clear hq
    have hS : W.cell? ⟨w.heap.size + 1, 0, none⟩ = some (.slice va (ints q).length vc) ∧ W.cell? ⟨w.heap.size, 0, none⟩ = some (.pointer (some ⟨T.B, 0, none⟩)) := ⟨cx, cw⟩
    have hSd := c2_on (S := []) ((But.refl [] W).drew) (by simp) (by simp) hS
    have hrd : RowI W.drew w.heap.size (.slice va (ints q).length vc) (ints q) := hrow
    have hvd : Boxed W.drew (w.heap.size + 1) 32 (.slice va (ints q).length vc) := hv
    have d0d : Boxed W.drew w.heap.size 24 (.pointer (some ⟨T.B, 0, none⟩)) := d0
    have hKd : W.drew.heap[D]? = some (.deferred (some [])) := hK
    have hBd : Below w.heap.size w W.drew := hB.drew
    have hmd := hmW.below (Below.refl _ W).drew
    have hsd : w.heap.size + 1 < W.drew.heap.size := hsz
    have hne := hm.b.lt
    have hgl := hm.g.lt
    clear hK hB hv hrow d0 hmW cx cw hle
    generalize hWd : W.drew = W1 at *
    have ba : Below W1.heap.size W1 (W1.alloc (.cells #[.pointer (some ⟨T.B, 0, none⟩)] 24)) := (Below.refl _ W1).alloc (Nat.le_refl _) _
    have hra := hrd.below ba
    have hma := hmd.below ba
    have hown := own3_at hrd
    have nX : (Value.slice va (ints q).length vc).ownBlock ≠ some W1.heap.size := fun e => by have := (hrd.lt _ e).2; omega
    have nS : ∀ k, k < w.heap.size → (Value.slice va (ints q).length vc).ownBlock ≠ some k := fun k hk e => by have := (hrd.lt _ e).1; omega
    have SF := sortf_row (X := W1.heap.size) (ut := fun t => us.getD t 0) hra (by have := hBd.size; simp; omega) hm.sizes.1 hltN hcat (by simp [go_sem]) hma.c1 (fun t ht => hma.xu (by rw [List.getD_eq_getElem?_getD, List.getElem?_eq_getElem (by rw [hm.ul]; exact ht)]; rfl)) nX (nS _ hne) (nS _ hgl)
    have nv : some (w.heap.size + 1) ≠ (Value.slice va (ints q).length vc).ownBlock := fun e => by
      obtain ⟨cur, hc⟩ := hown _ e.symm
      have := hc.symm.trans hvd
      simp at this
    have nw : some w.heap.size ≠ (Value.slice va (ints q).length vc).ownBlock := fun e => by
      obtain ⟨cur, hc⟩ := hown _ e.symm
      have := hc.symm.trans d0d
      simp at this
    have nD : some D ≠ (Value.slice va (ints q).length vc).ownBlock := fun e => by
      obtain ⟨cur, hc⟩ := hown _ e.symm
      have := hc.symm.trans hKd
      cases this
    have OA := order_any (some ⟨T.B, 0, none⟩) W1
    have hSa := c2_on (S := []) (.of_below ba) (by simp) (by simp) hSd
    go_wp2_with fail
    subst hWd
    go_region_held3 (fun w' => w'.cell? ⟨w.heap.size + 1, 0, none⟩ = some (.slice va (ints q).length vc) ∧ w'.cell? ⟨w.heap.size, 0, none⟩ = some (.pointer (some ⟨T.B, 0, none⟩))) (first | with_reducible assumption | with_reducible exact hSd) (first
      | (go_at_call 36; refine OA.mono ?_; rintro e w4 ⟨rfl, hw4⟩; have SF4 := SF; rw [← hw4] at SF4; have k4 := hSa; rw [← hw4] at k4; have b4 := ba; rw [← hw4] at b4; clear hw4)
      | (go_at_call 38; refine SF4.mono ?_; rintro e w5 ⟨rfl, r, hp, hpw, hr5, hg5⟩; have k5 : w5.cell? ⟨w.heap.size + 1, 0, none⟩ = some (.slice va (ints q).length vc) ∧ w5.cell? ⟨w.heap.size, 0, none⟩ = some (.pointer (some ⟨T.B, 0, none⟩)) := ⟨hg5.cell k4.1 nv, hg5.cell k4.2 nw⟩))
    all_goals
      obtain ⟨kx, -⟩ := k5
      have hDl := (Array.getElem?_eq_some_iff.1 hKd).1
      have hK5 : w5.heap[D]? = some (.deferred (some [])) := (hg5.block D (by have := b4.size; omega) nD).trans ((b4.block _ hDl).trans hKd)
      go_wp2_with fail
      refine ⟨by simp, .inl ⟨_, _, rfl, run_takeDeferred hK5, ?_⟩⟩
      have hB5 : Below w.heap.size w w5 := (hBd.trans (b4.mono hBd.size)).grown hg5 (by have := hBd.size; have := b4.size; omega) (fun k e => (hrd.lt k e).1)
      refine ⟨.slice va (ints q).length vc, by simp [results, Try.f19, go_sem], .slice va (ints q).length vc, r, rfl, by rw [← HQ.out]; exact hp, hpw, ?_, hB5.trans (belowK_b (w := w) (Nat.le_refl _) w5 D _ _ (by omega) hK5 rfl rfl)⟩
      exact ownsRow_putObj hr5 _ hK5 rfl
  case stop =>
    rintro D c pre W hD hpre h hK
    exact h.elim
end
end Go.Proofs.Ytmjjghhlalaeiaa
