/- Contract of Len. -/
import Derived.Test.YtmjjghhlalaeiaaCat
import Derived.Test.YtmjjghhlalaeiaaQuietT
namespace Go.Proofs.Ytmjjghhlalaeiaa
open Go.RowKit Go.Shelf
attribute [local go_sem] Oper.semAt_some

theorem But.keepsFrom {S : List Nat} {A B : World} {n : Nat} (h : But S A B) (hS : ∀ x ∈ S, x < n) : KeepsFrom n A B :=
  ⟨h.size, fun k o hk ho _ => (h.block k (Array.getElem?_eq_some_iff.1 ho).1 (fun e => by have := hS k e; omega)).trans ho⟩
theorem grown_but {A B : World} {row : Option Nat} (h : A.grownBy B row) : But row.toList A B :=
  ⟨h.os, h.tape, h.output, h.size, fun k hk hn => h.block k hk (fun e => hn (by rw [← e]; simp))⟩
theorem ka_set {A : World} {X j : Nat} {cs : Array Value} {t : TypeId} (v : Value) (h : A.heap[X]? = some (.cells cs t (0, 0))) (ht : t ≠ 53 ∧ t ≠ 73) : Ka A (A.setCell ⟨X, j, none⟩ v) := by
  intro b cur u hu hb
  have hne : b ≠ X := by
    rintro rfl
    rw [h] at hb
    simp at hb
    obtain ⟨_, e⟩ := hb
    subst e
    rcases hu with rfl | rfl
    · exact ht.1 rfl
    · exact ht.2 rfl
  exact (Below.heap_setCell _ ⟨X, j, none⟩ _ _ hne).trans hb

section
variable {w : World} {T : Wp} {N n : Nat} {wh : List Nat} {us : List Int} {ls : List (List Nat)}

set_option maxRecDepth 100000 in
set_option maxHeartbeats 4000000 in
theorem len_in (hm : WM w T N n us ls) (hT : Tm n) :
    CallsIn Fence.wide 5 Try.prog 13 #[.pointer (some ⟨T.B, 0, none⟩)] w fun e w' => e = .returned (.int .i64 ((catL ls (turnL n)).length : Nat)) ∧ Below w.heap.size w w' := by
  have hB0 : Below w.heap.size w (w.alloc (.cells #[.pointer (some ⟨T.B, 0, none⟩)] 24)) := (Below.refl _ w).alloc (Nat.le_refl _) _
  have HM := wmade_any (hm.below hB0)
  refine callsIn_of_wp_marks Try.func13 rfl trivial ?_ rfl
  simp only [Try.ntmps13, List.size_toArray, List.length_cons, List.length_nil, Nat.reduceAdd, Nat.reduceSub, Array.replicate_succ, Array.replicate_zero, List.push_toArray, List.append_toArray, List.nil_append, List.cons_append]
  refine wpIn_wide.2 ?_
  have hB1 : Below w.heap.size w ((w.alloc (.cells #[.pointer (some ⟨T.B, 0, none⟩)] 24)).alloc (.cells #[.int .i64 0] 3)) := hB0.alloc hB0.size _
  have HI := inTurn_any (hm.below hB1) hT
  have x0 : ((w.alloc (.cells #[.pointer (some ⟨T.B, 0, none⟩)] 24)).alloc (.cells #[.int .i64 0] 3)).cell? ⟨w.heap.size, 0, none⟩ = some (.pointer (some ⟨T.B, 0, none⟩)) := by simp [go_sem]
  have x1 : Boxed ((w.alloc (.cells #[.pointer (some ⟨T.B, 0, none⟩)] 24)).alloc (.cells #[.int .i64 0] 3)) (w.heap.size + 1) 3 (.int .i64 0) := by
    have := Boxed.new (w.alloc (.cells #[.pointer (some ⟨T.B, 0, none⟩)] 24)) 3 (.int .i64 0)
    rwa [show (w.alloc (.cells #[.pointer (some ⟨T.B, 0, none⟩)] 24)).heap.size = w.heap.size + 1 by simp] at this
  go_wp2_with (first
    | (go_at_call 31; refine HM.mono ?_; rintro e w' ⟨rfl, hw⟩; subst w')
    | (go_at_call 32; refine HI.mono ?_; rintro e w2 ⟨X1, X2, rfl, hG, hx1, hx2, b2⟩))
  have hB2 := hB1.trans (b2.mono hB1.size)
  have y0 := cell_on b2 x0
  have hsz1 : ((w.alloc (.cells #[.pointer (some ⟨T.B, 0, none⟩)] 24)).alloc (.cells #[.int .i64 0] 3)).heap.size = w.heap.size + 1 + 1 := by simp
  have y1 : Boxed w2 (w.heap.size + 1) 3 (.int .i64 0) := (b2.block _ (by rw [hsz1]; omega)).trans x1
  have hs2 : w.heap.size + 1 + 1 ≤ w2.heap.size := by rw [← hsz1]; exact b2.size
  have hm2 := hm.below hB2
  clear x0 x1 HI HM b2 hB1 hB0 hx1 hx2 hsz1
  refine (wpIn_wide (n := 5)).1 ?_
  refine wpIn_rangeFunc_ownG rfl (by omega) (gf := 50) (lb := #[.pointer (some ⟨X1, 0, none⟩), .pointer (some ⟨X2, 0, none⟩)]) rfl trivial (enters_of Try.func50 (by kernel_rfl) rfl)
    (turn_stops (5 - 1) (by omega) T N n X1 X2 us ls w2 hm2 hT hG) ka_t (ka_b (w := w2)) (Below.refl _ _) (fun _ => rfl)
    (fun pre W => Boxed W (w.heap.size + 1) 3 (.int .i64 ((catL ls pre).length : Nat)) ∧ Below w.heap.size w W ∧ W.cell? ⟨w.heap.size, 0, none⟩ = some (.pointer (some ⟨T.B, 0, none⟩)) ∧ (catL ls pre).length ≤ pre.length * 4096)
    (fun c pre W => False)
    (fun pre A B row ⟨q1, q2, q3, q4⟩ hg hr => by
      have hn : ∀ k, k < w2.heap.size → k ∉ row.toList := fun k hk hm => by
        cases row with
        | none => simp at hm
        | some r => simp at hm; have := (hr r rfl).1; omega
      have hb := grown_but hg
      exact ⟨(hb.block _ (Array.getElem?_eq_some_iff.1 q1).1 (hn _ (by omega))).trans q1, ⟨hb.os.trans q2.os, hb.tape.trans q2.tape, hb.output.trans q2.output, Nat.le_trans q2.size hb.size, fun k hk => (hb.block k (Nat.lt_of_lt_of_le hk q2.size) (hn k (by omega))).trans (q2.block k hk)⟩, hb.cell' q3 (hn _ (by simp; omega)), q4⟩)
    (fun c _ _ _ _ hs _ _ => hs)
    ⟨y1, hB2, y0, by simp [catL]⟩ ?a1 ?assign ?body ?done ?stop
  case assign =>
    intro l x W K hK
    gi_wp2
    exact hK
  case body =>
    rintro l pre x W ⟨hv, hB, d0, hle⟩ hlt
    have d1 := hv.cell
    have f1 := hv.frozen
    have hmW := hm.below hB
    have c66 := hmW.c66
    have HL : ∀ k, Calls Try.prog 33 #[.pointer (some ⟨T.P.B, 0, none⟩), .int .i64 (x : Nat)] (W.drewN k) fun e w' => e = .returned (.int .i64 ((ls.getD x []).length : Nat)) ∧ w' = W.drewN k := fun k => by
      have := len_any (hmW.drawn ⟨k, rfl⟩).l (x : Int)
      rwa [lsI_nat] at this
    have h1 := one_len hm x
    have hcat := catL_snoc ls pre x
    have hlen : (catL ls (pre ++ [x])).length = (catL ls pre).length + (ls.getD x []).length := by rw [hcat, List.length_append]
    have HLn : Hid ((catL ls (pre ++ [x])).length = (catL ls pre).length + (ls.getD x []).length) := hlen
    have hb1 : (((catL ls pre).length : Nat) : Int) ≤ 262144 := by omega
    have hb2 : (((ls.getD x []).length : Nat) : Int) ≤ 4096 := by omega
    have hmx : Try.prog.follows .mixedOrders = true := by kernel_rfl
    clear hlen hcat
    generalize (catL ls pre).length = a at *
    generalize (ls.getD x []).length = b at *
    gi_wp2_with fail
    refine wpIn_region_quietL hmx (by kernel_rfl) (by kernel_rfl) rfl ?_
    show wpQuiet _ _ _ _ [_, _, _, _, _, _, _, _] _
    repeat (go_big_quiet_step ((go_at_call 33; exact Calls.quiet_of_same (HL _))))
    refine wpQuiet_nil ?_
    rintro _ ⟨nq, rfl⟩
    gi_wp2_with fail
    have hvd : Boxed (W.drewN nq) (w.heap.size + 1) 3 (.int .i64 (a : Nat)) := hv
    have bb : But [w.heap.size + 1] W ((W.drewN nq).setCell ⟨w.heap.size + 1, 0, none⟩ (.int .i64 ((a : Int) + (b : Int)))) := ((But.refl [w.heap.size + 1] W).drewN nq).set (p := ⟨w.heap.size + 1, 0, none⟩) (by simp) _
    have hk1 : Ka W (W.drewN nq) := fun _ _ _ _ h => h
    have hl2 : (catL ls (pre ++ [x])).length ≤ (pre ++ [x]).length * 4096 := by rw [HLn.out, List.length_append]; simp; omega
    refine ⟨bb.keepsFrom (fun y hy => by simp at hy; omega), ka_t hk1 (ka_set _ hvd (by decide)), ?_, hB.trans (bb.below hB.size (by simp)), bb.cell' d0 (by simp), hl2⟩
    rw [HLn.out]
    exact hvd.set _
  case done =>
    rintro D ys W hD rfl ⟨hv, hB, d0, hle⟩ hK
    have d2 := hv.cell
    go_wp2_with fail
    refine ⟨by simp, .inl ⟨_, _, rfl, run_takeDeferred hK, ?_⟩⟩
    exact ⟨_, by simp [results, Try.f13, go_sem], rfl, hB.trans (belowK_b (w := w) (Nat.le_refl _) W D _ _ (by omega) hK rfl rfl)⟩
  case stop =>
    rintro D c pre W hD hpre h hK
    exact h.elim

theorem wlen_any (h : WQ w T N n wh) (hT : Tm n) :
    Calls Try.prog 13 #[.pointer (some ⟨T.B, 0, none⟩)] w fun e w' => e = .returned (.int .i64 ((waitL wh).length : Nat)) ∧ Below w.heap.size w w' := by
  obtain ⟨us, ls, hm, hp⟩ := h.pair
  rw [← (cat_perm hm hp).length_eq]
  exact (callsIn_wide (n := 5)).1 (len_in hm hT)
end
end Go.Proofs.Ytmjjghhlalaeiaa
