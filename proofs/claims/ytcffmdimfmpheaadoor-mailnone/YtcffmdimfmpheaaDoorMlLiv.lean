/- The document's example. -/
import Derived.Test.YtcffmdimfmpheaaDoorMlPut
import Derived.Test.YtcffmdimfmpheaaDoorMlCat
import Derived.Test.YtcffmdimfmpheaaDoorMlSml
import Derived.Test.YtcffmdimfmpheaaDoorMlFst
import Derived.Test.YtcffmdimfmpheaaDoorESame
import Derived.Test.YtcffmdimfmpheaaDoorCHoldT
namespace Go.Proofs.YtcffmdimfmpheaaDoor
open Go Go.RowKit
set_option linter.unusedSimpArgs false

def lx : Ev := ⟨1, 1, 0, 0, 0, 0, fun _ => 0, 0⟩
def ly : Ev := ⟨1, 2, 0, 0, 0, 0, fun _ => 0, 0⟩
theorem lx_put : askE 4 [] [lx] = 0 ∧ putX 4 [] lx = [lx] := by
  have h : askE 4 [] [lx] = 0 := by decide
  exact ⟨h, by unfold putX; rw [h]; rfl⟩
theorem ly_put : askE 4 [lx] [ly] = 0 ∧ putX 4 [lx] ly = [lx, ly] := by
  have h : askE 4 [lx] [ly] = 0 := by decide
  exact ⟨h, by unfold putX; rw [h]; rfl⟩
theorem lx_take : tkT 1 [lx, ly] = [lx] ∧ tkX 1 [lx, ly] = [ly] := by
  have h : tkN 1 [lx, ly] = 1 := by decide
  unfold tkT tkX
  rw [h]
  exact ⟨rfl, rfl⟩
theorem lx_undo : askE 4 [ly] [lx] = 0 ∧ undX 4 [ly] [lx] = [lx, ly] := by
  have h : askE 4 [ly] [lx] = 0 := by decide
  exact ⟨h, by unfold undX; rw [h]; rfl⟩
theorem ev_two {W : World} {g : Nat} {x y : Ev} (h0 : At15 W g 0 x) (h1 : At15 W g 15 y) : EV W (some ⟨g, 0, none⟩) [x, y] := fun j hj => by
  rcases (show j = 0 ∨ j = 1 by simp at hj; omega) with rfl | rfl
  · exact ⟨_, _, rfl, h0⟩
  · exact ⟨_, _, rfl, h1⟩
theorem two_new (w : World) (x y : Ev) : EV (w.alloc (.cells (evA x ++ evA y) 33)) (some ⟨w.heap.size, 0, none⟩) [x, y] := by
  have hc := Cel.new w (evA x ++ evA y) 33
  refine ev_two (fun j v hv => ?_) (fun j v hv => ?_)
  · have hj : j < 15 := (List.getElem?_eq_some_iff.1 hv).1
    rw [Nat.zero_add]
    refine hc.cell ?_
    rw [Array.getElem?_append_left (by simpa [evA] using hj)]
    simpa [evA, c15] using hv
  · have hj : j < 15 := (List.getElem?_eq_some_iff.1 hv).1
    refine hc.cell ?_
    rw [Array.getElem?_append_right (by simp [evA])]
    simpa [evA, c15] using hv
theorem lx_A : evA lx = #[.int .i64 1, .int .i64 1, .int .i64 0, .int .i64 0, .int .i64 0, .int .i64 0, .int .i64 0, .int .i64 0, .int .i64 0, .int .i64 0, .int .i64 0, .int .i64 0, .int .i64 0, .int .i64 0, .int .i64 0] := rfl
theorem ly_A : evA ly = #[.int .i64 1, .int .i64 2, .int .i64 0, .int .i64 0, .int .i64 0, .int .i64 0, .int .i64 0, .int .i64 0, .int .i64 0, .int .i64 0, .int .i64 0, .int .i64 0, .int .i64 0, .int .i64 0, .int .i64 0] := rfl
theorem same_eq2 {w : World} {xa ya : Option Addr} {xc yc : Nat} (hx : EV w xa [lx, ly]) (hy : EV w ya [lx, ly]) :
    Calls Tryd.prog 13 #[.slice xa 2 xc, .slice ya 2 yc] w fun e w' => e = .returned (.bool true) ∧ Below w.heap.size w w' := by
  have := rsame_any xc yc hx hy (by simp)
  rw [sameB_refl] at this
  exact this
theorem notin_step {T T' : List Nat} {a b : World} {x : Nat} (h : x ∉ T) (s : Step T a T' b) (hx : x < a.heap.size) : x ∉ T' := fun e => (s.new x e).elim h (fun l => by omega)
set_option maxHeartbeats 4000000 in
set_option maxRecDepth 100000 in
theorem lives_any {w : World} (hT : Tab w) : Calls Tryd.prog 8 #[] w fun r w' => r = .returned (.bool true) ∧ Below w.heap.size w w' := by
  go_enter Tryd.func8, Tryd.ntmps8
  go_upto_region 2 with (go_at_call 9; refine (new_some 4 (by decide) (by decide) _).mono ?_; rintro r w1 ⟨B, T1, rfl, q1, s1⟩)
  refine wp_region_lit ?_
  iterate 12 go_step
  have bz1 : Below w1.heap.size w1 (w1.alloc (.cells (evA z15) 33)) := (Below.refl _ w1).alloc (Nat.le_refl _) _
  have bz2 : Below w1.heap.size w1 ((w1.alloc (.cells (evA z15) 33)).alloc (.cells (evA z15) 33)) := bz1.alloc bz1.size _
  have th1 : ((w1.alloc (.cells (evA z15) 33)).alloc (.cells (evA z15) 33)).there w1.heap.size 0 15 := World.there_alloc (at15_there (at15_new w1 z15) (fz_new w1 _ _)) _
  have th2 : ((w1.alloc (.cells (evA z15) 33)).alloc (.cells (evA z15) 33)).there (w1.heap.size + 1) 0 15 := by
    have := at15_there (at15_new (w1.alloc (.cells (evA z15) 33)) z15) (fz_new _ _ _)
    rwa [World.size_alloc] at this
  have hsz : ((w1.alloc (.cells (evA z15) 33)).alloc (.cells (evA z15) 33)).heap.size = w1.heap.size + 1 + 1 := by simp
  rw [z15_A] at *
  generalize hW0 : ((w1.alloc (.cells #[.int .i64 0, .int .i64 0, .int .i64 0, .int .i64 0, .int .i64 0, .int .i64 0, .int .i64 0, .int .i64 0, .int .i64 0, .int .i64 0, .int .i64 0, .int .i64 0, .int .i64 0, .int .i64 0, .int .i64 0] 33)).alloc (.cells #[.int .i64 0, .int .i64 0, .int .i64 0, .int .i64 0, .int .i64 0, .int .i64 0, .int .i64 0, .int .i64 0, .int .i64 0, .int .i64 0, .int .i64 0, .int .i64 0, .int .i64 0, .int .i64 0, .int .i64 0] 33)) = W0 at *
  clear hW0
  refine wpList_store_mid rfl 33 (.tmp 2) (.tmp 9) rfl w1.heap.size 0 (c15 lx).toArray rfl rfl th1 size15 (c15_one _) ?_
  rw [show (c15 lx).toArray.toList = c15 lx from rfl]
  have th3 := World.there_setCells th2 w1.heap.size 0 (c15 lx)
  have r1 := World.rangeAt_setCells_same W0 w1.heap.size 0 (c15 lx) th1
  have b1 : But [w1.heap.size] W0 (W0.setCells w1.heap.size 0 (c15 lx)) := But.setCells _ 0 _
  generalize W0.setCells w1.heap.size 0 (c15 lx) = W1 at *
  refine wpList_store_mid rfl 33 (.tmp 3) (.tmp 10) rfl (w1.heap.size + 1) 0 (c15 ly).toArray rfl rfl th3 size15 (c15_one _) ?_
  rw [show (c15 ly).toArray.toList = c15 ly from rfl]
  have r2 := World.rangeAt_setCells_same W1 (w1.heap.size + 1) 0 (c15 ly) th3
  have b2 : But [w1.heap.size + 1] W1 (W1.setCells (w1.heap.size + 1) 0 (c15 ly)) := But.setCells _ 0 _
  have r1' : (W1.setCells (w1.heap.size + 1) 0 (c15 ly)).rangeAt w1.heap.size 0 (c15 lx) := fun j v hv => b2.cell' (r1 j v hv) (by simp)
  have bb : But [] w1 (W1.setCells (w1.heap.size + 1) 0 (c15 ly)) := (((But.of_below bz2).trans_new b1 (fun x hx => .inr (by simp at hx; omega))).trans_new b2 (fun x hx => .inr (by simp at hx; omega)))
  have hs2 := b1.size
  have hs3 := b2.size
  generalize W1.setCells (w1.heap.size + 1) 0 (c15 ly) = W2 at *
  have q2 := q1.keep bb
  have s2 := s1.trans (Step.keep bb)
  have x1 : w1.heap.size ∉ T1 := fun e => by have := q1.lt _ e; omega
  have x2 : w1.heap.size + 1 ∉ T1 := fun e => by have := q1.lt _ e; omega
  have l1 : w1.heap.size + 1 < W2.heap.size := by omega
  generalize hX : w1.heap.size = X at *
  clear hX th1 th2 th3 r1 b1 b2 bb hs2 hs3 bz1 bz2 hsz q1 s1 W1 W0 w1
  go_upto_region 3 with fail
  have qd := q2.keep (But.refl [] W2).drew
  have sd := s2.trans (Step.keep (But.refl [] W2).drew)
  have td := hT.on sd.below
  have rd1 : At15 W2.drew X 0 lx := r1'
  have rd2 : At15 W2.drew (X + 1) 0 ly := r2
  have ld : X + 1 < W2.drew.heap.size := l1
  have PX := put_any qd td lx
  rw [lx_put.1, lx_put.2] at PX
  clear q2 s2 r1' r2 l1
  refine wp_region_held_drew (S := (fun w' : World => At15 w' X 0 lx ∧ At15 w' (X + 1) 0 ly)) (by kernel_rfl) ⟨rd1, rd2⟩ (fun hHeld => ?_)
  generalize W2.drew = W at *
  refine anyH_take (i := 0) (v := ?_) (some 11) rfl rfl (by kernel_rfl) (fun _ _ _ h => h) (Or.inl ⟨by rfl, ?_⟩) (by assumption) ?_
  rotate_left
  · (intro w hSw; go_simp; all_goals with_reducible rfl)
  try simp only [Act.put, List.setIfInBounds_toArray, List.set_cons_zero, List.set_cons_succ]
  refine anyH_take (i := 1) (v := .agg (evA lx)) (some 12) rfl rfl (by kernel_rfl) (fun _ _ _ h => h) (yieldsIf_load_mid (by rfl) 33 (.tmp 2) rfl X 0 rfl (c15 lx) _ (fun w1 hw1 => hw1.1) Tryd.underlying33 rfl size15) (by assumption) ?_
  try simp only [Act.put, List.setIfInBounds_toArray, List.set_cons_zero, List.set_cons_succ]
  refine anyH_take (i := 3) (v := ?_) (some 14) rfl rfl (by kernel_rfl) (fun _ _ _ h => h) (Or.inl ⟨by rfl, ?_⟩) (by assumption) ?_
  rotate_left
  · (intro w hSw; go_simp; all_goals with_reducible rfl)
  try simp only [Act.put, List.setIfInBounds_toArray, List.set_cons_zero, List.set_cons_succ]
  refine anyH_take (i := 4) (v := .agg (evA ly)) (some 15) rfl rfl (by kernel_rfl) (fun _ _ _ h => h) (yieldsIf_load_mid (by rfl) 33 (.tmp 3) rfl (X + 1) 0 rfl (c15 ly) _ (fun w1 hw1 => hw1.2) Tryd.underlying33 rfl size15) (by assumption) ?_
  try simp only [Act.put, List.setIfInBounds_toArray, List.set_cons_zero, List.set_cons_succ]
  refine anyH_one (i := 2) (by kernel_rfl) rfl (fun K hK => ?_)
  go_simp
  go_at_call 19
  refine PX.mono ?_
  rintro r w3 ⟨rfl, T3, q3, s3⟩
  have x3 := notin_step x1 s3 (by omega)
  have x4 := notin_step x2 s3 ld
  have r31 := rd1.but s3.but x1
  have r32 := rd2.but s3.but x2
  have s3' := sd.trans s3
  have PY := put_any q3 (hT.on s3'.below) ly
  rw [ly_put.1, ly_put.2] at PY
  have l3 := Nat.lt_of_lt_of_le ld s3.but.size
  refine hK.out _ _ ⟨r31, r32⟩ (fun hHeld => ?_)
  clear hK K
  try simp only [Act.put, List.setIfInBounds_toArray, List.set_cons_zero, List.set_cons_succ]
  refine anyH_one (i := 5) (by kernel_rfl) rfl (fun K hK => ?_)
  go_simp
  go_at_call 19
  refine PY.mono ?_
  rintro r w4 ⟨rfl, T4, q4, s4⟩
  have x5 := notin_step x3 s4 (by omega)
  have x6 := notin_step x4 s4 l3
  have r41 := r31.but s4.but x3
  have r42 := r32.but s4.but x4
  have s4' := s3'.trans s4
  have l4 := Nat.lt_of_lt_of_le l3 s4.but.size
  refine hK.out _ _ ⟨r41, r42⟩ (fun hHeld => ?_)
  clear hK K
  try simp only [Act.put, List.setIfInBounds_toArray, List.set_cons_zero, List.set_cons_succ]
  refine anyH_take (i := 6) (v := ?_) (some 4) rfl rfl (by kernel_rfl) (fun _ _ _ h => h) (Or.inl ⟨by rfl, ?_⟩) (by assumption) ?_
  rotate_left
  · (intro w hSw; go_simp; all_goals with_reducible rfl)
  try simp only [Act.put, List.setIfInBounds_toArray, List.set_cons_zero, List.set_cons_succ]
  refine anyH_take (i := 7) (v := ?_) (some 5) rfl rfl (by kernel_rfl) (fun _ _ _ h => h) (Or.inl ⟨by rfl, ?_⟩) (by assumption) ?_
  rotate_left
  · (intro w hSw; go_simp; all_goals with_reducible rfl)
  try simp only [Act.put, List.setIfInBounds_toArray, List.set_cons_zero, List.set_cons_succ]
  refine wpAnyH_done (by kernel_rfl) ?_ _
  clear rd1 rd2 r31 r32 PX PY qd sd td x1 x2 x3 x4 ld l3 s3 s4 q3 s3' hHeld
  have TA := take_any q4 1
  rw [lx_take.1, lx_take.2] at TA
  go_upto_region 5 with (go_at_call 20; (with_reducible refine TA.mono ?_); rintro r w5 ⟨v5, T5, rfl, ho5, q5, s5⟩)
  have s5' := s4'.trans s5
  have r51 := r41.but s5.but x5
  have r52 := r42.but s5.but x6
  have x7 := notin_step x5 s5 (by omega)
  have x8 := notin_step x6 s5 l4
  have l5 := Nat.lt_of_lt_of_le l4 s5.but.size
  obtain ⟨a5, c5, rfl⟩ := ho5.at_ (n := 1) rfl
  have UA := undo_any q5 (hT.on s5'.below) c5 ho5.ev_.2.2 (by unfold maxLen; simp)
  rw [lx_undo.1, lx_undo.2, show ([lx] : List Ev).length = 1 from rfl] at UA
  clear r41 r42 x5 x6 l4 s5 TA q4 s4'
  go_upto_region 6 with (go_at_call 21; (with_reducible refine UA.mono ?_); rintro r w6 ⟨rfl, T6, q6, s6⟩)
  have s6' := s5'.trans s6
  have r61 := r51.but s6.but x7
  have r62 := r52.but s6.but x8
  clear r51 r52 x7 x8 l5 s6 UA q5 s5' ho5
  have q7 := q6.keep (But.refl [] w6).drew
  have b7 := (s6'.trans (Step.keep (But.refl [] w6).drew)).below
  have r71 : At15 w6.drew X 0 lx := r61
  have r72 : At15 w6.drew (X + 1) 0 ly := r62
  refine wp_region_held_drew (S := (fun w' : World => At15 w' X 0 lx ∧ At15 w' (X + 1) 0 ly)) (by kernel_rfl) ⟨r71, r72⟩ (fun hHeld => ?_)
  refine anyH_take (i := 0) (v := ?_) (some 22) rfl rfl (by kernel_rfl) (fun _ _ _ h => h) (Or.inl ⟨by rfl, ?_⟩) (by assumption) ?_
  rotate_left
  · (intro w hSw; go_simp; all_goals with_reducible rfl)
  try simp only [Act.put, List.setIfInBounds_toArray, List.set_cons_zero, List.set_cons_succ]
  refine anyH_take (i := 1) (v := ?_) (some 23) rfl rfl (by kernel_rfl) (fun _ _ _ h => h) (Or.inl ⟨by rfl, ?_⟩) (by assumption) ?_
  rotate_left
  · (intro w hSw; go_simp; all_goals with_reducible rfl)
  try simp only [Act.put, List.setIfInBounds_toArray, List.set_cons_zero, List.set_cons_succ]
  refine anyH_take (i := 2) (v := ?_) (some 24) rfl rfl (by kernel_rfl) (fun _ _ _ h => h) (Or.inl ⟨by rfl, ?_⟩) (by assumption) ?_
  rotate_left
  · (intro w hSw; go_simp; all_goals with_reducible rfl)
  try simp only [Act.put, List.setIfInBounds_toArray, List.set_cons_zero, List.set_cons_succ]
  refine anyH_take (i := 3) (v := ?_) (some 25) rfl rfl (by kernel_rfl) (fun _ _ _ h => h) (Or.inl ⟨by rfl, ?_⟩) (by assumption) ?_
  rotate_left
  · (intro w hSw; go_simp; all_goals with_reducible rfl)
  try simp only [Act.put, List.setIfInBounds_toArray, List.set_cons_zero, List.set_cons_succ]
  refine anyH_take (i := 4) (v := ?_) (some 26) rfl rfl (by kernel_rfl) (fun _ _ _ h => h) (Or.inl ⟨by rfl, ?_⟩) (by assumption) ?_
  rotate_left
  · (intro w hSw; go_simp; all_goals with_reducible rfl)
  try simp only [Act.put, List.setIfInBounds_toArray, List.set_cons_zero, List.set_cons_succ]
  refine anyH_take (i := 5) (v := ?_) (some 27) rfl rfl (by kernel_rfl) (fun _ _ _ h => h) (Or.inl ⟨by rfl, ?_⟩) (by assumption) ?_
  rotate_left
  · (intro w hSw; go_simp; all_goals with_reducible rfl)
  try simp only [Act.put, List.setIfInBounds_toArray, List.set_cons_zero, List.set_cons_succ]
  refine anyH_take (i := 6) (v := ?_) (some 28) rfl rfl (by kernel_rfl) (fun _ _ _ h => h) (Or.inl ⟨by rfl, ?_⟩) (by assumption) ?_
  rotate_left
  · (intro w hSw; go_simp; all_goals with_reducible rfl)
  try simp only [Act.put, List.setIfInBounds_toArray, List.set_cons_zero, List.set_cons_succ]
  refine anyH_take (i := 7) (v := ?_) (some 29) rfl rfl (by kernel_rfl) (fun _ _ _ h => h) (Or.inl ⟨by rfl, ?_⟩) (by assumption) ?_
  rotate_left
  · (intro w hSw; go_simp; all_goals with_reducible rfl)
  try simp only [Act.put, List.setIfInBounds_toArray, List.set_cons_zero, List.set_cons_succ]
  refine anyH_take (i := 8) (v := ?_) (some 30) rfl rfl (by kernel_rfl) (fun _ _ _ h => h) (Or.inl ⟨by rfl, ?_⟩) (by assumption) ?_
  rotate_left
  · (intro w hSw; go_simp; all_goals with_reducible rfl)
  try simp only [Act.put, List.setIfInBounds_toArray, List.set_cons_zero, List.set_cons_succ]
  refine anyH_take (i := 9) (v := ?_) (some 31) rfl rfl (by kernel_rfl) (fun _ _ _ h => h) (Or.inl ⟨by rfl, ?_⟩) (by assumption) ?_
  rotate_left
  · (intro w hSw; go_simp; all_goals with_reducible rfl)
  try simp only [Act.put, List.setIfInBounds_toArray, List.set_cons_zero, List.set_cons_succ]
  refine anyH_take (i := 10) (v := ?_) (some 32) rfl rfl (by kernel_rfl) (fun _ _ _ h => h) (Or.inl ⟨by rfl, ?_⟩) (by assumption) ?_
  rotate_left
  · (intro w hSw; go_simp; all_goals with_reducible rfl)
  try simp only [Act.put, List.setIfInBounds_toArray, List.set_cons_zero, List.set_cons_succ]
  refine anyH_take (i := 11) (v := ?_) (some 33) rfl rfl (by kernel_rfl) (fun _ _ _ h => h) (Or.inl ⟨by rfl, ?_⟩) (by assumption) ?_
  rotate_left
  · (intro w hSw; go_simp; all_goals with_reducible rfl)
  try simp only [Act.put, List.setIfInBounds_toArray, List.set_cons_zero, List.set_cons_succ]
  refine anyH_take (i := 13) (v := .agg (evA lx)) (some 35) rfl rfl (by kernel_rfl) (fun _ _ _ h => h) (yieldsIf_load_mid (by rfl) 33 (.tmp 2) rfl X 0 rfl (c15 lx) _ (fun w1 hw1 => hw1.1) Tryd.underlying33 rfl size15) (by assumption) ?_
  try simp only [Act.put, List.setIfInBounds_toArray, List.set_cons_zero, List.set_cons_succ]
  refine anyH_take (i := 14) (v := .agg (evA ly)) (some 36) rfl rfl (by kernel_rfl) (fun _ _ _ h => h) (yieldsIf_load_mid (by rfl) 33 (.tmp 3) rfl (X + 1) 0 rfl (c15 ly) _ (fun w1 hw1 => hw1.2) Tryd.underlying33 rfl size15) (by assumption) ?_
  try simp only [Act.put, List.setIfInBounds_toArray, List.set_cons_zero, List.set_cons_succ]
  generalize w6.drew = W7 at *
  refine anyH_two (i := 12) (j := 15) (by kernel_rfl) rfl rfl (fun K hK => ?_) (fun K hK => ?_)
  · go_simp
    go_at_call 14
    refine (all_any q7).mono ?_
    rintro r w8 ⟨v8, rfl, ho8, b8⟩
    have b8' := below2 b7 b7.size b8
    refine hK.out _ _ ⟨r71.below b8, r72.below b8⟩ (fun hHeld => ?_)
    clear hK K
    try simp only [Act.put, List.setIfInBounds_toArray, List.set_cons_zero, List.set_cons_succ]
    obtain ⟨a8, c8, rfl⟩ := ho8.at_ (n := 2) rfl
    have ba := b8'.alloc b8'.size (.cells (evA lx ++ evA ly) 33)
    have bn : Below w8.heap.size w8 (w8.alloc (.cells (evA lx ++ evA ly) 33)) := (Below.refl _ w8).alloc (Nat.le_refl _) _
    have rA := And.intro ((r71.below b8).below bn) ((r72.below b8).below bn)
    have e8 := ho8.ev_.2.2.below bn
    have e9 := two_new w8 lx ly
    have SE := same_eq2 (xc := c8) (yc := 2) e8 e9
    rw [lx_A, ly_A] at *
    refine anyH_one (i := 15) (by kernel_rfl) rfl (fun K hK => ?_)
    go_simp
    refine hK.out _ _ rA (fun hHeld => ?_)
    clear hK K
    try simp only [Act.put, List.setIfInBounds_toArray, List.set_cons_zero, List.set_cons_succ]
    refine anyH_one (i := 16) (by kernel_rfl) rfl (fun K hK => ?_)
    go_simp
    go_at_call 13
    refine (SE).mono ?_
    rintro r w9 ⟨rfl, b9⟩
    have bf := below2 ba ba.size b9
    have g1 := rA.1.below b9
    have g2 := rA.2.below b9
    refine hK.out _ _ ⟨g1, g2⟩ (fun hHeld => ?_)
    clear hK K
    try simp only [Act.put, List.setIfInBounds_toArray, List.set_cons_zero, List.set_cons_succ]
    refine anyH_take (i := 17) (v := ?_) (some 39) rfl rfl (by kernel_rfl) (fun _ _ _ h => h) (Or.inl ⟨by rfl, ?_⟩) (by assumption) ?_
    rotate_left
    · (intro w hSw; go_simp; all_goals with_reducible rfl)
    try simp only [Act.put, List.setIfInBounds_toArray, List.set_cons_zero, List.set_cons_succ]
    refine anyH_take (i := 18) (v := ?_) (some 0) rfl rfl (by kernel_rfl) (fun _ _ _ h => h) (Or.inl ⟨by rfl, ?_⟩) (by assumption) ?_
    rotate_left
    · (intro w hSw; go_simp; all_goals with_reducible rfl)
    try simp only [Act.put, List.setIfInBounds_toArray, List.set_cons_zero, List.set_cons_succ]
    refine wpAnyH_done (by kernel_rfl) ?_ _
    go_wp2_with fail
    go_ret
    exact ⟨rfl, bf⟩
  · have ba := b7.alloc b7.size (.cells (evA lx ++ evA ly) 33)
    have bn : Below W7.heap.size W7 (W7.alloc (.cells (evA lx ++ evA ly) 33)) := (Below.refl _ W7).alloc (Nat.le_refl _) _
    have rB := And.intro (r71.below bn) (r72.below bn)
    have q8 := q7.below bn
    have e9 := two_new W7 lx ly
    have AL := all_any q8
    rw [lx_A, ly_A] at *
    go_simp
    refine hK.out _ _ rB (fun hHeld => ?_)
    clear hK K
    try simp only [Act.put, List.setIfInBounds_toArray, List.set_cons_zero, List.set_cons_succ]
    refine anyH_one (i := 12) (by kernel_rfl) rfl (fun K hK => ?_)
    go_simp
    go_at_call 14
    refine AL.mono ?_
    rintro r w8 ⟨v8, rfl, ho8, b8⟩
    have b8' := below2 ba ba.size b8
    have rA := And.intro (rB.1.below b8) (rB.2.below b8)
    obtain ⟨a8, c8, rfl⟩ := ho8.at_ (n := 2) rfl
    have SE := same_eq2 (xc := c8) (yc := 2) ho8.ev_.2.2 (e9.below b8)
    refine hK.out _ _ rA (fun hHeld => ?_)
    clear hK K
    try simp only [Act.put, List.setIfInBounds_toArray, List.set_cons_zero, List.set_cons_succ]
    refine anyH_one (i := 16) (by kernel_rfl) rfl (fun K hK => ?_)
    go_simp
    go_at_call 13
    refine (SE).mono ?_
    rintro r w9 ⟨rfl, b9⟩
    have bf := below2 b8' b8'.size b9
    have g1 := rA.1.below b9
    have g2 := rA.2.below b9
    refine hK.out _ _ ⟨g1, g2⟩ (fun hHeld => ?_)
    clear hK K
    try simp only [Act.put, List.setIfInBounds_toArray, List.set_cons_zero, List.set_cons_succ]
    refine anyH_take (i := 17) (v := ?_) (some 39) rfl rfl (by kernel_rfl) (fun _ _ _ h => h) (Or.inl ⟨by rfl, ?_⟩) (by assumption) ?_
    rotate_left
    · (intro w hSw; go_simp; all_goals with_reducible rfl)
    try simp only [Act.put, List.setIfInBounds_toArray, List.set_cons_zero, List.set_cons_succ]
    refine anyH_take (i := 18) (v := ?_) (some 0) rfl rfl (by kernel_rfl) (fun _ _ _ h => h) (Or.inl ⟨by rfl, ?_⟩) (by assumption) ?_
    rotate_left
    · (intro w hSw; go_simp; all_goals with_reducible rfl)
    try simp only [Act.put, List.setIfInBounds_toArray, List.set_cons_zero, List.set_cons_succ]
    refine wpAnyH_done (by kernel_rfl) ?_ _
    go_wp2_with fail
    go_ret
    exact ⟨rfl, bf⟩
end Go.Proofs.YtcffmdimfmpheaaDoor
