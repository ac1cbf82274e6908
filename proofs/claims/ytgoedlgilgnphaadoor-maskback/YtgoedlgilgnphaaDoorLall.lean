/- The statement's own helper all: the members, as many as are wanted. -/
import Derived.Test.YtgoedlgilgnphaaDoorRefs
import Derived.Test.YtgoedlgilgnphaaDoorAny
namespace Go.Proofs.YtgoedlgilgnphaaDoor
open Go.RowKit Go.Shelf
attribute [local go_sem] Oper.semAt_some

theorem eql_func (p : Value) (W : World) : Sem.run Tryd.prog (binOp .eql 56 (.func (.func 49) #[] #[p]) .nilFunc) W = .ok (.bool false) W := by kernel_rfl

theorem row_lower {W : World} {b b' : Nat} {v : Value} {xs : List Int} (h : W.ownsRow b' 3 1 v xs.length (xs.map (Value.int .i64))) (hb : b ≤ b') : RowI W b v xs :=
  ⟨h.1, h.2.imp id (fun ⟨g, cap, cur, h1, h2, h3⟩ => ⟨g, cap, cur, h1, by omega, h3⟩)⟩

set_option maxRecDepth 100000 in
set_option maxHeartbeats 4000000 in
theorem lall_in (m most : Nat) (hm : m < 18446744073709551616) (hmost : most < 256) (w : World) (hT : Tab w) :
    CallsIn Fence.wide 5 Tryd.prog 8 #[.int .u64 m, .int .i64 most] w fun e w' => ∃ v, e = .returned (.tuple #[v, .bool true]) ∧ RowI w' w.heap.size v (toI ((mem m).take most)) ∧ Below w.heap.size w w' := by
  obtain ⟨i0, hi, hz0, hz1, hz2⟩ := info_parts Tryd.info3
  have hef := eql_func
  refine callsIn_of_wp_marks Tryd.func8 rfl trivial ?_ rfl
  simp only [Tryd.ntmps8, List.size_toArray, List.length_cons, List.length_nil, Nat.reduceAdd, Nat.reduceSub, Array.replicate_succ, Array.replicate_zero, List.push_toArray, List.append_toArray, List.nil_append, List.cons_append]
  gi_wp2_with (refine ⟨trivial, ?_⟩; gi_at_call 37; refine (callsIn_wide.2 (all_any _ _)).mono ?_; rintro e w' ⟨rfl, rfl⟩)
  have hB1 : Below w.heap.size w (((w.alloc (Obj.cells #[Value.int IntKind.i64 ↑most] 3)).alloc (Obj.cells #[Value.int IntKind.u64 ↑m] 23)).alloc (Obj.cells #[Value.slice none 0 0] 24)) :=
    (((Below.refl _ w).alloc (Nat.le_refl _) _).alloc (by simp) _).alloc (by simp; omega) _
  have b0 : Boxed (((w.alloc (Obj.cells #[Value.int IntKind.i64 ↑most] 3)).alloc (Obj.cells #[Value.int IntKind.u64 ↑m] 23)).alloc (Obj.cells #[Value.slice none 0 0] 24)) w.heap.size 3 (.int .i64 most) := ((Boxed.new w 3 (.int .i64 most)).alloc _).alloc _
  have b1 : Boxed (((w.alloc (Obj.cells #[Value.int IntKind.i64 ↑most] 3)).alloc (Obj.cells #[Value.int IntKind.u64 ↑m] 23)).alloc (Obj.cells #[Value.slice none 0 0] 24)) (w.heap.size + 1) 23 (.int .u64 m) := by
    have := Boxed.new (w.alloc (Obj.cells #[Value.int IntKind.i64 ↑most] 3)) 23 (.int .u64 m)
    rw [World.size_alloc] at this
    exact this.alloc _
  have b2 : Boxed (((w.alloc (Obj.cells #[Value.int IntKind.i64 ↑most] 3)).alloc (Obj.cells #[Value.int IntKind.u64 ↑m] 23)).alloc (Obj.cells #[Value.slice none 0 0] 24)) (w.heap.size + 1 + 1) 24 (.slice none 0 0) := by
    have := Boxed.new ((w.alloc (Obj.cells #[Value.int IntKind.i64 ↑most] 3)).alloc (Obj.cells #[Value.int IntKind.u64 ↑m] 23)) 24 (.slice none 0 0)
    rw [World.size_alloc, World.size_alloc] at this
    exact this
  have hsz : (((w.alloc (Obj.cells #[Value.int IntKind.i64 ↑most] 3)).alloc (Obj.cells #[Value.int IntKind.u64 ↑m] 23)).alloc (Obj.cells #[Value.slice none 0 0] 24)).heap.size = w.heap.size + 3 := by simp
  generalize (((w.alloc (Obj.cells #[Value.int IntKind.i64 ↑most] 3)).alloc (Obj.cells #[Value.int IntKind.u64 ↑m] 23)).alloc (Obj.cells #[Value.slice none 0 0] 24)) = W0 at hB1 b0 b1 b2 hsz ⊢
  have hT0 := hT.below hB1 (Nat.le_refl _)
  clear hef
  refine wpIn_rangeFunc_ownG rfl (by omega) (gf := 49) (lb := #[.pointer (some ⟨w.heap.size + 1, 0, none⟩)]) rfl trivial (enters_of Tryd.func49 (by kernel_rfl) rfl)
    (all_stops (5 - 1) (by omega) (w.heap.size + 1) w.heap.size m hm W0 hT.1 (by omega) b1.cell hT0) keepB_t (keepB_b (by omega) (by omega)) (Below.refl _ _) (fun _ => rfl)
    (fun pre W => (∃ v, Boxed W (w.heap.size + 1 + 1) 24 v ∧ W.ownsRow (w.heap.size + 1 + 1) 3 1 v (toI (vals pre)).length ((toI (vals pre)).map (Value.int .i64)) ∧ True) ∧ (Boxed W w.heap.size 3 (.int .i64 most) ∧ Boxed W (w.heap.size + 1) 23 (.int .u64 m) ∧ pre.length ≤ most) ∧ Below w.heap.size w W)
    (fun c pre W => (∃ v, Boxed W (w.heap.size + 1 + 1) 24 v ∧ W.ownsRow (w.heap.size + 1 + 1) 3 1 v (toI ((vals pre).take most)).length ((toI ((vals pre).take most)).map (Value.int .i64)) ∧ True) ∧ (c = .exit 0 ∧ most ≤ pre.length) ∧ Below w.heap.size w W)
    (OwnFrom.and (Own.from (holdsRow_own (w.heap.size + 1 + 1) (w.heap.size + 1 + 1) 24 3 1 (fun pre : List C64 => (toI (vals pre)).length) (fun pre => (toI (vals pre)).map (Value.int .i64)) (fun _ _ => True)) _) (OwnFrom.and (Own.from (fun _ A B row hs hg hr => ⟨boxed_kept hs.1 hg hr, boxed_kept hs.2.1 hg hr, hs.2.2⟩) _) (ownFrom_below (Nat.le_refl _) (by omega))))
    (fun c => OwnFrom.and (Own.from (holdsRow_own (w.heap.size + 1 + 1) (w.heap.size + 1 + 1) 24 3 1 (fun pre : List C64 => (toI ((vals pre).take most)).length) (fun pre => (toI ((vals pre).take most)).map (Value.int .i64)) (fun _ _ => True)) _) (OwnFrom.and (Own.from (fun _ A B row hs hg hr => hs) _) (ownFrom_below (Nat.le_refl _) (by omega))))
    ⟨⟨_, b2, World.ownsRow_nil _ _ _ _, trivial⟩, ⟨b0, b1, by simp⟩, hB1⟩ ?a1 ?assign ?body ?done ?stop
  case assign =>
    intro l x W K hK
    gi_wp2
    exact hK
  case body =>
    rintro l pre ⟨x, hx⟩ W ⟨⟨v, hv, hrow, _⟩, ⟨c0, c1, hle⟩, hB⟩ hlt
    have d0 := c0.cell
    have d2 := hv.cell
    have hlen : (toI (vals pre)).length = pre.length := by rw [toI_length]; simp [vals]
    have ev : vals (pre ++ [⟨x, hx⟩]) = vals pre ++ [x] := by simp [vals]
    have es : toI (vals (pre ++ [⟨x, hx⟩])) = toI (vals pre) ++ [(x : Int)] := by rw [ev, toI_append]; rfl
    have hB2 : w.heap.size + 3 ≤ W.heap.size := by
      have h2 := hv.lt
      omega
    have hvl : (vals pre).length = pre.length := by simp [vals]
    rw [hlen] at hrow
    have hvv : ∃ a c, v = .slice a pre.length c := by
      rcases hrow.2 with ⟨rfl, h0⟩ | ⟨g, cap, cur, rfl, _⟩
      · exact ⟨none, 0, by rw [h0]⟩
      · exact ⟨_, cap, rfl⟩
    obtain ⟨sa, sc, rfl⟩ := hvv
    clear hlen
    dsimp only
    by_cases hq : pre.length = most
    · have hq1 : (((pre.length : Nat) : Int) == ((most : Nat) : Int)) = true := by rw [hq]; simp
      clear hi hz0 hz1 hz2
      gi_wp2_with fail
      refine ⟨KeepsFrom.refl _ _, ⟨⟨_, hv, ?_, trivial⟩, ⟨rfl, by simp; omega⟩, hB⟩⟩
      have e1 : (vals (pre ++ [⟨x, hx⟩])).take most = vals pre := by
        rw [ev, List.take_append_of_le_length (by omega), List.take_of_length_le (by omega)]
      rw [e1, toI_length, hvl]
      exact hrow
    · have hq1 : (((pre.length : Nat) : Int) == ((most : Nat) : Int)) = false := by simp; omega
      gi_wp2_with (gi_at_builtin; refine wpListIn_append_own _ rfl _ _ 24 rfl (w.heap.size + 1 + 1) 3 i0 (.int .i64 0) 1 8 Tryd.underlying24 hi hz0 hz1 hz2 rfl (by decide) _ _ _ rfl (hrow.alloc _) ⟨_, 0, none⟩ 1 1 [.int .i64 x] rfl rfl (cell_one_new _ _ _) (by simp [Value.oneCell']) (by unfold maxLen; omega) (by omega) (by simp; omega) ?_; intro v' w1 hown' hgrow _; obtain ⟨g', cap', rfl⟩ := ownsRow_succ hown'; obtain ⟨hv1, hv2, hr2, hk2, hb2⟩ := hv.appended (by decide) hrow (by omega) (Nat.le_refl _) hown' hgrow; have hc1 := hv1.cell; have hf1 := hv1.frozen)
      have hb3 := hb2.mono (show w.heap.size ≤ w.heap.size + 1 + 1 by omega)
      have hbox : ∀ b t u, b < w.heap.size + 1 + 1 → Boxed W b t u → Boxed _ b t u := fun b t u hb h => (hb2.block b hb).trans h
      refine ⟨hk2.from _, ⟨hb3, hb2.block _ (by omega)⟩, ⟨_, hv2, ?_, trivial⟩, ⟨hbox _ _ _ (by omega) c0, hbox _ _ _ (by omega) c1, by simp; omega⟩, hB.trans hb3⟩
      rw [es]
      have el : (toI (vals pre) ++ [(x : Int)]).length = pre.length + 1 := by rw [List.length_append, toI_length, hvl]; rfl
      rw [el, List.map_append]
      exact hr2
  case done =>
    rintro D ys W hD rfl ⟨⟨v, hv, hrow, _⟩, ⟨c0, c1, hle⟩, hB⟩ hK
    have d2 := hv.cell
    gi_wp2
    refine ⟨by simp, .inl ⟨_, _, rfl, run_takeDeferred hK, ?_⟩⟩
    rw [vals_memS] at hrow
    have et : (mem m).take most = mem m := by
      apply List.take_of_length_le
      rw [← vals_memS]
      simpa [vals] using hle
    refine ⟨.tuple #[v, .bool true], by simp [results, Tryd.f8, go_sem], v, rfl, ?_, hB.trans (belowK_b (w := w) (Nat.le_refl _) W D _ _ (by omega) hK rfl rfl)⟩
    rw [et]
    exact row_lower (ownsRow_putObj hrow _ hK rfl) (by omega)
  case stop =>
    rintro D c pre W hD hpre ⟨⟨v, hv, hrow, _⟩, ⟨rfl, hle⟩, hB⟩ hK
    have d2 := hv.cell
    gi_wp2
    refine ⟨by simp, .inl ⟨_, _, rfl, run_takeDeferred hK, ?_⟩⟩
    refine ⟨.tuple #[v, .bool true], by simp [results, Tryd.f8, go_sem], v, rfl, ?_, hB.trans (belowK_b (w := w) (Nat.le_refl _) W D _ _ (by omega) hK rfl rfl)⟩
    have et : (vals pre).take most = (mem m).take most := by
      rw [← vals_memS]
      obtain ⟨suf, hsuf⟩ := hpre
      rw [← hsuf]
      have : vals (pre ++ suf) = vals pre ++ vals suf := by simp [vals]
      rw [this, List.take_append_of_le_length (by simpa [vals] using hle)]
    rw [et] at hrow
    exact row_lower (ownsRow_putObj hrow _ hK rfl) (by omega)

theorem lall_any (m most : Nat) (hm : m < 18446744073709551616) (hmost : most < 256) (w : World) (hT : Tab w) :
    Calls Tryd.prog 8 #[.int .u64 m, .int .i64 most] w fun e w' => ∃ v, e = .returned (.tuple #[v, .bool true]) ∧ RowI w' w.heap.size v (toI ((mem m).take most)) ∧ Below w.heap.size w w' :=
  (callsIn_wide (n := 5)).1 (lall_in m most hm hmost w hT)

end Go.Proofs.YtgoedlgilgnphaaDoor
