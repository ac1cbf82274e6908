/- mask's Nth. -/
import Derived.Test.YtgoedlgilgnphaaDoorQuietA
import Derived.Test.YtgoedlgilgnphaaDoorLives
namespace Go.Proofs.YtgoedlgilgnphaaDoor
open Go.RowKit Go.Shelf
attribute [local go_sem] Oper.semAt_some

/-- The k-th member; -1: there is none. -/
def nthI (m : Nat) (k : Int) : Int := if 0 ≤ k then (match (mem m)[k.toNat]? with | some x => (x : Int) | none => -1) else -1

theorem rank_at {m j x : Nat} (h : (mem m)[j]? = some x) : (belowL (x : Int) (mem m)).length = j := by
  obtain ⟨hj, e⟩ := List.getElem?_eq_some_iff.1 h
  have es : mem m = (mem m).take j ++ x :: (mem m).drop (j + 1) := by
    rw [← e]
    simp
  have h1 := filter_lt_pre (mem_sorted m) es
  have h2 : belowL (x : Int) (mem m) = (mem m).take j := by
    rw [← h1]
    unfold belowL
    congr 1
    funext y
    rw [decide_eq_decide]
    omega
  rw [h2, List.length_take]
  omega

theorem nth_some {m : Nat} {k : Int} {x : Nat} (hx : x ∈ mem m) (h : ((belowL (x : Int) (mem m)).length : Int) = k) : nthI m k = x := by
  obtain ⟨j, hj, e⟩ := List.getElem_of_mem hx
  have h1 : (mem m)[j]? = some x := by rw [List.getElem?_eq_getElem hj, e]
  have h2 := rank_at h1
  unfold nthI
  rw [if_pos (by omega)]
  have e2 : k.toNat = j := by omega
  rw [e2, h1]

theorem nth_none {m : Nat} {k : Int} (h : ∀ x ∈ mem m, ((belowL (x : Int) (mem m)).length : Int) ≠ k) : nthI m k = -1 := by
  unfold nthI
  split
  · rename_i hk
    cases hx : (mem m)[k.toNat]? with
    | none => rfl
    | some x =>
      exfalso
      have h2 := rank_at hx
      exact h x (List.mem_of_getElem? hx) (by omega)
  · rfl

set_option maxRecDepth 100000 in
set_option maxHeartbeats 2000000 in
theorem nth_in (m : Nat) (k : Int) (hm : m < 18446744073709551616) (w : World) (hT : Tab w) :
    CallsIn Fence.wide 5 Tryd.prog 22 #[.int .u64 m, .int .i64 k] w fun e w' => e = .returned (.int .i64 (nthI m k)) ∧ Below w.heap.size w w' := by
  refine callsIn_of_wp_marks Tryd.func22 rfl trivial ?_ rfl
  simp only [Tryd.ntmps22, List.size_toArray, List.length_cons, List.length_nil, Nat.reduceAdd, Nat.reduceSub, Array.replicate_succ, Array.replicate_zero, List.push_toArray, List.append_toArray, List.nil_append, List.cons_append]
  gi_wp2_with (refine ⟨trivial, ?_⟩; gi_at_call 37; refine (callsIn_wide.2 (all_any _ _)).mono ?_; rintro e w' ⟨rfl, rfl⟩)
  have hB1 : Below w.heap.size w ((((w.alloc (Obj.cells #[Value.int IntKind.u64 ↑m] 23)).alloc (Obj.cells #[Value.int IntKind.i64 k] 3)).alloc (Obj.cells #[Value.int IntKind.i64 0] 3)).alloc (Obj.cells #[Value.int IntKind.u64 ↑m] 23)) :=
    ((((Below.refl _ w).alloc (Nat.le_refl _) _).alloc (by simp) _).alloc (by simp; omega) _).alloc (by simp; omega) _
  have b0 : Boxed ((((w.alloc (Obj.cells #[Value.int IntKind.u64 ↑m] 23)).alloc (Obj.cells #[Value.int IntKind.i64 k] 3)).alloc (Obj.cells #[Value.int IntKind.i64 0] 3)).alloc (Obj.cells #[Value.int IntKind.u64 ↑m] 23)) w.heap.size 23 (.int .u64 m) :=
    (((Boxed.new w 23 (.int .u64 m)).alloc _).alloc _).alloc _
  have b1 : Boxed ((((w.alloc (Obj.cells #[Value.int IntKind.u64 ↑m] 23)).alloc (Obj.cells #[Value.int IntKind.i64 k] 3)).alloc (Obj.cells #[Value.int IntKind.i64 0] 3)).alloc (Obj.cells #[Value.int IntKind.u64 ↑m] 23)) (w.heap.size + 1) 3 (.int .i64 k) := by
    have := Boxed.new (w.alloc (Obj.cells #[Value.int IntKind.u64 ↑m] 23)) 3 (.int .i64 k)
    rw [World.size_alloc] at this
    exact (this.alloc _).alloc _
  have b2 : Boxed ((((w.alloc (Obj.cells #[Value.int IntKind.u64 ↑m] 23)).alloc (Obj.cells #[Value.int IntKind.i64 k] 3)).alloc (Obj.cells #[Value.int IntKind.i64 0] 3)).alloc (Obj.cells #[Value.int IntKind.u64 ↑m] 23)) (w.heap.size + 1 + 1) 3 (.int .i64 0) := by
    have := Boxed.new ((w.alloc (Obj.cells #[Value.int IntKind.u64 ↑m] 23)).alloc (Obj.cells #[Value.int IntKind.i64 k] 3)) 3 (.int .i64 0)
    rw [World.size_alloc, World.size_alloc] at this
    exact this.alloc _
  have b3 : Boxed ((((w.alloc (Obj.cells #[Value.int IntKind.u64 ↑m] 23)).alloc (Obj.cells #[Value.int IntKind.i64 k] 3)).alloc (Obj.cells #[Value.int IntKind.i64 0] 3)).alloc (Obj.cells #[Value.int IntKind.u64 ↑m] 23)) (w.heap.size + 1 + 1 + 1) 23 (.int .u64 m) := by
    have := Boxed.new (((w.alloc (Obj.cells #[Value.int IntKind.u64 ↑m] 23)).alloc (Obj.cells #[Value.int IntKind.i64 k] 3)).alloc (Obj.cells #[Value.int IntKind.i64 0] 3)) 23 (.int .u64 m)
    rw [World.size_alloc, World.size_alloc, World.size_alloc] at this
    exact this
  have hsz : ((((w.alloc (Obj.cells #[Value.int IntKind.u64 ↑m] 23)).alloc (Obj.cells #[Value.int IntKind.i64 k] 3)).alloc (Obj.cells #[Value.int IntKind.i64 0] 3)).alloc (Obj.cells #[Value.int IntKind.u64 ↑m] 23)).heap.size = w.heap.size + 4 := by simp
  generalize ((((w.alloc (Obj.cells #[Value.int IntKind.u64 ↑m] 23)).alloc (Obj.cells #[Value.int IntKind.i64 k] 3)).alloc (Obj.cells #[Value.int IntKind.i64 0] 3)).alloc (Obj.cells #[Value.int IntKind.u64 ↑m] 23)) = W0 at hB1 b0 b1 b2 b3 hsz ⊢
  have hT0 := hT.below hB1 (Nat.le_refl _)
  refine wpIn_rangeFunc_ownG rfl (by omega) (gf := 49) (lb := #[.pointer (some ⟨w.heap.size + 1 + 1 + 1, 0, none⟩)]) rfl trivial (enters_of Tryd.func49 (by kernel_rfl) rfl)
    (all_stops (5 - 1) (by omega) (w.heap.size + 1 + 1 + 1) w.heap.size m hm W0 hT.1 (by omega) b3.cell hT0) keepB_t (keepB_b (by omega) (by omega)) (Below.refl _ _) (fun _ => rfl)
    (fun pre W => ((∀ x ∈ vals pre, ((belowL (x : Int) (mem m)).length : Int) ≠ k) ∧ Boxed W w.heap.size 23 (.int .u64 m) ∧ Boxed W (w.heap.size + 1) 3 (.int .i64 k) ∧ Boxed W (w.heap.size + 1 + 1) 3 (.int .i64 0)) ∧ Below w.heap.size w W)
    (fun c pre W => (c = .ret ∧ ∃ x, x ∈ vals pre ∧ ((belowL (x : Int) (mem m)).length : Int) = k ∧ Boxed W (w.heap.size + 1 + 1) 3 (.int .i64 (x : Nat))) ∧ Below w.heap.size w W)
    (OwnFrom.and (Own.from (fun pre A B row hs hg hr => ⟨hs.1, boxed_kept hs.2.1 hg hr, boxed_kept hs.2.2.1 hg hr, boxed_kept hs.2.2.2 hg hr⟩) _) (ownFrom_below (Nat.le_refl _) (by omega)))
    (fun c => OwnFrom.and (Own.from (fun pre A B row hs hg hr => ⟨hs.1, hs.2.choose, hs.2.choose_spec.1, hs.2.choose_spec.2.1, boxed_kept hs.2.choose_spec.2.2 hg hr⟩) _) (ownFrom_below (Nat.le_refl _) (by omega)))
    ⟨⟨by simp [vals], b0, b1, b2⟩, hB1⟩ ?a1 ?assign ?body ?done ?stop
  case assign =>
    intro l x W K hK
    gi_wp2
    exact hK
  case body =>
    rintro l pre ⟨x, hx⟩ W ⟨⟨hall, c0, c1, c2⟩, hB⟩ hlt
    have d0 := c0.cell
    have d1 := c1.cell
    have d2 := c2.cell
    have d3 := c2.frozen
    have hmx : Tryd.prog.follows .mixedOrders = true := by kernel_rfl
    have hr := rank_any m x hm
    dsimp only
    gi_wp2_with fail
    refine wpIn_region_quietA hmx (by kernel_rfl) (by kernel_rfl) ?_
    repeat (go_big_quiet_step ((go_at_call 23; exact Calls.quiet_of_same (hr _ (by omega) (by omega)))))
    refine wpQuiet_nil ?_
    rintro _ ⟨nq, rfl⟩
    have ev : vals (pre ++ [⟨x, hx⟩]) = vals pre ++ [x] := by simp [vals]
    have hB2 := hB.size
    gi_wp2_with fail
    · rename_i hq
      have hq' : ((belowL (x : Int) (mem m)).length : Int) = k := eq_of_beq hq
      exact ⟨((keepsOthers_drewN W nq).trans (KeepsOthers.setCell _ _ _)).from _, ⟨rfl, x, by rw [ev]; simp, hq', (boxed_drewN c2 nq).set _⟩, (below_drewN hB nq).setCell (p := ⟨w.heap.size + 1 + 1, 0, none⟩) (by simp; omega) _⟩
    · rename_i hq
      have hq' : ((belowL (x : Int) (mem m)).length : Int) ≠ k := by intro e; rw [e] at hq; simp at hq
      refine ⟨(keepsOthers_drewN W nq).from _, ⟨below_drewN (Below.refl _ W) nq, rfl⟩, ⟨?_, boxed_drewN c0 nq, boxed_drewN c1 nq, boxed_drewN c2 nq⟩, below_drewN hB nq⟩
      rw [ev]
      intro z hz
      rcases List.mem_append.1 hz with h1 | h1
      · exact hall z h1
      · simp at h1; subst h1; exact hq'
  case done =>
    rintro D ys W hD rfl ⟨⟨hall, c0, c1, c2⟩, hB⟩ hK
    rw [vals_memS] at hall
    have d2 := c2.cell
    have d3 := c2.frozen
    gi_wp2
    have hK' := (KeepsOthers.setCell W ⟨w.heap.size + 1 + 1, 0, none⟩ (.int .i64 (-1))).same D _ hK rfl
    refine ⟨by simp, .inl ⟨_, _, rfl, run_takeDeferred hK', ?_⟩⟩
    have hc5 := cell_kept (World.cell?_setCell_same' W ⟨w.heap.size + 1 + 1, 0, none⟩ (.int .i64 (-1)) (by rw [d2]; rfl)) (grownBy_putObj' _ D (.deferred none)) (fun r e => by cases e; exact ⟨_, hK', rfl⟩)
    refine ⟨.int .i64 (-1), ?_, by rw [nth_none hall], (hB.setCell (p := ⟨w.heap.size + 1 + 1, 0, none⟩) (by simp; omega) _).trans (belowK_b (w := w) (Nat.le_refl _) _ D _ _ (by omega) hK' rfl rfl)⟩
    simp [results, Tryd.f22, go_sem, hc5]
  case stop =>
    rintro D c pre W hD hpre ⟨⟨rfl, x, hx, hr, c2⟩, hB⟩ hK
    gi_wp2
    refine ⟨by simp, .inl ⟨_, _, rfl, run_takeDeferred hK, ?_⟩⟩
    have hc5 := cell_kept c2.cell (grownBy_putObj' _ D (.deferred none)) (fun r e => by cases e; exact ⟨_, hK, rfl⟩)
    have hxm : x ∈ mem m := by
      rw [← vals_memS]
      exact (hpre.map (fun y : C64 => y.1)).subset hx
    refine ⟨.int .i64 x, ?_, by rw [nth_some hxm hr], hB.trans (belowK_b (w := w) (Nat.le_refl _) W D _ _ (by omega) hK rfl rfl)⟩
    simp [results, Tryd.f22, go_sem, hc5]

theorem nth_any (m : Nat) (k : Int) (hm : m < 18446744073709551616) (w : World) (hT : Tab w) :
    Calls Tryd.prog 22 #[.int .u64 m, .int .i64 k] w fun e w' => e = .returned (.int .i64 (nthI m k)) ∧ Below w.heap.size w w' :=
  (callsIn_wide (n := 5)).1 (nth_in m k hm w hT)

end Go.Proofs.YtgoedlgilgnphaaDoor
