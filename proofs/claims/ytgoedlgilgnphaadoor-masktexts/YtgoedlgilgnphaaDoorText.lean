/- mask's Text. -/
import Derived.Test.YtgoedlgilgnphaaDoorRuns
import Derived.Test.YtgoedlgilgnphaaDoorTurn
import Derived.Maps.AppendAt
import Derived.Test.YtgoedlgilgnphaaDoorAny
namespace Go.Proofs.YtgoedlgilgnphaaDoor
open Go.RowKit Go.Shelf
attribute [local go_sem] Oper.semAt_some

/-- The texts of the runs of a list. -/
def partsL (l : List R64) : List (List UInt8) := l.map fun p => partL p.1.1 p.1.2
/-- The text of a set. -/
def textL (m : Nat) : List UInt8 := if m = 0 then [45] else Lib.join (partsL (runsS m)) [44]

theorem join_any (bk cap : Nat) (bs : List (List UInt8)) (W : World) (k : Nat) (hk : k = bs.length) (hc : ∀ (j : Nat) b, bs[j]? = some b → W.cell? ⟨bk, j, none⟩ = some (.string ⟨b.toArray⟩)) (hb : bk < W.heap.size) (h1 : k ≤ 140737488355328) (h2 : k ≤ cap)
    (h3 : (Lib.join bs [44]).length ≤ 140737488355328) :
    Calls Tryd.prog 47 #[.slice (some ⟨bk, 0, none⟩) k cap, .string ⟨#[44]⟩] W fun e w' => e = .returned (.string ⟨(Lib.join bs [44]).toArray⟩) ∧ Below W.heap.size W w' := by
  have e1 : ((bs.map fun b => (⟨b.toArray⟩ : ByteArray)).map (·.data.toList)) = bs := by simp [Function.comp_def]
  have e2 : k = (bs.map fun b => (⟨b.toArray⟩ : ByteArray)).length := by rw [List.length_map]; exact hk
  have hj := Tryd.strings_Join bk 0 cap (bs.map fun b => ⟨b.toArray⟩) ⟨#[44]⟩ W (by
    intro j x hx
    rw [List.getElem?_map] at hx
    cases he : bs[j]? with
    | none => rw [he] at hx; cases hx
    | some b => rw [he] at hx; cases hx; rw [Nat.zero_add]; exact hc j b he) hb (by rw [← e2]; exact h1) (by rw [← e2]; exact h2) (by rw [e1]; exact h3)
  rw [e1, ← e2] at hj
  exact hj

/-- The same as values. -/
def strs (l : List R64) : List Value := (partsL l).map fun b => Value.string ⟨b.toArray⟩

theorem strs_length (l : List R64) : (strs l).length = l.length := by simp [strs, partsL]
theorem runsS_length (m : Nat) : (runsS m).length ≤ 64 := by
  have h1 : (runsS m).length = (starts m).length := by simp [runsS]
  have h2 : (starts m).length ≤ (mem m).length := List.length_filter_le _ _
  have := mem_length_le m
  omega

theorem partL_length (a b : Nat) (ha : a < 64) (hb : b < 64) : (partL a b).length ≤ 5 := by
  have h1 := digits_le a (by omega)
  have h2 := digits_le b (by omega)
  unfold partL
  split
  · omega
  · simp; omega

theorem joinTail_small : ∀ (l : List R64), (Lib.joinTail [44] (partsL l)).length ≤ 6 * l.length
  | [] => by simp [Lib.joinTail, partsL]
  | p :: l => by
    have ih := joinTail_small l
    have h := partL_length p.1.1 p.1.2 p.2.1 p.2.2
    simp only [Lib.joinTail, partsL, List.map_cons, List.flatten_cons, List.length_append, List.length_cons, List.length_nil] at ih ⊢
    omega

theorem join_small (l : List R64) : (Lib.join (partsL l) [44]).length ≤ 6 * l.length := by
  cases l with
  | nil => simp [Lib.join, partsL, List.intercalate]
  | cons p l =>
    have h := partL_length p.1.1 p.1.2 p.2.1 p.2.2
    have ih := joinTail_small l
    have e : partsL (p :: l) = partL p.1.1 p.1.2 :: partsL l := rfl
    rw [e, Lib.join_cons, List.length_append]
    simp only [List.length_cons]
    omega

theorem Tryd.info9 : (Tryd.prog.info? 9).map (fun i => (i.zero, i.size, i.bytes)) = some (some (.string ⟨#[]⟩), 1, 16) := by kernel_rfl

set_option maxRecDepth 100000 in
set_option maxHeartbeats 2000000 in
theorem text_in (m : Nat) (hm : m < 18446744073709551616) (h0 : m ≠ 0) (w : World) (hT : Tab w) :
    CallsIn Fence.wide 5 Tryd.prog 35 #[.int .u64 m] w fun e w' =>
      e = .returned (.string ⟨(textL m).toArray⟩) ∧ Below w.heap.size w w' := by
  have hne : ((m : Int) == 0) = false := by simp; omega
  refine callsIn_of_wp_marks Tryd.func35 rfl trivial ?_ rfl
  simp only [Tryd.ntmps35, List.size_toArray, List.length_cons, List.length_nil, Nat.reduceAdd, Nat.reduceSub, Array.replicate_succ, Array.replicate_zero, List.push_toArray, List.append_toArray, List.nil_append, List.cons_append]
  gi_wp2_with (refine ⟨trivial, ?_⟩; gi_at_call 45; refine (callsIn_wide.2 (runs_any _ _)).mono ?_; rintro e w' ⟨rfl, rfl⟩)
  have bO := (Boxed.new w 65 (.slice none 0 0)).alloc (.cells #[.int .u64 m] 23)
  have bN := Boxed.new (w.alloc (.cells #[.slice none 0 0] 65)) 23 (.int .u64 m)
  rw [World.size_alloc] at bN
  have hB1 : Below w.heap.size w ((w.alloc (.cells #[.slice none 0 0] 65)).alloc (.cells #[.int .u64 m] 23)) := ((Below.refl _ w).alloc (Nat.le_refl _) _).alloc (by simp) _
  have hsz : ((w.alloc (.cells #[.slice none 0 0] 65)).alloc (.cells #[.int .u64 m] 23)).heap.size = w.heap.size + 2 := by simp
  generalize ((w.alloc (.cells #[.slice none 0 0] 65)).alloc (.cells #[.int .u64 m] 23)) = W0 at bO bN hB1 hsz ⊢
  have hT0 := hT.below hB1 (Nat.le_refl _)
  obtain ⟨i0, hi, hz0, hz1, hz2⟩ := info_parts Tryd.info9
  refine wpIn_rangeFunc_ownG rfl (by omega) (gf := 53) (lb := #[.pointer (some ⟨w.heap.size + 1, 0, none⟩)]) rfl trivial (enters_of Tryd.func53 (by kernel_rfl) rfl)
    (runs_stops (5 - 1) (by omega) (w.heap.size + 1) w.heap.size m hm W0 hT.1 (by omega) bN.cell hT0) keepB_t (keepB_b (by omega) (by omega)) (Below.refl _ _) (fun _ => rfl)
    (fun pre W => (∃ v, Boxed W w.heap.size 65 v ∧ W.ownsRow w.heap.size 9 1 v (strs pre).length (strs pre) ∧ True) ∧ Boxed W (w.heap.size + 1) 23 (.int .u64 m) ∧ Below w.heap.size w W)
    (fun _ _ _ => False)
    (OwnFrom.and (Own.from (holdsRow_own w.heap.size w.heap.size 65 9 1 (fun pre => (strs pre).length) (fun pre => strs pre) (fun _ _ => True)) _) (OwnFrom.and (Own.from (fun _ A B row hs hg hr => boxed_kept hs hg hr) _) (ownFrom_below (Nat.le_refl _) (by omega))))
    (fun _ _ _ _ _ hs _ _ => hs)
    ⟨⟨_, bO, World.ownsRow_nil _ _ _ _, trivial⟩, bN, hB1⟩ ?a1 ?assign ?body ?done ?stop
  case assign =>
    intro l x W K hK
    gi_wp2
    exact hK
  case body =>
    rintro l pre ⟨⟨x, y⟩, hx, hy⟩ W ⟨⟨v, hv, hrow, _⟩, hbm, hB⟩ hlt
    have hlt2 : (strs pre).length ≤ 64 := by rw [strs_length]; have := runsS_length m; omega
    have hmx : Tryd.prog.follows .mixedOrders = true := by kernel_rfl
    dsimp only
    gi_wp2_with fail
    refine wpIn_region_any hmx (anyRound (by kernel_rfl) ?_)
    change wpAnyIn _ _ _ _ _ _ _ _ _ (World.drew _)
    have hv0 : Boxed W.drew w.heap.size 65 v := hv
    have hbm0 : Boxed W.drew (w.heap.size + 1) 23 (.int .u64 m) := hbm
    have hrow0 : W.drew.ownsRow w.heap.size 9 1 v (strs pre).length (strs pre) := hrow
    have hKd : KeepsOthers W W.drew := KeepsOthers.drew W
    have hBd : Below w.heap.size W W.drew := (Below.refl _ W).drew
    generalize W.drew = W1 at hv0 hbm0 hrow0 hKd hBd ⊢
    have hc := hv0.cell
    have hBw := hB.trans hBd
    have hsz1 := hBw.size
    have es : strs (pre ++ [⟨(x, y), hx, hy⟩]) = strs pre ++ [.string ⟨(partL x y).toArray⟩] := by simp [strs, partsL]
    refine wpAnyIn_take (i := 1) (v := .int .i64 x) rfl rfl (by kernel_rfl) (by kernel_rfl) (by kernel_rfl) (fun _ _ _ h => h) ⟨Or.inl ⟨rfl, fun w => by go_simp⟩, fun _ => rfl⟩ ?_
    refine wpAnyIn_take (i := 2) (v := .int .i64 y) rfl rfl (by kernel_rfl) (by kernel_rfl) (by kernel_rfl) (fun _ _ _ h => h) ⟨Or.inl ⟨rfl, fun w => by go_simp⟩, fun _ => rfl⟩ ?_
    refine wpAnyIn_ready (rs := [0, 3]) (by kernel_rfl) (by simp) ?_
    refine AllReadyIn.cons rfl (fun K hK => ?_) (AllReadyIn.cons rfl (fun K hK => ?_) AllReadyIn.nil)
    · go_simp
      refine hK _ _ ?_
      clear hK K
      refine wpAnyIn_drop 3 rfl (by kernel_rfl) ?_
      show wpListIn _ _ _ _ _ [_, _, _, _] _ _
      gi_wp2_with (first
        | (refine ⟨trivial, ?_⟩; gi_at_call 46; refine (callsIn_wide.2 (part_any x y (by omega) (by omega) _)).mono ?_; rintro e w' ⟨rfl, rfl⟩)
        | (gi_at_builtin; refine wpListIn_append_own _ rfl _ _ 65 rfl w.heap.size 9 i0 (.string ⟨#[]⟩) 1 16 Tryd.underlying65 hi hz0 hz1 hz2 rfl (by decide) _ _ _ rfl (hrow0.alloc _) ⟨_, 0, none⟩ 1 1 [.string ⟨(partL x y).toArray⟩] rfl rfl (cell_one_new _ _ _) (by simp [Value.oneCell']) (by unfold maxLen; omega) (by omega) (by simp; omega) ?_; intro v' w1 hown' hgrow _; obtain ⟨g', cap', rfl⟩ := ownsRow_succ hown'; obtain ⟨hv1, hv2, hr2, hk2, hb2⟩ := hv0.appended (by decide) hrow0 hsz1 (Nat.le_refl _) hown' hgrow; have hbm1 := (hbm0.alloc _).kept hgrow (hbm0.not_row (by decide) hrow0); have hc1 := hv1.cell; have hf1 := hv1.frozen))
      refine ⟨(hKd.trans hk2).from _, ⟨hBd.trans hb2, ?_⟩, ⟨_, hv2, ?_, trivial⟩, Boxed.other hbm1 (by omega) _, hBw.trans hb2⟩
      · exact (show _ = _ from Boxed.other hbm1 (by omega) _).trans (show _ = _ from hbm).symm
      · rw [es]; simpa using hr2
    · go_simp
      refine ⟨trivial, (callsIn_wide.2 (part_any x y (by omega) (by omega) _)).mono ?_⟩
      rintro e w' ⟨rfl, rfl⟩
      refine hK _ _ ?_
      clear hK K
      refine wpAnyIn_ready (rs := [0, 4]) (by kernel_rfl) (by simp) ?_
      refine AllReadyIn.cons rfl (fun K hK => ?_) (AllReadyIn.cons rfl (fun K hK => ?_) AllReadyIn.nil)
      · go_simp
        refine hK _ _ ?_
        clear hK K
        refine wpAnyIn_drop 4 rfl (by kernel_rfl) ?_
        show wpListIn _ _ _ _ _ [_, _, _] _ _
        gi_wp2_with (first
          | (refine ⟨trivial, ?_⟩; gi_at_call 46; refine (callsIn_wide.2 (part_any x y (by omega) (by omega) _)).mono ?_; rintro e w' ⟨rfl, rfl⟩)
          | (gi_at_builtin; refine wpListIn_append_own _ rfl _ _ 65 rfl w.heap.size 9 i0 (.string ⟨#[]⟩) 1 16 Tryd.underlying65 hi hz0 hz1 hz2 rfl (by decide) _ _ _ rfl (hrow0.alloc _) ⟨_, 0, none⟩ 1 1 [.string ⟨(partL x y).toArray⟩] rfl rfl (cell_one_new _ _ _) (by simp [Value.oneCell']) (by unfold maxLen; omega) (by omega) (by simp; omega) ?_; intro v' w1 hown' hgrow _; obtain ⟨g', cap', rfl⟩ := ownsRow_succ hown'; obtain ⟨hv1, hv2, hr2, hk2, hb2⟩ := hv0.appended (by decide) hrow0 hsz1 (Nat.le_refl _) hown' hgrow; have hbm1 := (hbm0.alloc _).kept hgrow (hbm0.not_row (by decide) hrow0); have hc1 := hv1.cell; have hf1 := hv1.frozen))
        refine ⟨(hKd.trans hk2).from _, ⟨hBd.trans hb2, ?_⟩, ⟨_, hv2, ?_, trivial⟩, Boxed.other hbm1 (by omega) _, hBw.trans hb2⟩
        · exact (show _ = _ from Boxed.other hbm1 (by omega) _).trans (show _ = _ from hbm).symm
        · rw [es]; simpa using hr2
      · go_simp
        refine hK _ _ ?_
        clear hK K
        have hcA := fun o => (hv0.alloc o).cell
        refine wpAnyIn_ready (rs := [0]) (by kernel_rfl) (by simp) ?_
        refine AllReadyIn.cons rfl (fun K hK => ?_) AllReadyIn.nil
        go_simp
        refine hK _ _ ?_
        clear hK K
        refine wpAnyIn_drop 5 rfl (by kernel_rfl) ?_
        show wpListIn _ _ _ _ _ [_, _] _ _
        gi_wp2_with (first
          | (refine ⟨trivial, ?_⟩; gi_at_call 46; refine (callsIn_wide.2 (part_any x y (by omega) (by omega) _)).mono ?_; rintro e w' ⟨rfl, rfl⟩)
          | (gi_at_builtin; refine wpListIn_append_own _ rfl _ _ 65 rfl w.heap.size 9 i0 (.string ⟨#[]⟩) 1 16 Tryd.underlying65 hi hz0 hz1 hz2 rfl (by decide) _ _ _ rfl (hrow0.alloc _) ⟨_, 0, none⟩ 1 1 [.string ⟨(partL x y).toArray⟩] rfl rfl (cell_one_new _ _ _) (by simp [Value.oneCell']) (by unfold maxLen; omega) (by omega) (by simp; omega) ?_; intro v' w1 hown' hgrow _; obtain ⟨g', cap', rfl⟩ := ownsRow_succ hown'; obtain ⟨hv1, hv2, hr2, hk2, hb2⟩ := hv0.appended (by decide) hrow0 hsz1 (Nat.le_refl _) hown' hgrow; have hbm1 := (hbm0.alloc _).kept hgrow (hbm0.not_row (by decide) hrow0); have hc1 := hv1.cell; have hf1 := hv1.frozen))
        refine ⟨(hKd.trans hk2).from _, ⟨hBd.trans hb2, ?_⟩, ⟨_, hv2, ?_, trivial⟩, Boxed.other hbm1 (by omega) _, hBw.trans hb2⟩
        · exact (show _ = _ from Boxed.other hbm1 (by omega) _).trans (show _ = _ from hbm).symm
        · rw [es]; simpa using hr2
  case done =>
    rintro D ys W hD rfl ⟨⟨v, hv, hrow, _⟩, hbm, hB⟩ hK
    have hc := hv.cell
    have hpos : 0 < (strs (runsS m)).length := by
      rw [strs_length]
      cases hr : runsS m with
      | nil =>
        exfalso
        have h1 : starts m = [] := by rw [← firsts_runsS, hr]; rfl
        have h2 := first_start hm
        rw [h1] at h2
        have h3 : mem m ≠ [] := fun e => h0 ((mem_eq_nil hm).1 e)
        obtain ⟨x, _, ex⟩ := headI_mem h3
        change headI (mem m) = -1 at h2
        omega
      | cons a l => simp
    have hlen := runsS_length m
    rcases hrow.2 with ⟨_, h1⟩ | ⟨g, cap, cur, rfl, hgb, hgh, hgc, _, _, _⟩
    · omega
    · have hcells := fun j hj => World.ownsRow.cellAt hrow j hj
      have hj := join_any g cap (partsL (runsS m)) W (strs (runsS m)).length (by simp [strs]) (fun j b hb => by
          rw [hcells j (by have h2 := (List.getElem?_eq_some_iff.1 hb).1; simpa [strs] using h2)]
          simp only [strs, List.getElem?_map, hb, Option.map_some]) (Array.getElem?_eq_some_iff.1 hgh).1 (by rw [strs_length]; omega) hgc (by have := join_small (runsS m); omega)
      have et : Lib.join (partsL (runsS m)) [44] = textL m := by unfold textL; rw [if_neg h0]
      rw [et] at hj
      clear hcells hrow hgh hgc hpos et hlen
      generalize (strs (runsS m)).length = k at hj hv hc
      gi_wp2_with (refine ⟨trivial, ?_⟩; gi_at_call 47; refine (callsIn_wide.2 hj).mono ?_; rintro e w' ⟨rfl, hb3⟩)
      have hDl := (Array.getElem?_eq_some_iff.1 hK).1
      have hK' := (hb3.block D hDl).trans hK
      refine ⟨by simp, .inl ⟨_, _, rfl, run_takeDeferred hK', ?_⟩⟩
      exact ⟨_, results_tmp rfl _ _ _, rfl, (hB.trans (hb3.mono hB.size)).trans (belowK_b (w := w) (Nat.le_refl _) w' D _ _ (by omega) hK' rfl rfl)⟩
  case stop =>
    rintro D c pre W _ _ h _
    exact h.elim

theorem text_any (m : Nat) (hm : m < 18446744073709551616) (w : World) (hT : Tab w) :
    Calls Tryd.prog 35 #[.int .u64 m] w fun e w' => e = .returned (.string ⟨(textL m).toArray⟩) ∧ Below w.heap.size w w' := by
  by_cases h0 : m = 0
  · subst h0
    have e0 : textL 0 = [45] := by unfold textL; rw [if_pos rfl]
    rw [e0]
    go_enter Tryd.func35, Tryd.ntmps35
    go_wp2_with fail
    go_ret
    exact ⟨rfl, Below.refl _ w⟩
  · exact (callsIn_wide (n := 5)).1 (text_in m hm h0 w hT)

end Go.Proofs.YtgoedlgilgnphaaDoor
