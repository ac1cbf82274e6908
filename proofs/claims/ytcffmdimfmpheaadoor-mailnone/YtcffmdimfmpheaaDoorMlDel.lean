/- The closure that chooses by threads; slices.IndexFunc, slices.DeleteFunc with it; remove, Drop. -/
import Derived.Test.YtcffmdimfmpheaaDoorMlAsk
import Derived.Lib.SliceRun
namespace Go.Proofs.YtcffmdimfmpheaaDoor
open Go Go.RowKit

/-- Cells of a block that are set, one behind the other. -/
theorem setCells_row {w : World} {g o : Nat} {t : TypeId} {vs : List Value} {cur : Array Value} (hg : w.heap[g]? = some (.cells cur t (0, 0))) (hl : o + vs.length ≤ cur.size) (h1 : ∀ v ∈ vs, v.oneCell' = true) :
    (w.setCells g o vs).heap[g]? = some (.cells (cur.toList.take o ++ vs ++ cur.toList.drop (o + vs.length)).toArray t (0, 0)) ∧ But [g] w (w.setCells g o vs) := by
  have a := run_storeCells_at Tryd.prog g o t vs 0 cur w hg (by simpa using hl) h1
  have b := run_storeCells_cells (P := Tryd.prog) g o vs 0 w (fun j hj => by simp [World.cell?, hg]; omega) (fun j hj => by simp [World.frozen?, hg]) h1
  rw [a] at b
  simp only [Nat.add_zero, Result.ok.injEq, true_and] at b
  refine ⟨?_, ?_⟩
  · rw [← b]
    exact setRow_heap w g cur _ t _ hg
  · have key : ∀ (vs : List Value) (o : Nat) (w0 : World), But [g] w w0 → But [g] w (w0.setCells g o vs) := by
      intro vs
      induction vs with
      | nil => exact fun _ _ h => h
      | cons v r ih => exact fun o w0 h => ih (o + 1) _ (h.set (p := ⟨g, o, none⟩) (by simp) v)
    exact key vs o w (But.refl _ _)
def zE : Value := .agg #[.int .i64 0, .int .i64 0, .int .i64 0, .int .i64 0, .int .i64 0, .int .i64 0, .int .i64 0, .int .i64 0, .int .i64 0, .int .i64 0, .int .i64 0, .int .i64 0, .int .i64 0, .int .i64 0, .int .i64 0]
/-- clear of a piece of a row. -/
theorem run_clr {w : World} {g o n c : Nat} {cur : Array Value} (hn : 0 < n) (hg : w.heap[g]? = some (.cells cur 33 (0, 0))) (hl : o + n * 15 ≤ cur.size) :
    ∃ w', (∀ ty, (Builtin.clear_ #[56] ty #[.slice (some ⟨g, o, none⟩) n c]).run Tryd.prog w = .ok (.tuple #[]) w') ∧ But [g] w w' ∧ ∃ cur' : Array Value, w'.heap[g]? = some (.cells cur' 33 (0, 0)) ∧ cur'.size = cur.size ∧ cur'.toList.take o = cur.toList.take o := by
  obtain ⟨vs, hvs⟩ : ∃ vs, vs = (Builtin.zeroCells zE.cells n).toList := ⟨_, rfl⟩
  have hz : ∀ W, (zeroValue 33).run Tryd.prog W = .ok zE W := fun W => by kernel_rfl
  have hvl : vs.length = n * 15 := by rw [hvs, Array.length_toList, size_zeroCells]; rfl
  have h1 : ∀ v ∈ vs, v.oneCell' = true := fun v hv => by
    rw [hvs] at hv
    simp [Builtin.zeroCells, zE, Value.cells] at hv
    obtain ⟨a, ha, rfl⟩ := hv
    have hk : a % 15 < 15 := by omega
    generalize a % 15 = k at hk
    rcases (show k = 0 ∨ k = 1 ∨ k = 2 ∨ k = 3 ∨ k = 4 ∨ k = 5 ∨ k = 6 ∨ k = 7 ∨ k = 8 ∨ k = 9 ∨ k = 10 ∨ k = 11 ∨ k = 12 ∨ k = 13 ∨ k = 14 by omega) with rfl | rfl | rfl | rfl | rfl | rfl | rfl | rfl | rfl | rfl | rfl | rfl | rfl | rfl | rfl <;> rfl
  obtain ⟨h2, h3⟩ := setCells_row (o := o) (vs := vs) hg (by omega) h1
  have hst := run_storeCells_cells (P := Tryd.prog) g o vs 0 w (fun j hj => by simp [World.cell?, hg]; omega) (fun j hj => by simp [World.frozen?, hg]) h1
  simp only [Nat.add_zero] at hst
  refine ⟨_, fun ty => ?_, h3, _, h2, ?_, ?_⟩
  · obtain ⟨m, rfl⟩ : ∃ m, n = m + 1 := ⟨n - 1, by omega⟩
    rw [hvs] at hst ⊢
    simp [Builtin.clear_, run_underlying Tryd.underlying56, hz, hst]
  · simp
    omega
  · rw [List.append_assoc, List.take_append_of_le_length (by simp; omega), List.take_take]
    simp
/-- What lies in a row of events. -/
theorem OwE.row {w : World} {g n c : Nat} {xs : List Ev} (h : OwE w 0 (.slice (some ⟨g, 0, none⟩) n c) xs) : n = xs.length ∧ ∃ cur : Array Value, w.heap[g]? = some (.cells cur 33 (0, 0)) ∧ xs.length ≤ c ∧ c ≤ maxLen ∧ cur.size = c * 15 ∧ cur.toList.take (xs.length * 15) = flatE xs := by
  rcases h.2 with ⟨e, _⟩ | ⟨g', cap, cur, e, _, hg, h3, h4, h5, h6⟩
  · cases e
  · cases e
    exact ⟨rfl, cur, hg, h3, h4, h5, h6⟩
theorem OwE.mk_ {w : World} {g c : Nat} {xs : List Ev} {cur : Array Value} (hg : w.heap[g]? = some (.cells cur 33 (0, 0))) (h3 : xs.length ≤ c) (h4 : c ≤ maxLen) (h5 : cur.size = c * 15) (h6 : cur.toList.take (xs.length * 15) = flatE xs) : OwE w 0 (.slice (some ⟨g, 0, none⟩) xs.length c) xs :=
  ⟨flatE_len xs, .inr ⟨g, c, cur, rfl, Nat.zero_le _, hg, h3, h4, h5, h6⟩⟩
theorem OwE.fz {w : World} {g n c : Nat} {xs : List Ev} (h : OwE w 0 (.slice (some ⟨g, 0, none⟩) n c) xs) (j : Nat) : w.frozen? ⟨g, j, none⟩ = false := by
  obtain ⟨_, cur, hg, _⟩ := h.row
  simp [World.frozen?, hg]
theorem flatE_take (xs : List Ev) (i : Nat) : flatE (xs.take i) = (flatE xs).take (i * 15) := by
  by_cases h : i ≤ xs.length
  · have e := flatE_app (xs.take i) (xs.drop i)
    rw [List.take_append_drop] at e
    have hl : (flatE (xs.take i)).length = i * 15 := by rw [flatE_len, List.length_take]; omega
    rw [e, ← hl, List.take_left]
  · rw [List.take_of_length_le (by omega), List.take_of_length_le (by rw [flatE_len]; omega)]
theorem flatE_drop (xs : List Ev) (i : Nat) : flatE (xs.drop i) = (flatE xs).drop (i * 15) := by
  by_cases h : i ≤ xs.length
  · have e := flatE_app (xs.take i) (xs.drop i)
    rw [List.take_append_drop] at e
    have hl : (flatE (xs.take i)).length = i * 15 := by rw [flatE_len, List.length_take]; omega
    rw [e, ← hl, List.drop_left]
  · rw [List.drop_of_length_le (by omega), List.drop_of_length_le (by rw [flatE_len]; omega)]
    rfl
/-- One event of a row is another one. -/
theorem OwE.set15 {w : World} {g c n i : Nat} {ys : List Ev} (h : OwE w 0 (.slice (some ⟨g, 0, none⟩) n c) ys) (hi : i < ys.length) (e : Ev) :
    OwE (w.setCells g (i * 15) (c15 e)) 0 (.slice (some ⟨g, 0, none⟩) n c) (ys.set i e) ∧ But [g] w (w.setCells g (i * 15) (c15 e)) := by
  obtain ⟨rfl, cur, hg, h3, h4, h5, h6⟩ := h.row
  obtain ⟨r1, b1⟩ := setCells_row (o := i * 15) (vs := c15 e) hg (by rw [c15_len, h5]; omega) (fun u hu => flatE_one [e] u (by simpa [flatE] using hu))
  refine ⟨?_, b1⟩
  have hl : (ys.set i e).length = ys.length := List.length_set
  have := OwE.mk_ (xs := ys.set i e) (c := c) r1 (by omega) h4 (by simp [c15_len]; omega) (by
    have es : ys.set i e = ys.take i ++ e :: ys.drop (i + 1) := List.set_eq_take_append_cons_drop.trans (by rw [if_pos hi])
    have hcl : cur.toList.length = c * 15 := by simpa using h5
    rw [hl, es, flatE_app, flatE_cons, flatE_take, flatE_drop, ← h6]
    simp only [c15_len]
    rw [List.append_assoc, List.take_take, List.drop_take, show min (i * 15) (ys.length * 15) = i * 15 by omega]
    have el : (cur.toList.take (i * 15)).length = i * 15 := by rw [List.length_take, hcl]; omega
    rw [List.take_append, el, List.take_of_length_le (l := List.take (i * 15) cur.toList) (by rw [el]; omega), List.take_append, c15_len, List.take_of_length_le (l := c15 e) (by rw [c15_len]; omega), show (i + 1) * 15 = i * 15 + 15 by omega, show ys.length * 15 - i * 15 - 15 = ys.length * 15 - (i * 15 + 15) by omega])
  rw [hl] at this
  exact this
theorem c15_one (e : Ev) : (c15 e).toArray.all (·.oneCell') = true := all_oneCell_toArray (fun u hu => flatE_one [e] u (by simpa [flatE] using hu))
theorem size15 : (Tryd.prog.info? 33).map (·.size) = some 15 := by kernel_rfl

/-- The closure that chooses by threads. -/
theorem tcl_any {w : World} {X : Nat} {t : Int} (hX : w.cell? ⟨X, 0, none⟩ = some (.int .i64 t)) (e : Ev) :
    Calls Tryd.prog 43 #[.agg (evA e), .pointer (some ⟨X, 0, none⟩)] w fun r w' => r = .returned (.bool (decide (e.th = t))) ∧ Below w.heap.size w w' := by
  have hb : Below w.heap.size w (w.alloc (.cells (evA e) 33)) := (Below.refl _ _).alloc (Nat.le_refl _) _
  have hX' := cell_on hb hX
  unfold evA at *
  by_cases h : e.th = t
  · have h' : (e.th == t) = true := by simpa using h
    rw [decide_eq_true h]
    clear h
    go_enter Tryd.func43, Tryd.ntmps43
    go_wp2_with fail
    go_ret
    exact ⟨rfl, hb⟩
  · have h' : (e.th == t) = false := by simpa using h
    rw [decide_eq_false h]
    go_enter Tryd.func43, Tryd.ntmps43
    go_wp2_with fail
    go_ret
    exact ⟨rfl, hb⟩
theorem thr_any (t : Int) (w : World) : Calls Tryd.prog 34 #[.int .i64 t] w fun r w' => r = .returned (.func (.func 43) #[] #[.pointer (some ⟨w.heap.size, 0, none⟩)]) ∧ w' = w.alloc (.cells #[.int .i64 t] 3) := by
  go_enter Tryd.func34, Tryd.ntmps34
  go_wp2_with fail
  go_ret
  exact ⟨rfl, rfl⟩

/-- The first place of a thread's. -/
def TIdx (xs : List Ev) (t z : Int) : Prop := (z = -1 ∧ ∀ j, j < xs.length → (ev xs j).th ≠ t) ∨ ∃ k : Nat, z = k ∧ k < xs.length ∧ (ev xs k).th = t ∧ ∀ j, j < k → (ev xs j).th ≠ t
set_option maxHeartbeats 1000000 in
set_option maxRecDepth 100000 in
theorem tidx_any {w : World} {X c : Nat} {a : Option Addr} {t : Int} {xs : List Ev} (hx : EV w a xs) (hX : w.cell? ⟨X, 0, none⟩ = some (.int .i64 t)) (hn : xs.length ≤ 4096) :
    Calls Tryd.prog 42 #[.slice a xs.length c, .func (.func 43) #[] #[.pointer (some ⟨X, 0, none⟩)]] w fun e w' => ∃ z, e = .returned (.int .i64 z) ∧ TIdx xs t z ∧ Below w.heap.size w w' := by
  go_enter Tryd.func42, Tryd.ntmps42
  go_wp2_with fail
  go_loopw [8, 5] (fun v _ wr => ∃ j : Nat, j ≤ xs.length ∧ v = .int .i64 j ∧ (∀ i, i < j → (ev xs i).th ≠ t) ∧ Below w.heap.size w wr) (fun v _ _ => 4096 - (intOf v).toNat)
  case atStart => exact ⟨0, Nat.zero_le _, rfl, fun i hi => by omega, Below.refl _ _⟩
  case round =>
    obtain ⟨j, hj, rfl, hall, hb⟩ := hrel
    by_cases hlt : j < xs.length
    · obtain ⟨b, o, rfl, hc⟩ := hx.below hb j hlt
      obtain ⟨c0, c1, c2, c3, c4, c5, c6, c7, c8, c9, c10, c11, c12, c13, c14⟩ := hc.cells
      have hlt' : (j : Int) < (xs.length : Int) := by omega
      have HALL : Hid (∀ i, i < j → (ev xs i).th ≠ t) := hall
      have CL := tcl_any (cell_on hb hX) (ev xs j)
      unfold evA at CL
      clear hall hc
      by_cases hp : (ev xs j).th = t
      · rw [decide_eq_true hp] at CL
        have HE : Hid ((ev xs j).th = t) := hp
        clear hp
        generalize ev xs j = x at CL c0 c1 c2 c3 c4 c5 c6 c7 c8 c9 c10 c11 c12 c13 c14
        go_wp2_with (first | (go_at_call 43; (with_reducible refine CL.mono ?_); rintro e w1 ⟨rfl, b1⟩))
        go_ret
        exact ⟨_, rfl, .inr ⟨j, rfl, hlt, HE.out, HALL.out⟩, below2 hb hb.size b1⟩
      · rw [decide_eq_false hp] at CL
        have HE : Hid (∀ i, i < j + 1 → (ev xs i).th ≠ t) := fun i hi => by
          by_cases h : i = j
          · rw [h]; exact hp
          · exact HALL.out i (by omega)
        clear hp
        generalize ev xs j = x at CL c0 c1 c2 c3 c4 c5 c6 c7 c8 c9 c10 c11 c12 c13 c14
        go_wp2_with (first | (go_at_call 43; (with_reducible refine CL.mono ?_); rintro e w1 ⟨rfl, b1⟩))
        go_roundw
        case rel => exact ⟨j + 1, by omega, by simp, HE.out, below2 hb hb.size b1⟩
        case measure =>
          simp [intOf]
          omega
    · obtain rfl : j = xs.length := by omega
      have HALL : Hid (∀ i, i < xs.length → (ev xs i).th ≠ t) := hall
      clear hall
      go_wp2_with fail
      go_ret
      exact ⟨_, rfl, .inl ⟨rfl, HALL.out⟩, hb⟩
end Go.Proofs.YtcffmdimfmpheaaDoor
