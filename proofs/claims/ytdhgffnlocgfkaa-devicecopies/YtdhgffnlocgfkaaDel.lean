/- A row's cells that are written; the contract of slices.Delete of requests. -/
import Derived.Test.YtdhgffnlocgfkaaFns
import Derived.Lib.SliceRun
namespace Go.Proofs.Ytdhgffnlocgfkaa
open Go.RowKit

/-- Cells of a block that are set, one behind the other. -/
theorem setCells_row {w : World} {g o : Nat} {t : TypeId} {vs : List Value} {cur : Array Value} (hg : w.heap[g]? = some (.cells cur t (0, 0))) (hl : o + vs.length ≤ cur.size) (h1 : ∀ v ∈ vs, v.oneCell' = true) :
    (w.setCells g o vs).heap[g]? = some (.cells (cur.toList.take o ++ vs ++ cur.toList.drop (o + vs.length)).toArray t (0, 0)) ∧ But [g] w (w.setCells g o vs) := by
  have a := run_storeCells_at Try.prog g o t vs 0 cur w hg (by simpa using hl) h1
  have b := run_storeCells_cells (P := Try.prog) g o vs 0 w (fun j hj => by simp [World.cell?, hg]; omega) (fun j hj => by simp [World.frozen?, hg]) h1
  rw [a] at b
  simp only [Nat.add_zero, Result.ok.injEq, true_and] at b
  refine ⟨?_, ?_⟩
  · rw [← b]
    exact setRow_heap w g cur _ t _ hg
  · have key : ∀ (vs : List Value) (o : Nat) (w0 : World), But [g] w w0 → But [g] w (w0.setCells g o vs) := by
      intro vs
      induction vs with
      | nil => exact fun _ _ h => h
      | cons v r ih => exact fun o w0 h => ih (o + 1) _ (h.set (p := ⟨g, o, none⟩) (by simp) v)
    exact key vs o w (But.refl _ _)

/-- clear of a piece of a row. -/
theorem run_clr {w : World} {g o n c : Nat} {cur : Array Value} (hn : 0 < n) (hg : w.heap[g]? = some (.cells cur 29 (0, 0))) (hl : o + n * 5 ≤ cur.size) :
    ∃ w', (∀ ty, (Builtin.clear_ #[39] ty #[.slice (some ⟨g, o, none⟩) n c]).run Try.prog w = .ok (.tuple #[]) w') ∧ But [g] w w' ∧ ∃ cur' : Array Value, w'.heap[g]? = some (.cells cur' 29 (0, 0)) ∧ cur'.size = cur.size ∧ cur'.toList.take o = cur.toList.take o := by
  obtain ⟨vs, hvs⟩ : ∃ vs, vs = (Builtin.zeroCells (Value.agg #[.int .i64 0, .int .i64 0, .int .i64 0, .int .i64 0, .int .i64 0]).cells n).toList := ⟨_, rfl⟩
  have hz : ∀ W, (zeroValue 29).run Try.prog W = .ok (.agg #[.int .i64 0, .int .i64 0, .int .i64 0, .int .i64 0, .int .i64 0]) W := fun W => by kernel_rfl
  have hvl : vs.length = n * 5 := by rw [hvs, Array.length_toList, size_zeroCells]; rfl
  have h1 : ∀ v ∈ vs, v.oneCell' = true := fun v hv => by
    rw [hvs] at hv
    simp [Builtin.zeroCells, Value.cells] at hv
    obtain ⟨a, ha, rfl⟩ := hv
    rcases (show a % 5 = 0 ∨ a % 5 = 1 ∨ a % 5 = 2 ∨ a % 5 = 3 ∨ a % 5 = 4 by omega) with q | q | q | q | q <;> simp [q] <;> rfl
  obtain ⟨h2, h3⟩ := setCells_row (o := o) (vs := vs) hg (by omega) h1
  have hst := run_storeCells_cells (P := Try.prog) g o vs 0 w (fun j hj => by simp [World.cell?, hg]; omega) (fun j hj => by simp [World.frozen?, hg]) h1
  simp only [Nat.add_zero] at hst
  refine ⟨_, fun ty => ?_, h3, _, h2, ?_, ?_⟩
  · obtain ⟨m, rfl⟩ : ∃ m, n = m + 1 := ⟨n - 1, by omega⟩
    rw [hvs] at hst ⊢
    simp [Builtin.clear_, run_underlying Try.underlying39, hz, hst]
  · simp
    omega
  · rw [List.append_assoc, List.take_append_of_le_length (by simp; omega), List.take_take]
    simp

/-- What lies in a row of requests. -/
theorem Ow.row {w : World} {g n c : Nat} {xs : List Rq} (h : Ow w 29 0 (.slice (some ⟨g, 0, none⟩) n c) xs) : n = xs.length ∧ ∃ cur : Array Value, w.heap[g]? = some (.cells cur 29 (0, 0)) ∧ xs.length ≤ c ∧ c ≤ maxLen ∧ cur.size = c * 5 ∧ cur.toList.take (xs.length * 5) = flat xs := by
  rcases h.2 with ⟨e, _⟩ | ⟨g', cap, cur, e, _, hg, h3, h4, h5, h6⟩
  · cases e
  · cases e
    exact ⟨rfl, cur, hg, h3, h4, h5, h6⟩
theorem Ow.mk_ {w : World} {g c : Nat} {xs : List Rq} {cur : Array Value} (hg : w.heap[g]? = some (.cells cur 29 (0, 0))) (h3 : xs.length ≤ c) (h4 : c ≤ maxLen) (h5 : cur.size = c * 5) (h6 : cur.toList.take (xs.length * 5) = flat xs) : Ow w 29 0 (.slice (some ⟨g, 0, none⟩) xs.length c) xs :=
  ⟨flat_len xs, .inr ⟨g, c, cur, rfl, Nat.zero_le _, hg, h3, h4, h5, h6⟩⟩

section
variable {w : World} {g c i : Nat} {xs : List Rq}
set_option maxHeartbeats 1000000 in
theorem delete_any (ho : Ow w 29 0 (.slice (some ⟨g, 0, none⟩) xs.length c) xs) (hi : i < xs.length) (hn : xs.length ≤ 4096) :
    Calls Try.prog 31 #[.slice (some ⟨g, 0, none⟩) xs.length c, .int .i64 i, .int .i64 ((i : Int) + 1)] w fun e w' => e = .returned (.slice (some ⟨g, 0, none⟩) (i + (xs.length - (i + 1))) c) ∧ Ow w' 29 0 (.slice (some ⟨g, 0, none⟩) (i + (xs.length - (i + 1))) c) (xs.eraseIdx i) ∧ But [g] w w' := by
  obtain ⟨-, cur, hg, h3, h4, h5, h6⟩ := ho.row
  have hgd : w.drew.heap[g]? = some (.cells cur 29 (0, 0)) := hg
  obtain ⟨news, hnews⟩ : ∃ news, news = flat (xs.drop (i + 1)) := ⟨_, rfl⟩
  have hnl : news.length = (xs.length - (i + 1)) * 5 := by rw [hnews, flat_len, List.length_drop]
  have hn1 : ∀ v ∈ news, v.oneCell' = true := by rw [hnews]; exact flat_one _
  obtain ⟨r1, b1⟩ := setCells_row (o := 0 + i * 5) (vs := news) hgd (by rw [hnl, h5]; omega) hn1
  obtain ⟨W1, hW1⟩ : ∃ W1, Hid (W1 = w.drew.setCells g (0 + i * 5) news) := ⟨_, rfl⟩
  rw [← hW1.out] at r1 b1
  obtain ⟨cur1, hc1⟩ : ∃ cur1, Hid (cur1 = (cur.toList.take (0 + i * 5) ++ news ++ cur.toList.drop (0 + i * 5 + news.length)).toArray) := ⟨_, rfl⟩
  rw [← hc1.out] at r1
  have hs1 : cur1.size = c * 5 := by rw [hc1.out]; simp; omega
  obtain ⟨W2, hcl, b2, cur2, r2, s2, e2⟩ := run_clr (w := W1) (g := g) (o := (i + (xs.length - (i + 1))) * 5) (n := xs.length - (i + (xs.length - (i + 1)))) (c := c - (i + (xs.length - (i + 1)))) (by omega) r1 (by rw [hs1]; omega)
  have hfin : Ow W2 29 0 (.slice (some ⟨g, 0, none⟩) (i + (xs.length - (i + 1))) c) (xs.eraseIdx i) := by
    have hel : (xs.eraseIdx i).length = i + (xs.length - (i + 1)) := by rw [List.length_eraseIdx, if_pos hi]; omega
    rw [← hel]
    refine Ow.mk_ r2 (by omega) h4 (by omega) ?_
    rw [hel, e2, hc1.out, List.eraseIdx_eq_take_drop_succ, flat_app, ← hnews, flat_take, ← h6]
    simp only [Nat.zero_add]
    rw [List.take_append_of_le_length (by simp; omega), List.take_of_length_le (by simp; omega), List.take_take]
    congr 2
    omega
  have hbut : But [g] w W2 := ((But.refl _ w).drew.trans b1).trans b2
  obtain ⟨A, hA, hsrc⟩ : ∃ A : Addr, (if c = i + 1 then some (⟨g, 0, none⟩ : Addr) else some ⟨g, (i + 1) * 5, none⟩) = some A ∧ Hid (∀ t u, news[t]? = some u → w.drew.cell? (A.add t) = some u) := by
    by_cases h : c = i + 1
    · refine ⟨⟨g, 0, none⟩, by simp [h], fun t u hu => ?_⟩
      have h0 : news.length = 0 := by rw [hnl]; omega
      rw [List.length_eq_zero_iff.1 h0] at hu
      simp at hu
    · refine ⟨⟨g, (i + 1) * 5, none⟩, by simp [h], fun t u hu => ?_⟩
      have ht := (List.getElem?_eq_some_iff.1 hu).1
      rw [hnews, flat_drop, List.getElem?_drop] at hu
      rw [WideShapes.add_plain]
      have : cur[(i + 1) * 5 + t]? = some u := by
        rw [← Array.getElem?_toList, ← hu, ← h6, List.getElem?_take_of_lt (by omega)]
      simp [World.cell?, hgd, this]
  have s1 : Hid (news.length = (xs.length - (i + 1)) * 5) := hnl
  have s3 : Hid (∀ t, t < news.length → (w.drew.cell? ⟨g, 0 + i * 5 + t, none⟩).isSome = true ∧ w.drew.frozen? ⟨g, 0 + i * 5 + t, none⟩ = false) := fun t ht => by
    refine ⟨?_, ?_⟩
    · have : 0 + i * 5 + t < cur.size := by rw [h5]; omega
      simp [World.cell?, hgd]
      omega
    · simp [World.frozen?, hgd]
  obtain ⟨i0, hi0, -, hz1, -⟩ := info_parts info29
  have hic : i ≤ c := by omega
  have hjc : i + 1 ≤ c := by omega
  have H1 : Hid (∀ v ∈ news, v.oneCell' = true) := hn1
  have hz : 0 ≤ (i : Int) := by omega
  have hz' : (i : Int) + 1 ≤ (xs.length : Int) := by omega
  have hz2 : ((i : Int) == (i : Int) + 1) = false := by simp; omega
  have hz3 : (0 : Int) ≤ (i : Int) + 1 := by omega
  clear hnl hn1 hnews hgd hg r1 b1 h5 h6 ho r2 s2 e2 hs1 b2
  go_enter Try.func31, Try.ntmps31
  go_wp2_with fail
  go_region_law (refine step_append_room rfl (.tmp 22) (.tmp 25) 39 rfl 29 i0 5 Try.underlying39 hi0 hz1 g 0 i c (by simp [Act.eval, Act.put]) A (xs.length - (i + 1)) (c - (i + 1)) news (by simp [Act.eval, Act.put]) s1.out hsrc.out H1.out (by omega) s3.out ?_; rw [← hW1.out])
  go_wp2_with fail
  go_ret
  exact ⟨rfl, hfin, hbut⟩
end
end Go.Proofs.Ytdhgffnlocgfkaa
