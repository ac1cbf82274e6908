/- Contracts of All and Copy. -/
import Derived.Test.YtdhgffnlocgfkaaAsk
namespace Go.Proofs.Ytdhgffnlocgfkaa
open Go.RowKit

theorem mk_rq (n : Nat) (hn : n ≤ 8192) (W : World) : (Instr.makeSlice 39 (.int .i64 n) (.int .i64 n)).run Try.prog W = .ok (.slice (some ⟨W.heap.size, 0, none⟩) n n) (W.alloc (.cells (madeCells #[.int .i64 0, .int .i64 0, .int .i64 0, .int .i64 0, .int .i64 0] (n * 5)) 29)) := by
  obtain ⟨i0, hi, hz0, hz1, hz2⟩ := info_parts info29
  have h := run_make (P := Try.prog) W 39 29 i0 (.agg #[.int .i64 0, .int .i64 0, .int .i64 0, .int .i64 0, .int .i64 0]) Try.underlying39 hi hz0 .i64 .i64 n n (by omega) (Int.le_refl _) (by rw [hz2]; omega) (by omega)
  simpa [hz1, show (Value.agg #[.int .i64 0, .int .i64 0, .int .i64 0, .int .i64 0, .int .i64 0]).cells = #[.int .i64 0, .int .i64 0, .int .i64 0, .int .i64 0, .int .i64 0] from rfl] using h

theorem first5 {w : World} {a : Option Addr} {n c : Nat} {vs : List Value} (hr : Rw w a vs) (hl : vs.length = n * 5) : (Builtin.firstCells 5 n (.slice a n c)).run Try.prog w = .ok vs.toArray w := by
  cases a with
  | none =>
    have hv : vs = [] := by
      cases vs with
      | nil => rfl
      | cons v vs =>
        obtain ⟨b, o, e, _⟩ := hr 0 v rfl
        cases e
    subst hv
    exact run_firstCells_none w 5 n n c
  | some ad =>
    refine run_firstCells_some w 5 n ad n c vs hl (fun j u hu => ?_)
    obtain ⟨b, o, e, hc⟩ := hr j u hu
    cases e
    rw [WideShapes.add_plain]
    exact hc

/-- copy of requests onto a new row of as many. -/
theorem run_copy5 {w : World} {g n c : Nat} {a : Option Addr} {cur : Array Value} {xs : List Rq} (hg : w.heap[g]? = some (.cells cur 29 (0, 0))) (hs : cur.size = n * 5) (hx : RV w a xs) (hl : xs.length = n) :
    ∃ w', (∀ ty, (Builtin.copy_ #[39, 39] ty #[.slice (some ⟨g, 0, none⟩) n n, .slice a n c]).run Try.prog w = .ok (goInt n) w') ∧ But [g] w w' ∧ w'.heap[g]? = some (.cells (flat xs).toArray 29 (0, 0)) := by
  have hfl : (flat xs).length = n * 5 := by rw [flat_len, hl]
  have hf := first5 (c := c) hx.rw_ hfl
  obtain ⟨h2, h3⟩ := setCells_row (o := 0) (vs := flat xs) hg (by omega) (flat_one xs)
  have hst := run_storeCells_cells (P := Try.prog) g 0 (flat xs) 0 w (fun j hj => by simp [World.cell?, hg]; omega) (fun j hj => by simp [World.frozen?, hg]) (flat_one xs)
  simp only [Nat.add_zero] at hst
  refine ⟨_, fun ty => ?_, h3, ?_⟩
  · obtain ⟨i0, hi, -, hz1, -⟩ := info_parts info29
    simp [Builtin.copy_, run_underlying Try.underlying39, Builtin.lenOf, sizeOf, typeInfo, hi, hz1, hf, hst]
  · rw [h2]
    have e : cur.toList.drop (0 + (flat xs).length) = [] := List.drop_of_length_le (by simp; omega)
    rw [e]
    simp

section
variable {w : World} {B N la dn : Nat} {T : List Nat} {xs : List Rq}

set_option maxHeartbeats 1000000 in
theorem requests_any {v : Value} (h : DM w B N v la dn xs) (hl : xs.length ≤ N) :
    Calls Try.prog 28 #[.pointer (some ⟨B, 0, none⟩)] w fun e w' => ∃ G, e = .returned (.slice (some ⟨G, 0, none⟩) xs.length xs.length) ∧ w.heap.size ≤ G ∧ Ow w' 29 w.heap.size (.slice (some ⟨G, 0, none⟩) xs.length xs.length) xs ∧ Below w.heap.size w w' := by
  obtain ⟨sl, c, rfl, hrv, -, -⟩ := h.shape
  have n4 : xs.length ≤ 4096 := Nat.le_trans hl h.n2
  have MK := mk_rq xs.length (by omega) w
  have hma := h.keep ((But.refl [] w).alloc (.cells (madeCells #[.int .i64 0, .int .i64 0, .int .i64 0, .int .i64 0, .int .i64 0] (xs.length * 5)) 29))
  obtain ⟨W2, hcp, b2, r2⟩ := run_copy5 (c := c) (g := w.heap.size) (n := xs.length) (heap_alloc_new w (.cells (madeCells #[.int .i64 0, .int .i64 0, .int .i64 0, .int .i64 0, .int .i64 0] (xs.length * 5)) 29)) (size_madeCells _ _) hma.h.rv rfl
  have hfin : Ow W2 29 w.heap.size (.slice (some ⟨w.heap.size, 0, none⟩) xs.length xs.length) xs := by
    refine ⟨flat_len xs, .inr ⟨w.heap.size, xs.length, _, rfl, Nat.le_refl _, r2, Nat.le_refl _, by unfold maxLen; omega, by simp [flat_len], ?_⟩⟩
    simp
    rw [List.take_of_length_le (by rw [flat_len]; omega)]
  have hbf : Below w.heap.size w W2 := (((But.refl [] w).alloc (.cells (madeCells #[.int .i64 0, .int .i64 0, .int .i64 0, .int .i64 0, .int .i64 0] (xs.length * 5)) 29)).trans_new b2 (fun x hx => .inr (by simp at hx; omega))).to_below
  have c3 := h.c3
  have c3a := hma.c3
  clear b2 r2
  go_enter Try.func28, Try.ntmps28
  go_wp2_with fail
  go_ret
  exact ⟨_, rfl, Nat.le_refl _, hfin, hbf⟩
theorem askall {v : Value} (h : DM w B N v la dn xs) (hl : xs.length ≤ N) :
    Calls Try.prog 27 #[.pointer (some ⟨B, 0, none⟩), .func (.func 28) #[] #[]] w fun e w' => ∃ G, e = .returned (.slice (some ⟨G, 0, none⟩) xs.length xs.length) ∧ w.heap.size ≤ G ∧ Ow w' 29 w.heap.size (.slice (some ⟨G, 0, none⟩) xs.length xs.length) xs ∧ Below w.heap.size w w' := by
  have MA := made_any h
  have CO := requests_any h hl
  go_enter Try.func27, Try.ntmps27
  go_wp2_with (first
    | (go_at_call 29; refine MA.mono ?_; rintro e w1 ⟨rfl, hw⟩; subst w1)
    | (go_at_call 28; refine CO.mono ?_; rintro e w1 ⟨G, rfl, h1, h2, h3⟩))
  go_ret
  exact ⟨_, rfl, h1, h2, h3⟩
theorem all_any (h : DQ w B T N la dn xs) :
    Calls Try.prog 15 #[.pointer (some ⟨B, 0, none⟩)] w fun e w' => ∃ G, e = .returned (.slice (some ⟨G, 0, none⟩) xs.length xs.length) ∧ w.heap.size ≤ G ∧ Ow w' 29 w.heap.size (.slice (some ⟨G, 0, none⟩) xs.length xs.length) xs ∧ Below w.heap.size w w' := by
  obtain ⟨v, rfl, hm, hl, ho⟩ := h
  have A := askall hm hl
  go_enter Try.func15, Try.ntmps15
  go_wp2_with (first
    | (go_at_call 27; refine A.mono ?_; rintro e w1 ⟨G, rfl, h1, h2, h3⟩))
  go_ret
  exact ⟨_, rfl, h1, h2, h3⟩

set_option maxHeartbeats 1000000 in
theorem twin_any {v : Value} (h : DM w B N v la dn xs) (hl : xs.length ≤ N) (ho : OkS la xs) :
    Calls Try.prog 34 #[.pointer (some ⟨B, 0, none⟩)] w fun e w' => ∃ B2 T2, e = .returned (.pointer (some ⟨B2, 0, none⟩)) ∧ DQ w' B2 T2 N la dn xs ∧ Step [] w T2 w' := by
  obtain ⟨sl, c, rfl, -, -, -⟩ := h.shape
  have c0 := h.c0
  have c1 := h.c1
  have c2 := h.c2
  have c3 := h.c3
  have n1 := h.n1
  have n2 := h.n2
  have hma := h.keep ((But.refl [] w).alloc (.cells #[.int .i64 N, .int .i64 la, .int .i64 dn, .slice sl xs.length c] 54))
  have hb1 : Below w.heap.size w (w.alloc (.cells #[.int .i64 N, .int .i64 la, .int .i64 dn, .slice sl xs.length c] 54)) := (Below.refl _ _).alloc (Nat.le_refl _) _
  have RQ := requests_any hma hl
  have HB : ∀ W, Below (w.alloc (.cells #[.int .i64 N, .int .i64 la, .int .i64 dn, .slice sl xs.length c] 54)).heap.size (w.alloc (.cells #[.int .i64 N, .int .i64 la, .int .i64 dn, .slice sl xs.length c] 54)) W → W.heap[w.heap.size]? = some (.cells #[.int .i64 N, .int .i64 la, .int .i64 dn, .slice sl xs.length c] 54 (0, 0)) := fun W b => by
    rw [b.block w.heap.size (by simp)]
    exact heap_alloc_new w _
  go_enter Try.func34, Try.ntmps34
  go_wp2_with (first
    | (go_at_call 28; (with_reducible refine RQ.mono ?_); rintro e w2 ⟨G, rfl, h1, h2, h3⟩; have hB := HB _ h3; have g3 : w2.cell? ⟨w.heap.size, 3, none⟩ = some (.slice sl xs.length c) := by simp [World.cell?, hB]
       have f3 : w2.frozen? ⟨w.heap.size, 3, none⟩ = false := by simp [World.frozen?, hB]))
  go_ret
  rw [World.size_alloc] at h1
  have bt := below2 hb1 hb1.size h3
  refine ⟨w.heap.size, bks w.heap.size (.slice (some ⟨G, 0, none⟩) xs.length xs.length), rfl, ⟨_, rfl, ⟨?_, (h2.lower (Nat.zero_le _)).put (fun k hk => Below.heap_setCell w2 ⟨w.heap.size, 3, none⟩ _ k (fun e => ?_)), (fun e => ?_), n1, n2⟩, hl, ho⟩, ?_, fun x hx => .inr ?_⟩
  · have := heap_setCell_same w2 w.heap.size 3 _ 54 (.slice (some ⟨G, 0, none⟩) xs.length xs.length) hB
    rw [this]
    simp
  · cases hk
    simp at e
    omega
  · have e' : G = w.heap.size := by simpa [Value.ownBlock] using e
    omega
  · exact (But.of_below bt).trans_new ((But.refl [w.heap.size] w2).set (p := ⟨w.heap.size, 3, none⟩) (by simp) _) (fun x hx => .inr (by simp at hx; omega))
  · rcases bks_out hx with rfl | hx
    · exact Nat.le_refl _
    · have e' : G = x := by simpa [Value.ownBlock] using hx
      omega
theorem askcopy {v : Value} (h : DM w B N v la dn xs) (hl : xs.length ≤ N) (ho : OkS la xs) :
    Calls Try.prog 33 #[.pointer (some ⟨B, 0, none⟩), .func (.func 34) #[] #[]] w fun e w' => ∃ B2 T2, e = .returned (.pointer (some ⟨B2, 0, none⟩)) ∧ DQ w' B2 T2 N la dn xs ∧ Step [] w T2 w' := by
  have MA := made_any h
  have CO := twin_any h hl ho
  go_enter Try.func33, Try.ntmps33
  go_wp2_with (first
    | (go_at_call 29; refine MA.mono ?_; rintro e w1 ⟨rfl, hw⟩; subst w1)
    | (go_at_call 34; refine CO.mono ?_; rintro e w1 ⟨B2, T2, rfl, h1, h2⟩))
  go_ret
  exact ⟨_, _, rfl, h1, h2⟩
theorem copy_any (h : DQ w B T N la dn xs) :
    Calls Try.prog 18 #[.pointer (some ⟨B, 0, none⟩)] w fun e w' => ∃ B2 T2, e = .returned (.pointer (some ⟨B2, 0, none⟩)) ∧ DQ w' B2 T2 N la dn xs ∧ Step [] w T2 w' := by
  obtain ⟨v, rfl, hm, hl, ho⟩ := h
  have A := askcopy hm hl ho
  go_enter Try.func18, Try.ntmps18
  go_wp2_with (first
    | (go_at_call 33; refine A.mono ?_; rintro e w1 ⟨B2, T2, rfl, h1, h2⟩))
  go_ret
  exact ⟨_, _, rfl, h1, h2⟩
end
end Go.Proofs.Ytdhgffnlocgfkaa
