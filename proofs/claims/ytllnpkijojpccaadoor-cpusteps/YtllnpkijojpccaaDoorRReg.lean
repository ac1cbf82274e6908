/- Registers and which calls tell a value: the reference's and the program's. -/
import Derived.Test.YtllnpkijojpccaaDoorRunC
namespace Go.Proofs.YtllnpkijojpccaaDoor
open Go Go.RowKit Go.Shelf

set_option maxRecDepth 100000 in
set_option maxHeartbeats 2000000 in
theorem rget_any (c : Cx) (i : Int) (w : World) : Calls Tryd.prog 23 #[.agg (cxA c), .int .i64 i] w fun e w' => e = .returned (.int .i64 (getR c i)) ∧ Below w.heap.size w w' := by
  have hB : Below w.heap.size w (w.alloc (.cells #[.int .i64 c.pg, .int .i64 c.pc, .int .i64 (c.rs 0), .int .i64 (c.rs 1), .int .i64 (c.rs 2), .int .i64 (c.rs 3), .int .i64 (c.rs 4), .int .i64 (c.rs 5), .int .i64 (c.rs 6), .int .i64 (c.rs 7), .int .i64 c.dp] 26)) := (Below.refl _ w).alloc (Nat.le_refl _) _
  have hC : Cel (w.alloc (.cells #[.int .i64 c.pg, .int .i64 c.pc, .int .i64 (c.rs 0), .int .i64 (c.rs 1), .int .i64 (c.rs 2), .int .i64 (c.rs 3), .int .i64 (c.rs 4), .int .i64 (c.rs 5), .int .i64 (c.rs 6), .int .i64 (c.rs 7), .int .i64 c.dp] 26)) w.heap.size (cxA c) 26 := Cel.new w _ 26
  unfold cxA
  by_cases h : 0 ≤ i ∧ i ≤ 7
  · obtain ⟨k, rfl⟩ : ∃ k : Nat, i = (k : Int) := ⟨i.toNat, by omega⟩
    have hk : k < 8 := by omega
    have hc := hC.cell (cxA_get c hk)
    rw [getR_nat c hk]
    have h0 : (0 : Int) ≤ (k : Int) := by omega
    have h1 : (k : Int) ≤ 7 := by omega
    have h2 : (k : Int) < 8 := by omega
    clear h
    go_enter Tryd.func23, Tryd.ntmps23
    go_upto_region 1 with fail
    generalize w.alloc (.cells #[.int .i64 c.pg, .int .i64 c.pc, .int .i64 (c.rs 0), .int .i64 (c.rs 1), .int .i64 (c.rs 2), .int .i64 (c.rs 3), .int .i64 (c.rs 4), .int .i64 (c.rs 5), .int .i64 (c.rs 6), .int .i64 (c.rs 7), .int .i64 c.dp] 26) = W at *
    go_wp2_with fail
    go_ret
    exact ⟨rfl, hB⟩
  · rw [getR_out c h]
    by_cases h0 : i < 0
    · clear h
      go_enter Tryd.func23, Tryd.ntmps23
      go_upto_region 1 with fail
      generalize w.alloc (.cells #[.int .i64 c.pg, .int .i64 c.pc, .int .i64 (c.rs 0), .int .i64 (c.rs 1), .int .i64 (c.rs 2), .int .i64 (c.rs 3), .int .i64 (c.rs 4), .int .i64 (c.rs 5), .int .i64 (c.rs 6), .int .i64 (c.rs 7), .int .i64 c.dp] 26) = W at *
      go_wp2_with fail
      go_ret
      exact ⟨rfl, hB⟩
    · have h1 : (7 : Int) < i := by omega
      have h2 : (0 : Int) ≤ i := by omega
      clear h h0
      go_enter Tryd.func23, Tryd.ntmps23
      go_upto_region 1 with fail
      generalize w.alloc (.cells #[.int .i64 c.pg, .int .i64 c.pc, .int .i64 (c.rs 0), .int .i64 (c.rs 1), .int .i64 (c.rs 2), .int .i64 (c.rs 3), .int .i64 (c.rs 4), .int .i64 (c.rs 5), .int .i64 (c.rs 6), .int .i64 (c.rs 7), .int .i64 c.dp] 26) = W at *
      go_wp2_with fail
      go_ret
      exact ⟨rfl, hB⟩

set_option maxRecDepth 100000 in
set_option maxHeartbeats 2000000 in
theorem rput_any (c : Cx) (i v : Int) (w : World) : Calls Tryd.prog 22 #[.agg (cxA c), .int .i64 i, .int .i64 v] w fun e w' => e = .returned (.agg (cxA (putR c i v))) ∧ Below w.heap.size w w' := by
  have eW : ∀ W : World, W = (w.alloc (.cells #[.int .i64 c.pg, .int .i64 c.pc, .int .i64 (c.rs 0), .int .i64 (c.rs 1), .int .i64 (c.rs 2), .int .i64 (c.rs 3), .int .i64 (c.rs 4), .int .i64 (c.rs 5), .int .i64 (c.rs 6), .int .i64 (c.rs 7), .int .i64 c.dp] 26)).alloc (.cells #[.int .i64 0, .int .i64 0, .int .i64 0, .int .i64 0, .int .i64 0, .int .i64 0, .int .i64 0, .int .i64 0, .int .i64 0, .int .i64 0, .int .i64 0] 26) → Cel W w.heap.size (cxA c) 26 ∧ Cel W (w.heap.size + 1) #[.int .i64 0, .int .i64 0, .int .i64 0, .int .i64 0, .int .i64 0, .int .i64 0, .int .i64 0, .int .i64 0, .int .i64 0, .int .i64 0, .int .i64 0] 26 ∧ Below w.heap.size w W := by
    rintro W rfl
    refine ⟨(Cel.new w _ 26).put (Below.heap_alloc _ _ _ (by simp)), ?_, ((Below.refl _ w).alloc (Nat.le_refl _) _).alloc (by simp) _⟩
    have h := Cel.new (w.alloc (.cells #[.int .i64 c.pg, .int .i64 c.pc, .int .i64 (c.rs 0), .int .i64 (c.rs 1), .int .i64 (c.rs 2), .int .i64 (c.rs 3), .int .i64 (c.rs 4), .int .i64 (c.rs 5), .int .i64 (c.rs 6), .int .i64 (c.rs 7), .int .i64 c.dp] 26)) #[.int .i64 0, .int .i64 0, .int .i64 0, .int .i64 0, .int .i64 0, .int .i64 0, .int .i64 0, .int .i64 0, .int .i64 0, .int .i64 0, .int .i64 0] 26
    rw [World.size_alloc] at h
    exact h
  obtain ⟨hC, hZ, hB⟩ := eW _ rfl
  clear eW
  by_cases h : 0 ≤ i ∧ i ≤ 7
  · obtain ⟨k, rfl⟩ : ∃ k : Nat, i = (k : Int) := ⟨i.toNat, by omega⟩
    have hk : k < 8 := by omega
    have hc := hC.cell (cxA_get c hk)
    have hf := hC.fz (2 + k)
    have h0 : (0 : Int) ≤ (k : Int) := by omega
    have h1 : (k : Int) ≤ 7 := by omega
    have h2 : (k : Int) < 8 := by omega
    have hC2 := hC.set (j := 2 + k) (.int .i64 v)
    rw [cxA_put c hk] at hC2
    have hne : w.heap.size + 1 ≠ w.heap.size := by omega
    have hZ2 := hZ.other (j := 2 + k) hne (.int .i64 v)
    have hB2 := hB.setCell (p := ⟨w.heap.size, 2 + k, none⟩) (Nat.le_refl _) (.int .i64 v)
    clear h
    generalize putR c (k : Int) v = d at *
    unfold cxA at hC2
    unfold cxA
    go_enter Tryd.func22, Tryd.ntmps22
    go_upto_region 1 with fail
    generalize (w.alloc (.cells #[.int .i64 c.pg, .int .i64 c.pc, .int .i64 (c.rs 0), .int .i64 (c.rs 1), .int .i64 (c.rs 2), .int .i64 (c.rs 3), .int .i64 (c.rs 4), .int .i64 (c.rs 5), .int .i64 (c.rs 6), .int .i64 (c.rs 7), .int .i64 c.dp] 26)).alloc (.cells #[.int .i64 0, .int .i64 0, .int .i64 0, .int .i64 0, .int .i64 0, .int .i64 0, .int .i64 0, .int .i64 0, .int .i64 0, .int .i64 0, .int .i64 0] 26) = W at *
    have x0 : (W.setCell ⟨w.heap.size, 2 + k, none⟩ (.int .i64 v)).cell? ⟨w.heap.size, 0, none⟩ = some (.int .i64 d.pg) := hC2.cell rfl
    have x1 : (W.setCell ⟨w.heap.size, 2 + k, none⟩ (.int .i64 v)).cell? ⟨w.heap.size, 1, none⟩ = some (.int .i64 d.pc) := hC2.cell rfl
    have x2 : (W.setCell ⟨w.heap.size, 2 + k, none⟩ (.int .i64 v)).cell? ⟨w.heap.size, 2, none⟩ = some (.int .i64 (d.rs 0)) := hC2.cell rfl
    have x3 : (W.setCell ⟨w.heap.size, 2 + k, none⟩ (.int .i64 v)).cell? ⟨w.heap.size, 3, none⟩ = some (.int .i64 (d.rs 1)) := hC2.cell rfl
    have x4 : (W.setCell ⟨w.heap.size, 2 + k, none⟩ (.int .i64 v)).cell? ⟨w.heap.size, 4, none⟩ = some (.int .i64 (d.rs 2)) := hC2.cell rfl
    have x5 : (W.setCell ⟨w.heap.size, 2 + k, none⟩ (.int .i64 v)).cell? ⟨w.heap.size, 5, none⟩ = some (.int .i64 (d.rs 3)) := hC2.cell rfl
    have x6 : (W.setCell ⟨w.heap.size, 2 + k, none⟩ (.int .i64 v)).cell? ⟨w.heap.size, 6, none⟩ = some (.int .i64 (d.rs 4)) := hC2.cell rfl
    have x7 : (W.setCell ⟨w.heap.size, 2 + k, none⟩ (.int .i64 v)).cell? ⟨w.heap.size, 7, none⟩ = some (.int .i64 (d.rs 5)) := hC2.cell rfl
    have x8 : (W.setCell ⟨w.heap.size, 2 + k, none⟩ (.int .i64 v)).cell? ⟨w.heap.size, 8, none⟩ = some (.int .i64 (d.rs 6)) := hC2.cell rfl
    have x9 : (W.setCell ⟨w.heap.size, 2 + k, none⟩ (.int .i64 v)).cell? ⟨w.heap.size, 9, none⟩ = some (.int .i64 (d.rs 7)) := hC2.cell rfl
    have x10 : (W.setCell ⟨w.heap.size, 2 + k, none⟩ (.int .i64 v)).cell? ⟨w.heap.size, 10, none⟩ = some (.int .i64 d.dp) := hC2.cell rfl
    have zz0 : (W.setCell ⟨w.heap.size, 2 + k, none⟩ (.int .i64 v)).cell? ⟨w.heap.size + 1, 0, none⟩ = some (.int .i64 0) := hZ2.cell rfl
    have zz1 : (W.setCell ⟨w.heap.size, 2 + k, none⟩ (.int .i64 v)).cell? ⟨w.heap.size + 1, 1, none⟩ = some (.int .i64 0) := hZ2.cell rfl
    have zz2 : (W.setCell ⟨w.heap.size, 2 + k, none⟩ (.int .i64 v)).cell? ⟨w.heap.size + 1, 2, none⟩ = some (.int .i64 0) := hZ2.cell rfl
    have zz3 : (W.setCell ⟨w.heap.size, 2 + k, none⟩ (.int .i64 v)).cell? ⟨w.heap.size + 1, 3, none⟩ = some (.int .i64 0) := hZ2.cell rfl
    have zz4 : (W.setCell ⟨w.heap.size, 2 + k, none⟩ (.int .i64 v)).cell? ⟨w.heap.size + 1, 4, none⟩ = some (.int .i64 0) := hZ2.cell rfl
    have zz5 : (W.setCell ⟨w.heap.size, 2 + k, none⟩ (.int .i64 v)).cell? ⟨w.heap.size + 1, 5, none⟩ = some (.int .i64 0) := hZ2.cell rfl
    have zz6 : (W.setCell ⟨w.heap.size, 2 + k, none⟩ (.int .i64 v)).cell? ⟨w.heap.size + 1, 6, none⟩ = some (.int .i64 0) := hZ2.cell rfl
    have zz7 : (W.setCell ⟨w.heap.size, 2 + k, none⟩ (.int .i64 v)).cell? ⟨w.heap.size + 1, 7, none⟩ = some (.int .i64 0) := hZ2.cell rfl
    have zz8 : (W.setCell ⟨w.heap.size, 2 + k, none⟩ (.int .i64 v)).cell? ⟨w.heap.size + 1, 8, none⟩ = some (.int .i64 0) := hZ2.cell rfl
    have zz9 : (W.setCell ⟨w.heap.size, 2 + k, none⟩ (.int .i64 v)).cell? ⟨w.heap.size + 1, 9, none⟩ = some (.int .i64 0) := hZ2.cell rfl
    have zz10 : (W.setCell ⟨w.heap.size, 2 + k, none⟩ (.int .i64 v)).cell? ⟨w.heap.size + 1, 10, none⟩ = some (.int .i64 0) := hZ2.cell rfl
    have f0 : (W.setCell ⟨w.heap.size, 2 + k, none⟩ (.int .i64 v)).frozen? ⟨w.heap.size + 1, 0, none⟩ = false := hZ2.fz 0
    have f1 : (W.setCell ⟨w.heap.size, 2 + k, none⟩ (.int .i64 v)).frozen? ⟨w.heap.size + 1, 1, none⟩ = false := hZ2.fz 1
    have f2 : (W.setCell ⟨w.heap.size, 2 + k, none⟩ (.int .i64 v)).frozen? ⟨w.heap.size + 1, 2, none⟩ = false := hZ2.fz 2
    have f3 : (W.setCell ⟨w.heap.size, 2 + k, none⟩ (.int .i64 v)).frozen? ⟨w.heap.size + 1, 3, none⟩ = false := hZ2.fz 3
    have f4 : (W.setCell ⟨w.heap.size, 2 + k, none⟩ (.int .i64 v)).frozen? ⟨w.heap.size + 1, 4, none⟩ = false := hZ2.fz 4
    have f5 : (W.setCell ⟨w.heap.size, 2 + k, none⟩ (.int .i64 v)).frozen? ⟨w.heap.size + 1, 5, none⟩ = false := hZ2.fz 5
    have f6 : (W.setCell ⟨w.heap.size, 2 + k, none⟩ (.int .i64 v)).frozen? ⟨w.heap.size + 1, 6, none⟩ = false := hZ2.fz 6
    have f7 : (W.setCell ⟨w.heap.size, 2 + k, none⟩ (.int .i64 v)).frozen? ⟨w.heap.size + 1, 7, none⟩ = false := hZ2.fz 7
    have f8 : (W.setCell ⟨w.heap.size, 2 + k, none⟩ (.int .i64 v)).frozen? ⟨w.heap.size + 1, 8, none⟩ = false := hZ2.fz 8
    have f9 : (W.setCell ⟨w.heap.size, 2 + k, none⟩ (.int .i64 v)).frozen? ⟨w.heap.size + 1, 9, none⟩ = false := hZ2.fz 9
    have f10 : (W.setCell ⟨w.heap.size, 2 + k, none⟩ (.int .i64 v)).frozen? ⟨w.heap.size + 1, 10, none⟩ = false := hZ2.fz 10
    go_wp2_with fail
    exact bodyPost_ret (results_cX rfl _ _ (w.heap.size + 1) d rfl (Cel.fill11 _ _ _ _ _ _ _ _ _ _ _ hZ2)) rfl ⟨rfl, below_fill11 _ _ _ _ _ _ _ _ _ _ _ hB2 (Nat.le_refl _) (by omega)⟩
  · rw [putR_out c h]
    unfold cxA at hC
    unfold cxA
    by_cases h0 : i < 0
    · clear h
      go_enter Tryd.func22, Tryd.ntmps22
      go_upto_region 1 with fail
      generalize (w.alloc (.cells #[.int .i64 c.pg, .int .i64 c.pc, .int .i64 (c.rs 0), .int .i64 (c.rs 1), .int .i64 (c.rs 2), .int .i64 (c.rs 3), .int .i64 (c.rs 4), .int .i64 (c.rs 5), .int .i64 (c.rs 6), .int .i64 (c.rs 7), .int .i64 c.dp] 26)).alloc (.cells #[.int .i64 0, .int .i64 0, .int .i64 0, .int .i64 0, .int .i64 0, .int .i64 0, .int .i64 0, .int .i64 0, .int .i64 0, .int .i64 0, .int .i64 0] 26) = W at *
      have x0 : W.cell? ⟨w.heap.size, 0, none⟩ = some (.int .i64 c.pg) := hC.cell rfl
      have x1 : W.cell? ⟨w.heap.size, 1, none⟩ = some (.int .i64 c.pc) := hC.cell rfl
      have x2 : W.cell? ⟨w.heap.size, 2, none⟩ = some (.int .i64 (c.rs 0)) := hC.cell rfl
      have x3 : W.cell? ⟨w.heap.size, 3, none⟩ = some (.int .i64 (c.rs 1)) := hC.cell rfl
      have x4 : W.cell? ⟨w.heap.size, 4, none⟩ = some (.int .i64 (c.rs 2)) := hC.cell rfl
      have x5 : W.cell? ⟨w.heap.size, 5, none⟩ = some (.int .i64 (c.rs 3)) := hC.cell rfl
      have x6 : W.cell? ⟨w.heap.size, 6, none⟩ = some (.int .i64 (c.rs 4)) := hC.cell rfl
      have x7 : W.cell? ⟨w.heap.size, 7, none⟩ = some (.int .i64 (c.rs 5)) := hC.cell rfl
      have x8 : W.cell? ⟨w.heap.size, 8, none⟩ = some (.int .i64 (c.rs 6)) := hC.cell rfl
      have x9 : W.cell? ⟨w.heap.size, 9, none⟩ = some (.int .i64 (c.rs 7)) := hC.cell rfl
      have x10 : W.cell? ⟨w.heap.size, 10, none⟩ = some (.int .i64 c.dp) := hC.cell rfl
      have zz0 : W.cell? ⟨w.heap.size + 1, 0, none⟩ = some (.int .i64 0) := hZ.cell rfl
      have zz1 : W.cell? ⟨w.heap.size + 1, 1, none⟩ = some (.int .i64 0) := hZ.cell rfl
      have zz2 : W.cell? ⟨w.heap.size + 1, 2, none⟩ = some (.int .i64 0) := hZ.cell rfl
      have zz3 : W.cell? ⟨w.heap.size + 1, 3, none⟩ = some (.int .i64 0) := hZ.cell rfl
      have zz4 : W.cell? ⟨w.heap.size + 1, 4, none⟩ = some (.int .i64 0) := hZ.cell rfl
      have zz5 : W.cell? ⟨w.heap.size + 1, 5, none⟩ = some (.int .i64 0) := hZ.cell rfl
      have zz6 : W.cell? ⟨w.heap.size + 1, 6, none⟩ = some (.int .i64 0) := hZ.cell rfl
      have zz7 : W.cell? ⟨w.heap.size + 1, 7, none⟩ = some (.int .i64 0) := hZ.cell rfl
      have zz8 : W.cell? ⟨w.heap.size + 1, 8, none⟩ = some (.int .i64 0) := hZ.cell rfl
      have zz9 : W.cell? ⟨w.heap.size + 1, 9, none⟩ = some (.int .i64 0) := hZ.cell rfl
      have zz10 : W.cell? ⟨w.heap.size + 1, 10, none⟩ = some (.int .i64 0) := hZ.cell rfl
      have f0 : W.frozen? ⟨w.heap.size + 1, 0, none⟩ = false := hZ.fz 0
      have f1 : W.frozen? ⟨w.heap.size + 1, 1, none⟩ = false := hZ.fz 1
      have f2 : W.frozen? ⟨w.heap.size + 1, 2, none⟩ = false := hZ.fz 2
      have f3 : W.frozen? ⟨w.heap.size + 1, 3, none⟩ = false := hZ.fz 3
      have f4 : W.frozen? ⟨w.heap.size + 1, 4, none⟩ = false := hZ.fz 4
      have f5 : W.frozen? ⟨w.heap.size + 1, 5, none⟩ = false := hZ.fz 5
      have f6 : W.frozen? ⟨w.heap.size + 1, 6, none⟩ = false := hZ.fz 6
      have f7 : W.frozen? ⟨w.heap.size + 1, 7, none⟩ = false := hZ.fz 7
      have f8 : W.frozen? ⟨w.heap.size + 1, 8, none⟩ = false := hZ.fz 8
      have f9 : W.frozen? ⟨w.heap.size + 1, 9, none⟩ = false := hZ.fz 9
      have f10 : W.frozen? ⟨w.heap.size + 1, 10, none⟩ = false := hZ.fz 10
      go_wp2_with fail
      exact bodyPost_ret (results_cX rfl _ _ (w.heap.size + 1) c rfl (Cel.fill11 _ _ _ _ _ _ _ _ _ _ _ hZ)) rfl ⟨rfl, below_fill11 _ _ _ _ _ _ _ _ _ _ _ hB (Nat.le_refl _) (by omega)⟩
    · have h1 : (7 : Int) < i := by omega
      have h2 : (0 : Int) ≤ i := by omega
      clear h h0
      go_enter Tryd.func22, Tryd.ntmps22
      go_upto_region 1 with fail
      generalize (w.alloc (.cells #[.int .i64 c.pg, .int .i64 c.pc, .int .i64 (c.rs 0), .int .i64 (c.rs 1), .int .i64 (c.rs 2), .int .i64 (c.rs 3), .int .i64 (c.rs 4), .int .i64 (c.rs 5), .int .i64 (c.rs 6), .int .i64 (c.rs 7), .int .i64 c.dp] 26)).alloc (.cells #[.int .i64 0, .int .i64 0, .int .i64 0, .int .i64 0, .int .i64 0, .int .i64 0, .int .i64 0, .int .i64 0, .int .i64 0, .int .i64 0, .int .i64 0] 26) = W at *
      have x0 : W.cell? ⟨w.heap.size, 0, none⟩ = some (.int .i64 c.pg) := hC.cell rfl
      have x1 : W.cell? ⟨w.heap.size, 1, none⟩ = some (.int .i64 c.pc) := hC.cell rfl
      have x2 : W.cell? ⟨w.heap.size, 2, none⟩ = some (.int .i64 (c.rs 0)) := hC.cell rfl
      have x3 : W.cell? ⟨w.heap.size, 3, none⟩ = some (.int .i64 (c.rs 1)) := hC.cell rfl
      have x4 : W.cell? ⟨w.heap.size, 4, none⟩ = some (.int .i64 (c.rs 2)) := hC.cell rfl
      have x5 : W.cell? ⟨w.heap.size, 5, none⟩ = some (.int .i64 (c.rs 3)) := hC.cell rfl
      have x6 : W.cell? ⟨w.heap.size, 6, none⟩ = some (.int .i64 (c.rs 4)) := hC.cell rfl
      have x7 : W.cell? ⟨w.heap.size, 7, none⟩ = some (.int .i64 (c.rs 5)) := hC.cell rfl
      have x8 : W.cell? ⟨w.heap.size, 8, none⟩ = some (.int .i64 (c.rs 6)) := hC.cell rfl
      have x9 : W.cell? ⟨w.heap.size, 9, none⟩ = some (.int .i64 (c.rs 7)) := hC.cell rfl
      have x10 : W.cell? ⟨w.heap.size, 10, none⟩ = some (.int .i64 c.dp) := hC.cell rfl
      have zz0 : W.cell? ⟨w.heap.size + 1, 0, none⟩ = some (.int .i64 0) := hZ.cell rfl
      have zz1 : W.cell? ⟨w.heap.size + 1, 1, none⟩ = some (.int .i64 0) := hZ.cell rfl
      have zz2 : W.cell? ⟨w.heap.size + 1, 2, none⟩ = some (.int .i64 0) := hZ.cell rfl
      have zz3 : W.cell? ⟨w.heap.size + 1, 3, none⟩ = some (.int .i64 0) := hZ.cell rfl
      have zz4 : W.cell? ⟨w.heap.size + 1, 4, none⟩ = some (.int .i64 0) := hZ.cell rfl
      have zz5 : W.cell? ⟨w.heap.size + 1, 5, none⟩ = some (.int .i64 0) := hZ.cell rfl
      have zz6 : W.cell? ⟨w.heap.size + 1, 6, none⟩ = some (.int .i64 0) := hZ.cell rfl
      have zz7 : W.cell? ⟨w.heap.size + 1, 7, none⟩ = some (.int .i64 0) := hZ.cell rfl
      have zz8 : W.cell? ⟨w.heap.size + 1, 8, none⟩ = some (.int .i64 0) := hZ.cell rfl
      have zz9 : W.cell? ⟨w.heap.size + 1, 9, none⟩ = some (.int .i64 0) := hZ.cell rfl
      have zz10 : W.cell? ⟨w.heap.size + 1, 10, none⟩ = some (.int .i64 0) := hZ.cell rfl
      have f0 : W.frozen? ⟨w.heap.size + 1, 0, none⟩ = false := hZ.fz 0
      have f1 : W.frozen? ⟨w.heap.size + 1, 1, none⟩ = false := hZ.fz 1
      have f2 : W.frozen? ⟨w.heap.size + 1, 2, none⟩ = false := hZ.fz 2
      have f3 : W.frozen? ⟨w.heap.size + 1, 3, none⟩ = false := hZ.fz 3
      have f4 : W.frozen? ⟨w.heap.size + 1, 4, none⟩ = false := hZ.fz 4
      have f5 : W.frozen? ⟨w.heap.size + 1, 5, none⟩ = false := hZ.fz 5
      have f6 : W.frozen? ⟨w.heap.size + 1, 6, none⟩ = false := hZ.fz 6
      have f7 : W.frozen? ⟨w.heap.size + 1, 7, none⟩ = false := hZ.fz 7
      have f8 : W.frozen? ⟨w.heap.size + 1, 8, none⟩ = false := hZ.fz 8
      have f9 : W.frozen? ⟨w.heap.size + 1, 9, none⟩ = false := hZ.fz 9
      have f10 : W.frozen? ⟨w.heap.size + 1, 10, none⟩ = false := hZ.fz 10
      go_wp2_with fail
      exact bodyPost_ret (results_cX rfl _ _ (w.heap.size + 1) c rfl (Cel.fill11 _ _ _ _ _ _ _ _ _ _ _ hZ)) rfl ⟨rfl, below_fill11 _ _ _ _ _ _ _ _ _ _ _ hB (Nat.le_refl _) (by omega)⟩

/-- Does a call tell a value? -/
def tellB (op : Int) : Bool := decide (op = 13) || decide (op = 14) || decide (op = 23) || decide (op = 24) || decide (op = 25) || decide (op = 26)
theorem tells_any (op : Int) (w : World) : Calls Tryd.prog 26 #[.int .i64 op] w fun e w' => e = .returned (.bool (tellB op)) ∧ w' = w := by
  by_cases h13 : op = 13
  · subst h13
    rw [show tellB 13 = true from rfl]
    go_enter Tryd.func26, Tryd.ntmps26
    go_wp2_with fail
    go_ret
    exact ⟨rfl, rfl⟩
  by_cases h14 : op = 14
  · subst h14
    rw [show tellB 14 = true from rfl]
    go_enter Tryd.func26, Tryd.ntmps26
    go_wp2_with fail
    go_ret
    exact ⟨rfl, rfl⟩
  by_cases h23 : op = 23
  · subst h23
    rw [show tellB 23 = true from rfl]
    go_enter Tryd.func26, Tryd.ntmps26
    go_wp2_with fail
    go_ret
    exact ⟨rfl, rfl⟩
  by_cases h24 : op = 24
  · subst h24
    rw [show tellB 24 = true from rfl]
    go_enter Tryd.func26, Tryd.ntmps26
    go_wp2_with fail
    go_ret
    exact ⟨rfl, rfl⟩
  by_cases h25 : op = 25
  · subst h25
    rw [show tellB 25 = true from rfl]
    go_enter Tryd.func26, Tryd.ntmps26
    go_wp2_with fail
    go_ret
    exact ⟨rfl, rfl⟩
  by_cases h26 : op = 26
  · subst h26
    rw [show tellB 26 = true from rfl]
    go_enter Tryd.func26, Tryd.ntmps26
    go_wp2_with fail
    go_ret
    exact ⟨rfl, rfl⟩
  have e : tellB op = false := by unfold tellB; simp [h13, h14, h23, h24, h25, h26]
  rw [e]
  go_enter Tryd.func26, Tryd.ntmps26
  go_wp2_with fail
  go_ret
  exact ⟨rfl, rfl⟩

theorem rtells_any (op : Int) (w : World) : Calls Tryd.prog 27 #[.int .i64 op] w fun e w' => e = .returned (.bool (tellB op)) ∧ w' = w := by
  by_cases h13 : op = 13
  · subst h13
    rw [show tellB 13 = true from rfl]
    go_enter Tryd.func27, Tryd.ntmps27
    go_wp2_with fail
    go_ret
    exact ⟨rfl, rfl⟩
  by_cases h14 : op = 14
  · subst h14
    rw [show tellB 14 = true from rfl]
    go_enter Tryd.func27, Tryd.ntmps27
    go_wp2_with fail
    go_ret
    exact ⟨rfl, rfl⟩
  by_cases h23 : op = 23
  · subst h23
    rw [show tellB 23 = true from rfl]
    go_enter Tryd.func27, Tryd.ntmps27
    go_wp2_with fail
    go_ret
    exact ⟨rfl, rfl⟩
  by_cases h24 : op = 24
  · subst h24
    rw [show tellB 24 = true from rfl]
    go_enter Tryd.func27, Tryd.ntmps27
    go_wp2_with fail
    go_ret
    exact ⟨rfl, rfl⟩
  by_cases h25 : op = 25
  · subst h25
    rw [show tellB 25 = true from rfl]
    go_enter Tryd.func27, Tryd.ntmps27
    go_wp2_with fail
    go_ret
    exact ⟨rfl, rfl⟩
  by_cases h26 : op = 26
  · subst h26
    rw [show tellB 26 = true from rfl]
    go_enter Tryd.func27, Tryd.ntmps27
    go_wp2_with fail
    go_ret
    exact ⟨rfl, rfl⟩
  have e : tellB op = false := by unfold tellB; simp [h13, h14, h23, h24, h25, h26]
  rw [e]
  go_enter Tryd.func27, Tryd.ntmps27
  go_wp2_with fail
  go_ret
  refine ⟨?_, rfl⟩
  show Ending.returned (.bool (op == 13 || op == 14 || op == 23 || op == 24 || op == 25 || op == 26)) = _
  simp [h13, h14, h23, h24, h25, h26]

theorem safe_any (c : Cx) (w : World) : Calls Tryd.prog 18 #[.agg (cxA c)] w fun e w' => e = .returned (.bool (c.dp == 0)) ∧ Below w.heap.size w w' := by
  unfold cxA
  go_enter Tryd.func18, Tryd.ntmps18
  go_wp2_with fail
  go_ret
  exact ⟨rfl, (Below.refl _ w).alloc (Nat.le_refl _) _⟩

end Go.Proofs.YtllnpkijojpccaaDoor
