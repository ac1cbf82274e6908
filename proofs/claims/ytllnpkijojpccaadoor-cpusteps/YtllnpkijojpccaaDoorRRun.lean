/- The reference's Step, where there is no instruction, and at any place; its Run. -/
import Derived.Test.YtllnpkijojpccaaDoorRStep
namespace Go.Proofs.YtllnpkijojpccaaDoor
open Go Go.RowKit Go.Shelf

set_option maxRecDepth 100000 in
set_option maxHeartbeats 4000000 in
theorem rstep_lo {w : World} {c : Cx} {a : Option Addr} {n cap : Nat} (h0 : c.pc < 0) : Calls Tryd.prog 11 #[.slice a n cap, .agg #[.int .i64 c.pg, .int .i64 c.pc, .int .i64 (c.rs 0), .int .i64 (c.rs 1), .int .i64 (c.rs 2), .int .i64 (c.rs 3), .int .i64 (c.rs 4), .int .i64 (c.rs 5), .int .i64 (c.rs 6), .int .i64 (c.rs 7), .int .i64 c.dp]] w fun e w' => e = .returned (.tuple #[.agg (cxA c), .agg (insC e11)]) ∧ Below w.heap.size w w' := by
  have eW : ∀ W : World, W = ((w.alloc (.cells #[.int .i64 c.pg, .int .i64 c.pc, .int .i64 (c.rs 0), .int .i64 (c.rs 1), .int .i64 (c.rs 2), .int .i64 (c.rs 3), .int .i64 (c.rs 4), .int .i64 (c.rs 5), .int .i64 (c.rs 6), .int .i64 (c.rs 7), .int .i64 c.dp] 26)).alloc (.cells #[.int .i64 0, .int .i64 0, .int .i64 0, .int .i64 0, .int .i64 0, .int .i64 0, .int .i64 0, .int .i64 0, .int .i64 0, .int .i64 0, .int .i64 0] 26)).alloc (.cells #[.int .i64 0, .int .i64 0, .int .i64 0, .int .i64 0] 33) → Cel W (w.heap.size) #[.int .i64 c.pg, .int .i64 c.pc, .int .i64 (c.rs 0), .int .i64 (c.rs 1), .int .i64 (c.rs 2), .int .i64 (c.rs 3), .int .i64 (c.rs 4), .int .i64 (c.rs 5), .int .i64 (c.rs 6), .int .i64 (c.rs 7), .int .i64 c.dp] 26 ∧ Cel W (w.heap.size + 1) #[.int .i64 0, .int .i64 0, .int .i64 0, .int .i64 0, .int .i64 0, .int .i64 0, .int .i64 0, .int .i64 0, .int .i64 0, .int .i64 0, .int .i64 0] 26 ∧ Cel W (w.heap.size + 1 + 1) #[.int .i64 0, .int .i64 0, .int .i64 0, .int .i64 0] 33 ∧ Below w.heap.size w W ∧ W.heap.size = w.heap.size + 1 + 1 + 1 := by
    rintro W rfl
    refine ⟨((Cel.new w _ 26).put (Below.heap_alloc _ _ _ (by simp))).put (Below.heap_alloc _ _ _ (by simp; omega)), ?_, ?_, (((Below.refl _ w).alloc (Nat.le_refl _) _).alloc (by simp) _).alloc (by simp; omega) _, by simp⟩
    · have h := Cel.new (w.alloc (.cells #[.int .i64 c.pg, .int .i64 c.pc, .int .i64 (c.rs 0), .int .i64 (c.rs 1), .int .i64 (c.rs 2), .int .i64 (c.rs 3), .int .i64 (c.rs 4), .int .i64 (c.rs 5), .int .i64 (c.rs 6), .int .i64 (c.rs 7), .int .i64 c.dp] 26)) #[.int .i64 0, .int .i64 0, .int .i64 0, .int .i64 0, .int .i64 0, .int .i64 0, .int .i64 0, .int .i64 0, .int .i64 0, .int .i64 0, .int .i64 0] 26
      rw [World.size_alloc] at h
      exact h.put (Below.heap_alloc _ _ _ (by simp))
    · have h := Cel.new ((w.alloc (.cells #[.int .i64 c.pg, .int .i64 c.pc, .int .i64 (c.rs 0), .int .i64 (c.rs 1), .int .i64 (c.rs 2), .int .i64 (c.rs 3), .int .i64 (c.rs 4), .int .i64 (c.rs 5), .int .i64 (c.rs 6), .int .i64 (c.rs 7), .int .i64 c.dp] 26)).alloc (.cells #[.int .i64 0, .int .i64 0, .int .i64 0, .int .i64 0, .int .i64 0, .int .i64 0, .int .i64 0, .int .i64 0, .int .i64 0, .int .i64 0, .int .i64 0] 26)) #[.int .i64 0, .int .i64 0, .int .i64 0, .int .i64 0] 33
      rw [World.size_alloc, World.size_alloc] at h
      exact h
  obtain ⟨hC, hZ, hQ, hB, _⟩ := eW _ rfl
  clear eW
  go_enter Tryd.func11, Tryd.ntmps11
  go_upto_region 1 with fail
  generalize ((w.alloc (.cells #[.int .i64 c.pg, .int .i64 c.pc, .int .i64 (c.rs 0), .int .i64 (c.rs 1), .int .i64 (c.rs 2), .int .i64 (c.rs 3), .int .i64 (c.rs 4), .int .i64 (c.rs 5), .int .i64 (c.rs 6), .int .i64 (c.rs 7), .int .i64 c.dp] 26)).alloc (.cells #[.int .i64 0, .int .i64 0, .int .i64 0, .int .i64 0, .int .i64 0, .int .i64 0, .int .i64 0, .int .i64 0, .int .i64 0, .int .i64 0, .int .i64 0] 26)).alloc (.cells #[.int .i64 0, .int .i64 0, .int .i64 0, .int .i64 0] 33) = W at *
  have p1 : W.cell? ⟨w.heap.size, 1, none⟩ = some (.int .i64 c.pc) := hC.cell rfl
  go_upto_region 2 with fail
  clear p1
  have cx0 : W.cell? ⟨w.heap.size, 0, none⟩ = some (.int .i64 c.pg) := hC.cell rfl
  have cx1 : W.cell? ⟨w.heap.size, 1, none⟩ = some (.int .i64 c.pc) := hC.cell rfl
  have cx2 : W.cell? ⟨w.heap.size, 2, none⟩ = some (.int .i64 (c.rs 0)) := hC.cell rfl
  have cx3 : W.cell? ⟨w.heap.size, 3, none⟩ = some (.int .i64 (c.rs 1)) := hC.cell rfl
  have cx4 : W.cell? ⟨w.heap.size, 4, none⟩ = some (.int .i64 (c.rs 2)) := hC.cell rfl
  have cx5 : W.cell? ⟨w.heap.size, 5, none⟩ = some (.int .i64 (c.rs 3)) := hC.cell rfl
  have cx6 : W.cell? ⟨w.heap.size, 6, none⟩ = some (.int .i64 (c.rs 4)) := hC.cell rfl
  have cx7 : W.cell? ⟨w.heap.size, 7, none⟩ = some (.int .i64 (c.rs 5)) := hC.cell rfl
  have cx8 : W.cell? ⟨w.heap.size, 8, none⟩ = some (.int .i64 (c.rs 6)) := hC.cell rfl
  have cx9 : W.cell? ⟨w.heap.size, 9, none⟩ = some (.int .i64 (c.rs 7)) := hC.cell rfl
  have cx10 : W.cell? ⟨w.heap.size, 10, none⟩ = some (.int .i64 c.dp) := hC.cell rfl
  have zz0 : W.cell? ⟨w.heap.size + 1, 0, none⟩ = some (.int .i64 0) := hZ.cell rfl
  have zz1 : W.cell? ⟨w.heap.size + 1, 1, none⟩ = some (.int .i64 0) := hZ.cell rfl
  have zz2 : W.cell? ⟨w.heap.size + 1, 2, none⟩ = some (.int .i64 0) := hZ.cell rfl
  have zz3 : W.cell? ⟨w.heap.size + 1, 3, none⟩ = some (.int .i64 0) := hZ.cell rfl
  have zz4 : W.cell? ⟨w.heap.size + 1, 4, none⟩ = some (.int .i64 0) := hZ.cell rfl
  have zz5 : W.cell? ⟨w.heap.size + 1, 5, none⟩ = some (.int .i64 0) := hZ.cell rfl
  have zz6 : W.cell? ⟨w.heap.size + 1, 6, none⟩ = some (.int .i64 0) := hZ.cell rfl
  have zz7 : W.cell? ⟨w.heap.size + 1, 7, none⟩ = some (.int .i64 0) := hZ.cell rfl
  have zz8 : W.cell? ⟨w.heap.size + 1, 8, none⟩ = some (.int .i64 0) := hZ.cell rfl
  have zz9 : W.cell? ⟨w.heap.size + 1, 9, none⟩ = some (.int .i64 0) := hZ.cell rfl
  have zz10 : W.cell? ⟨w.heap.size + 1, 10, none⟩ = some (.int .i64 0) := hZ.cell rfl
  have f0 : W.frozen? ⟨w.heap.size + 1, 0, none⟩ = false := hZ.fz 0
  have f1 : W.frozen? ⟨w.heap.size + 1, 1, none⟩ = false := hZ.fz 1
  have f2 : W.frozen? ⟨w.heap.size + 1, 2, none⟩ = false := hZ.fz 2
  have f3 : W.frozen? ⟨w.heap.size + 1, 3, none⟩ = false := hZ.fz 3
  have f4 : W.frozen? ⟨w.heap.size + 1, 4, none⟩ = false := hZ.fz 4
  have f5 : W.frozen? ⟨w.heap.size + 1, 5, none⟩ = false := hZ.fz 5
  have f6 : W.frozen? ⟨w.heap.size + 1, 6, none⟩ = false := hZ.fz 6
  have f7 : W.frozen? ⟨w.heap.size + 1, 7, none⟩ = false := hZ.fz 7
  have f8 : W.frozen? ⟨w.heap.size + 1, 8, none⟩ = false := hZ.fz 8
  have f9 : W.frozen? ⟨w.heap.size + 1, 9, none⟩ = false := hZ.fz 9
  have f10 : W.frozen? ⟨w.heap.size + 1, 10, none⟩ = false := hZ.fz 10
  have u0 : W.cell? ⟨w.heap.size + 1 + 1, 0, none⟩ = some (.int .i64 0) := hQ.cell rfl
  have u1 : W.cell? ⟨w.heap.size + 1 + 1, 1, none⟩ = some (.int .i64 0) := hQ.cell rfl
  have u2 : W.cell? ⟨w.heap.size + 1 + 1, 2, none⟩ = some (.int .i64 0) := hQ.cell rfl
  have u3 : W.cell? ⟨w.heap.size + 1 + 1, 3, none⟩ = some (.int .i64 0) := hQ.cell rfl
  have e0 : W.frozen? ⟨w.heap.size + 1 + 1, 0, none⟩ = false := hQ.fz 0
  have e1 : W.frozen? ⟨w.heap.size + 1 + 1, 1, none⟩ = false := hQ.fz 1
  have e2 : W.frozen? ⟨w.heap.size + 1 + 1, 2, none⟩ = false := hQ.fz 2
  have e3 : W.frozen? ⟨w.heap.size + 1 + 1, 3, none⟩ = false := hQ.fz 3
  go_wp2_with fail
  have nS : w.heap.size + 1 ≠ w.heap.size + 1 + 1 := by omega
  refine bodyPost_ret (results_XR rfl _ _ (w.heap.size + 1) (w.heap.size + 1 + 1) c (e11) rfl rfl ?_ ?_) rfl ⟨rfl, ?_⟩
  · exact Cel.over4 _ _ _ _ (Cel.fill11 _ _ _ _ _ _ _ _ _ _ _ hZ) nS
  · exact Cel.fill4 _ _ _ _ (Cel.over11 _ _ _ _ _ _ _ _ _ _ _ hQ nS.symm)
  · exact below_fill4 _ _ _ _ (below_fill11 _ _ _ _ _ _ _ _ _ _ _ hB (Nat.le_refl _) (by omega)) (Nat.le_refl _) (by omega)

set_option maxRecDepth 100000 in
set_option maxHeartbeats 4000000 in
theorem rstep_hi {w : World} {c : Cx} {a : Option Addr} {n cap : Nat} (h0 : 0 ≤ c.pc) (h1 : (n : Int) ≤ c.pc) : Calls Tryd.prog 11 #[.slice a n cap, .agg #[.int .i64 c.pg, .int .i64 c.pc, .int .i64 (c.rs 0), .int .i64 (c.rs 1), .int .i64 (c.rs 2), .int .i64 (c.rs 3), .int .i64 (c.rs 4), .int .i64 (c.rs 5), .int .i64 (c.rs 6), .int .i64 (c.rs 7), .int .i64 c.dp]] w fun e w' => e = .returned (.tuple #[.agg (cxA c), .agg (insC e11)]) ∧ Below w.heap.size w w' := by
  have eW : ∀ W : World, W = ((w.alloc (.cells #[.int .i64 c.pg, .int .i64 c.pc, .int .i64 (c.rs 0), .int .i64 (c.rs 1), .int .i64 (c.rs 2), .int .i64 (c.rs 3), .int .i64 (c.rs 4), .int .i64 (c.rs 5), .int .i64 (c.rs 6), .int .i64 (c.rs 7), .int .i64 c.dp] 26)).alloc (.cells #[.int .i64 0, .int .i64 0, .int .i64 0, .int .i64 0, .int .i64 0, .int .i64 0, .int .i64 0, .int .i64 0, .int .i64 0, .int .i64 0, .int .i64 0] 26)).alloc (.cells #[.int .i64 0, .int .i64 0, .int .i64 0, .int .i64 0] 33) → Cel W (w.heap.size) #[.int .i64 c.pg, .int .i64 c.pc, .int .i64 (c.rs 0), .int .i64 (c.rs 1), .int .i64 (c.rs 2), .int .i64 (c.rs 3), .int .i64 (c.rs 4), .int .i64 (c.rs 5), .int .i64 (c.rs 6), .int .i64 (c.rs 7), .int .i64 c.dp] 26 ∧ Cel W (w.heap.size + 1) #[.int .i64 0, .int .i64 0, .int .i64 0, .int .i64 0, .int .i64 0, .int .i64 0, .int .i64 0, .int .i64 0, .int .i64 0, .int .i64 0, .int .i64 0] 26 ∧ Cel W (w.heap.size + 1 + 1) #[.int .i64 0, .int .i64 0, .int .i64 0, .int .i64 0] 33 ∧ Below w.heap.size w W ∧ W.heap.size = w.heap.size + 1 + 1 + 1 := by
    rintro W rfl
    refine ⟨((Cel.new w _ 26).put (Below.heap_alloc _ _ _ (by simp))).put (Below.heap_alloc _ _ _ (by simp; omega)), ?_, ?_, (((Below.refl _ w).alloc (Nat.le_refl _) _).alloc (by simp) _).alloc (by simp; omega) _, by simp⟩
    · have h := Cel.new (w.alloc (.cells #[.int .i64 c.pg, .int .i64 c.pc, .int .i64 (c.rs 0), .int .i64 (c.rs 1), .int .i64 (c.rs 2), .int .i64 (c.rs 3), .int .i64 (c.rs 4), .int .i64 (c.rs 5), .int .i64 (c.rs 6), .int .i64 (c.rs 7), .int .i64 c.dp] 26)) #[.int .i64 0, .int .i64 0, .int .i64 0, .int .i64 0, .int .i64 0, .int .i64 0, .int .i64 0, .int .i64 0, .int .i64 0, .int .i64 0, .int .i64 0] 26
      rw [World.size_alloc] at h
      exact h.put (Below.heap_alloc _ _ _ (by simp))
    · have h := Cel.new ((w.alloc (.cells #[.int .i64 c.pg, .int .i64 c.pc, .int .i64 (c.rs 0), .int .i64 (c.rs 1), .int .i64 (c.rs 2), .int .i64 (c.rs 3), .int .i64 (c.rs 4), .int .i64 (c.rs 5), .int .i64 (c.rs 6), .int .i64 (c.rs 7), .int .i64 c.dp] 26)).alloc (.cells #[.int .i64 0, .int .i64 0, .int .i64 0, .int .i64 0, .int .i64 0, .int .i64 0, .int .i64 0, .int .i64 0, .int .i64 0, .int .i64 0, .int .i64 0] 26)) #[.int .i64 0, .int .i64 0, .int .i64 0, .int .i64 0] 33
      rw [World.size_alloc, World.size_alloc] at h
      exact h
  obtain ⟨hC, hZ, hQ, hB, _⟩ := eW _ rfl
  clear eW
  go_enter Tryd.func11, Tryd.ntmps11
  go_upto_region 1 with fail
  generalize ((w.alloc (.cells #[.int .i64 c.pg, .int .i64 c.pc, .int .i64 (c.rs 0), .int .i64 (c.rs 1), .int .i64 (c.rs 2), .int .i64 (c.rs 3), .int .i64 (c.rs 4), .int .i64 (c.rs 5), .int .i64 (c.rs 6), .int .i64 (c.rs 7), .int .i64 c.dp] 26)).alloc (.cells #[.int .i64 0, .int .i64 0, .int .i64 0, .int .i64 0, .int .i64 0, .int .i64 0, .int .i64 0, .int .i64 0, .int .i64 0, .int .i64 0, .int .i64 0] 26)).alloc (.cells #[.int .i64 0, .int .i64 0, .int .i64 0, .int .i64 0] 33) = W at *
  have p1 : W.cell? ⟨w.heap.size, 1, none⟩ = some (.int .i64 c.pc) := hC.cell rfl
  go_upto_region 2 with fail
  clear p1
  have cx0 : W.cell? ⟨w.heap.size, 0, none⟩ = some (.int .i64 c.pg) := hC.cell rfl
  have cx1 : W.cell? ⟨w.heap.size, 1, none⟩ = some (.int .i64 c.pc) := hC.cell rfl
  have cx2 : W.cell? ⟨w.heap.size, 2, none⟩ = some (.int .i64 (c.rs 0)) := hC.cell rfl
  have cx3 : W.cell? ⟨w.heap.size, 3, none⟩ = some (.int .i64 (c.rs 1)) := hC.cell rfl
  have cx4 : W.cell? ⟨w.heap.size, 4, none⟩ = some (.int .i64 (c.rs 2)) := hC.cell rfl
  have cx5 : W.cell? ⟨w.heap.size, 5, none⟩ = some (.int .i64 (c.rs 3)) := hC.cell rfl
  have cx6 : W.cell? ⟨w.heap.size, 6, none⟩ = some (.int .i64 (c.rs 4)) := hC.cell rfl
  have cx7 : W.cell? ⟨w.heap.size, 7, none⟩ = some (.int .i64 (c.rs 5)) := hC.cell rfl
  have cx8 : W.cell? ⟨w.heap.size, 8, none⟩ = some (.int .i64 (c.rs 6)) := hC.cell rfl
  have cx9 : W.cell? ⟨w.heap.size, 9, none⟩ = some (.int .i64 (c.rs 7)) := hC.cell rfl
  have cx10 : W.cell? ⟨w.heap.size, 10, none⟩ = some (.int .i64 c.dp) := hC.cell rfl
  have zz0 : W.cell? ⟨w.heap.size + 1, 0, none⟩ = some (.int .i64 0) := hZ.cell rfl
  have zz1 : W.cell? ⟨w.heap.size + 1, 1, none⟩ = some (.int .i64 0) := hZ.cell rfl
  have zz2 : W.cell? ⟨w.heap.size + 1, 2, none⟩ = some (.int .i64 0) := hZ.cell rfl
  have zz3 : W.cell? ⟨w.heap.size + 1, 3, none⟩ = some (.int .i64 0) := hZ.cell rfl
  have zz4 : W.cell? ⟨w.heap.size + 1, 4, none⟩ = some (.int .i64 0) := hZ.cell rfl
  have zz5 : W.cell? ⟨w.heap.size + 1, 5, none⟩ = some (.int .i64 0) := hZ.cell rfl
  have zz6 : W.cell? ⟨w.heap.size + 1, 6, none⟩ = some (.int .i64 0) := hZ.cell rfl
  have zz7 : W.cell? ⟨w.heap.size + 1, 7, none⟩ = some (.int .i64 0) := hZ.cell rfl
  have zz8 : W.cell? ⟨w.heap.size + 1, 8, none⟩ = some (.int .i64 0) := hZ.cell rfl
  have zz9 : W.cell? ⟨w.heap.size + 1, 9, none⟩ = some (.int .i64 0) := hZ.cell rfl
  have zz10 : W.cell? ⟨w.heap.size + 1, 10, none⟩ = some (.int .i64 0) := hZ.cell rfl
  have f0 : W.frozen? ⟨w.heap.size + 1, 0, none⟩ = false := hZ.fz 0
  have f1 : W.frozen? ⟨w.heap.size + 1, 1, none⟩ = false := hZ.fz 1
  have f2 : W.frozen? ⟨w.heap.size + 1, 2, none⟩ = false := hZ.fz 2
  have f3 : W.frozen? ⟨w.heap.size + 1, 3, none⟩ = false := hZ.fz 3
  have f4 : W.frozen? ⟨w.heap.size + 1, 4, none⟩ = false := hZ.fz 4
  have f5 : W.frozen? ⟨w.heap.size + 1, 5, none⟩ = false := hZ.fz 5
  have f6 : W.frozen? ⟨w.heap.size + 1, 6, none⟩ = false := hZ.fz 6
  have f7 : W.frozen? ⟨w.heap.size + 1, 7, none⟩ = false := hZ.fz 7
  have f8 : W.frozen? ⟨w.heap.size + 1, 8, none⟩ = false := hZ.fz 8
  have f9 : W.frozen? ⟨w.heap.size + 1, 9, none⟩ = false := hZ.fz 9
  have f10 : W.frozen? ⟨w.heap.size + 1, 10, none⟩ = false := hZ.fz 10
  have u0 : W.cell? ⟨w.heap.size + 1 + 1, 0, none⟩ = some (.int .i64 0) := hQ.cell rfl
  have u1 : W.cell? ⟨w.heap.size + 1 + 1, 1, none⟩ = some (.int .i64 0) := hQ.cell rfl
  have u2 : W.cell? ⟨w.heap.size + 1 + 1, 2, none⟩ = some (.int .i64 0) := hQ.cell rfl
  have u3 : W.cell? ⟨w.heap.size + 1 + 1, 3, none⟩ = some (.int .i64 0) := hQ.cell rfl
  have e0 : W.frozen? ⟨w.heap.size + 1 + 1, 0, none⟩ = false := hQ.fz 0
  have e1 : W.frozen? ⟨w.heap.size + 1 + 1, 1, none⟩ = false := hQ.fz 1
  have e2 : W.frozen? ⟨w.heap.size + 1 + 1, 2, none⟩ = false := hQ.fz 2
  have e3 : W.frozen? ⟨w.heap.size + 1 + 1, 3, none⟩ = false := hQ.fz 3
  go_wp2_with fail
  have nS : w.heap.size + 1 ≠ w.heap.size + 1 + 1 := by omega
  refine bodyPost_ret (results_XR rfl _ _ (w.heap.size + 1) (w.heap.size + 1 + 1) c (e11) rfl rfl ?_ ?_) rfl ⟨rfl, ?_⟩
  · exact Cel.over4 _ _ _ _ (Cel.fill11 _ _ _ _ _ _ _ _ _ _ _ hZ) nS
  · exact Cel.fill4 _ _ _ _ (Cel.over11 _ _ _ _ _ _ _ _ _ _ _ hQ nS.symm)
  · exact below_fill4 _ _ _ _ (below_fill11 _ _ _ _ _ _ _ _ _ _ _ hB (Nat.le_refl _) (by omega)) (Nat.le_refl _) (by omega)

set_option maxRecDepth 100000 in
set_option maxHeartbeats 4000000 in
theorem rstep_no {w : World} {c : Cx} {a : Option Addr} {n cap : Nat} (h0 : 0 ≤ c.pc) (h1 : c.pc < (n : Int)) (HW : ∀ W : World, Below w.heap.size w W → Calls Tryd.prog 19 #[.slice a n cap] W fun e w' => e = .returned (.bool false) ∧ Below W.heap.size W w') : Calls Tryd.prog 11 #[.slice a n cap, .agg #[.int .i64 c.pg, .int .i64 c.pc, .int .i64 (c.rs 0), .int .i64 (c.rs 1), .int .i64 (c.rs 2), .int .i64 (c.rs 3), .int .i64 (c.rs 4), .int .i64 (c.rs 5), .int .i64 (c.rs 6), .int .i64 (c.rs 7), .int .i64 c.dp]] w fun e w' => e = .returned (.tuple #[.agg (cxA c), .agg (insC e11)]) ∧ Below w.heap.size w w' := by
  have eW : ∀ W : World, W = ((w.alloc (.cells #[.int .i64 c.pg, .int .i64 c.pc, .int .i64 (c.rs 0), .int .i64 (c.rs 1), .int .i64 (c.rs 2), .int .i64 (c.rs 3), .int .i64 (c.rs 4), .int .i64 (c.rs 5), .int .i64 (c.rs 6), .int .i64 (c.rs 7), .int .i64 c.dp] 26)).alloc (.cells #[.int .i64 0, .int .i64 0, .int .i64 0, .int .i64 0, .int .i64 0, .int .i64 0, .int .i64 0, .int .i64 0, .int .i64 0, .int .i64 0, .int .i64 0] 26)).alloc (.cells #[.int .i64 0, .int .i64 0, .int .i64 0, .int .i64 0] 33) → Cel W (w.heap.size) #[.int .i64 c.pg, .int .i64 c.pc, .int .i64 (c.rs 0), .int .i64 (c.rs 1), .int .i64 (c.rs 2), .int .i64 (c.rs 3), .int .i64 (c.rs 4), .int .i64 (c.rs 5), .int .i64 (c.rs 6), .int .i64 (c.rs 7), .int .i64 c.dp] 26 ∧ Cel W (w.heap.size + 1) #[.int .i64 0, .int .i64 0, .int .i64 0, .int .i64 0, .int .i64 0, .int .i64 0, .int .i64 0, .int .i64 0, .int .i64 0, .int .i64 0, .int .i64 0] 26 ∧ Cel W (w.heap.size + 1 + 1) #[.int .i64 0, .int .i64 0, .int .i64 0, .int .i64 0] 33 ∧ Below w.heap.size w W ∧ W.heap.size = w.heap.size + 1 + 1 + 1 := by
    rintro W rfl
    refine ⟨((Cel.new w _ 26).put (Below.heap_alloc _ _ _ (by simp))).put (Below.heap_alloc _ _ _ (by simp; omega)), ?_, ?_, (((Below.refl _ w).alloc (Nat.le_refl _) _).alloc (by simp) _).alloc (by simp; omega) _, by simp⟩
    · have h := Cel.new (w.alloc (.cells #[.int .i64 c.pg, .int .i64 c.pc, .int .i64 (c.rs 0), .int .i64 (c.rs 1), .int .i64 (c.rs 2), .int .i64 (c.rs 3), .int .i64 (c.rs 4), .int .i64 (c.rs 5), .int .i64 (c.rs 6), .int .i64 (c.rs 7), .int .i64 c.dp] 26)) #[.int .i64 0, .int .i64 0, .int .i64 0, .int .i64 0, .int .i64 0, .int .i64 0, .int .i64 0, .int .i64 0, .int .i64 0, .int .i64 0, .int .i64 0] 26
      rw [World.size_alloc] at h
      exact h.put (Below.heap_alloc _ _ _ (by simp))
    · have h := Cel.new ((w.alloc (.cells #[.int .i64 c.pg, .int .i64 c.pc, .int .i64 (c.rs 0), .int .i64 (c.rs 1), .int .i64 (c.rs 2), .int .i64 (c.rs 3), .int .i64 (c.rs 4), .int .i64 (c.rs 5), .int .i64 (c.rs 6), .int .i64 (c.rs 7), .int .i64 c.dp] 26)).alloc (.cells #[.int .i64 0, .int .i64 0, .int .i64 0, .int .i64 0, .int .i64 0, .int .i64 0, .int .i64 0, .int .i64 0, .int .i64 0, .int .i64 0, .int .i64 0] 26)) #[.int .i64 0, .int .i64 0, .int .i64 0, .int .i64 0] 33
      rw [World.size_alloc, World.size_alloc] at h
      exact h
  obtain ⟨hC, hZ, hQ, hB, _⟩ := eW _ rfl
  clear eW
  go_enter Tryd.func11, Tryd.ntmps11
  go_upto_region 1 with fail
  generalize ((w.alloc (.cells #[.int .i64 c.pg, .int .i64 c.pc, .int .i64 (c.rs 0), .int .i64 (c.rs 1), .int .i64 (c.rs 2), .int .i64 (c.rs 3), .int .i64 (c.rs 4), .int .i64 (c.rs 5), .int .i64 (c.rs 6), .int .i64 (c.rs 7), .int .i64 c.dp] 26)).alloc (.cells #[.int .i64 0, .int .i64 0, .int .i64 0, .int .i64 0, .int .i64 0, .int .i64 0, .int .i64 0, .int .i64 0, .int .i64 0, .int .i64 0, .int .i64 0] 26)).alloc (.cells #[.int .i64 0, .int .i64 0, .int .i64 0, .int .i64 0] 33) = W at *
  have p1 : W.cell? ⟨w.heap.size, 1, none⟩ = some (.int .i64 c.pc) := hC.cell rfl
  go_upto_region 2 with (go_at_call 19; (refine (HW W hB).mono ?_); rintro e W1 ⟨rfl, hb1⟩)
  replace hC := hC.below hb1
  replace hZ := hZ.below hb1
  replace hQ := hQ.below hb1
  replace hB := hB.trans (hb1.mono hB.size)
  clear p1 HW hb1
  have cx0 : W1.cell? ⟨w.heap.size, 0, none⟩ = some (.int .i64 c.pg) := hC.cell rfl
  have cx1 : W1.cell? ⟨w.heap.size, 1, none⟩ = some (.int .i64 c.pc) := hC.cell rfl
  have cx2 : W1.cell? ⟨w.heap.size, 2, none⟩ = some (.int .i64 (c.rs 0)) := hC.cell rfl
  have cx3 : W1.cell? ⟨w.heap.size, 3, none⟩ = some (.int .i64 (c.rs 1)) := hC.cell rfl
  have cx4 : W1.cell? ⟨w.heap.size, 4, none⟩ = some (.int .i64 (c.rs 2)) := hC.cell rfl
  have cx5 : W1.cell? ⟨w.heap.size, 5, none⟩ = some (.int .i64 (c.rs 3)) := hC.cell rfl
  have cx6 : W1.cell? ⟨w.heap.size, 6, none⟩ = some (.int .i64 (c.rs 4)) := hC.cell rfl
  have cx7 : W1.cell? ⟨w.heap.size, 7, none⟩ = some (.int .i64 (c.rs 5)) := hC.cell rfl
  have cx8 : W1.cell? ⟨w.heap.size, 8, none⟩ = some (.int .i64 (c.rs 6)) := hC.cell rfl
  have cx9 : W1.cell? ⟨w.heap.size, 9, none⟩ = some (.int .i64 (c.rs 7)) := hC.cell rfl
  have cx10 : W1.cell? ⟨w.heap.size, 10, none⟩ = some (.int .i64 c.dp) := hC.cell rfl
  have zz0 : W1.cell? ⟨w.heap.size + 1, 0, none⟩ = some (.int .i64 0) := hZ.cell rfl
  have zz1 : W1.cell? ⟨w.heap.size + 1, 1, none⟩ = some (.int .i64 0) := hZ.cell rfl
  have zz2 : W1.cell? ⟨w.heap.size + 1, 2, none⟩ = some (.int .i64 0) := hZ.cell rfl
  have zz3 : W1.cell? ⟨w.heap.size + 1, 3, none⟩ = some (.int .i64 0) := hZ.cell rfl
  have zz4 : W1.cell? ⟨w.heap.size + 1, 4, none⟩ = some (.int .i64 0) := hZ.cell rfl
  have zz5 : W1.cell? ⟨w.heap.size + 1, 5, none⟩ = some (.int .i64 0) := hZ.cell rfl
  have zz6 : W1.cell? ⟨w.heap.size + 1, 6, none⟩ = some (.int .i64 0) := hZ.cell rfl
  have zz7 : W1.cell? ⟨w.heap.size + 1, 7, none⟩ = some (.int .i64 0) := hZ.cell rfl
  have zz8 : W1.cell? ⟨w.heap.size + 1, 8, none⟩ = some (.int .i64 0) := hZ.cell rfl
  have zz9 : W1.cell? ⟨w.heap.size + 1, 9, none⟩ = some (.int .i64 0) := hZ.cell rfl
  have zz10 : W1.cell? ⟨w.heap.size + 1, 10, none⟩ = some (.int .i64 0) := hZ.cell rfl
  have f0 : W1.frozen? ⟨w.heap.size + 1, 0, none⟩ = false := hZ.fz 0
  have f1 : W1.frozen? ⟨w.heap.size + 1, 1, none⟩ = false := hZ.fz 1
  have f2 : W1.frozen? ⟨w.heap.size + 1, 2, none⟩ = false := hZ.fz 2
  have f3 : W1.frozen? ⟨w.heap.size + 1, 3, none⟩ = false := hZ.fz 3
  have f4 : W1.frozen? ⟨w.heap.size + 1, 4, none⟩ = false := hZ.fz 4
  have f5 : W1.frozen? ⟨w.heap.size + 1, 5, none⟩ = false := hZ.fz 5
  have f6 : W1.frozen? ⟨w.heap.size + 1, 6, none⟩ = false := hZ.fz 6
  have f7 : W1.frozen? ⟨w.heap.size + 1, 7, none⟩ = false := hZ.fz 7
  have f8 : W1.frozen? ⟨w.heap.size + 1, 8, none⟩ = false := hZ.fz 8
  have f9 : W1.frozen? ⟨w.heap.size + 1, 9, none⟩ = false := hZ.fz 9
  have f10 : W1.frozen? ⟨w.heap.size + 1, 10, none⟩ = false := hZ.fz 10
  have u0 : W1.cell? ⟨w.heap.size + 1 + 1, 0, none⟩ = some (.int .i64 0) := hQ.cell rfl
  have u1 : W1.cell? ⟨w.heap.size + 1 + 1, 1, none⟩ = some (.int .i64 0) := hQ.cell rfl
  have u2 : W1.cell? ⟨w.heap.size + 1 + 1, 2, none⟩ = some (.int .i64 0) := hQ.cell rfl
  have u3 : W1.cell? ⟨w.heap.size + 1 + 1, 3, none⟩ = some (.int .i64 0) := hQ.cell rfl
  have e0 : W1.frozen? ⟨w.heap.size + 1 + 1, 0, none⟩ = false := hQ.fz 0
  have e1 : W1.frozen? ⟨w.heap.size + 1 + 1, 1, none⟩ = false := hQ.fz 1
  have e2 : W1.frozen? ⟨w.heap.size + 1 + 1, 2, none⟩ = false := hQ.fz 2
  have e3 : W1.frozen? ⟨w.heap.size + 1 + 1, 3, none⟩ = false := hQ.fz 3
  go_wp2_with fail
  have nS : w.heap.size + 1 ≠ w.heap.size + 1 + 1 := by omega
  refine bodyPost_ret (results_XR rfl _ _ (w.heap.size + 1) (w.heap.size + 1 + 1) c (e11) rfl rfl ?_ ?_) rfl ⟨rfl, ?_⟩
  · exact Cel.over4 _ _ _ _ (Cel.fill11 _ _ _ _ _ _ _ _ _ _ _ hZ) nS
  · exact Cel.fill4 _ _ _ _ (Cel.over11 _ _ _ _ _ _ _ _ _ _ _ hQ nS.symm)
  · exact below_fill4 _ _ _ _ (below_fill11 _ _ _ _ _ _ _ _ _ _ _ hB (Nat.le_refl _) (by omega)) (Nat.le_refl _) (by omega)

theorem rstep_any {w : World} {ps : List Ins} {a : Option Addr} (cap : Nat) {c : Cx} (hp : PV w a ps) (hR : Rg c) :
    Calls Tryd.prog 11 #[.slice a ps.length cap, .agg (cxA c)] w fun e w' => e = .returned (.tuple #[.agg (cxA (stepC (codeL ps) c).1), .agg (insC (stepC (codeL ps) c).2)]) ∧ Below w.heap.size w w' := by
  have HW : ∀ W : World, Below w.heap.size w W → Calls Tryd.prog 19 #[.slice a ps.length cap] W fun e w' => e = .returned (.bool (wholeB ps)) ∧ Below W.heap.size W w' := fun W hb => rwhole_any cap (hp.below hb)
  by_cases h0 : c.pc < 0
  · have e : stepC (codeL ps) c = (c, e11) := by unfold stepC; rw [if_neg (by omega)]
    rw [e]
    exact rstep_lo h0
  by_cases h1 : c.pc < (ps.length : Int)
  · cases hw : wholeB ps with
    | false =>
      have e : stepC (codeL ps) c = (c, e11) := by
        unfold stepC codeL
        rw [hw]
        rw [if_neg]
        simp
      rw [e]
      rw [hw] at HW
      exact rstep_no (by omega) h1 HW
    | true =>
      rw [hw] at HW
      have hl := (wholeB_iff.1 hw).1
      have ec : codeL ps = ps := by unfold codeL; rw [hw]; rfl
      obtain ⟨pg, pc, rs, dp⟩ := c
      obtain ⟨k, rfl⟩ : ∃ k : Nat, pc = (k : Int) := ⟨pc.toNat, by simp at h0; omega⟩
      have hk : k < ps.length := by simp at h1; omega
      obtain ⟨b, o, rfl, hq⟩ := hp k hk
      have e : stepC (codeL ps) ⟨pg, (k : Int), rs, dp⟩ = doC (ins ps k) ⟨pg, (k : Int) + 1, rs, dp⟩ := by
        rw [ec, stepC, if_pos ⟨(by omega : (0 : Int) ≤ (k : Int)), (by omega : (k : Int) < (ps.length : Int))⟩]
        rfl
      rw [e]
      exact rstep_in (ins ps k) hk hl hq hR HW
  · have e : stepC (codeL ps) c = (c, e11) := by
      unfold stepC
      have : (codeL ps).length ≤ ps.length := by unfold codeL; split <;> simp
      rw [if_neg (by omega)]
    rw [e]
    exact rstep_hi (by omega) (by omega)

theorem results_XRI {fn : Func} {p q t : Tmp} (h : fn.results = #[.cell p 26, .cell q 33, .tmp t]) (tmps : Array Value) (w : World) (g g2 : Nat) (c : Cx) (x : Ins) (v : Value) (hp : tmps.getD p undef = .pointer (some ⟨g, 0, none⟩)) (hq : tmps.getD q undef = .pointer (some ⟨g2, 0, none⟩)) (ht : tmps.getD t undef = v) (hc : Cel w g (cxA c) 26) (hk : Cel w g2 (insC x) 33) : (results fn tmps).run Tryd.prog w = .ok (.tuple #[.agg (cxA c), .agg (insC x), v]) w := by
  have hp' : tmps[p]?.getD undef = .pointer (some ⟨g, 0, none⟩) := by simpa using hp
  have hq' : tmps[q]?.getD undef = .pointer (some ⟨g2, 0, none⟩) := by simpa using hq
  have ht' : tmps[t]?.getD undef = v := by simpa using ht
  have hl := run_loadVar_row (P := Tryd.prog) w g 26 26 (cxA c) (0, 0) _ hc Tryd.underlying26 (by rfl) (by kernel_rfl)
  have hl2 := run_loadVar_row (P := Tryd.prog) w g2 33 33 (insC x) (0, 0) _ hk Tryd.underlying33 (by rfl) (by kernel_rfl)
  simp [results, h, hp', hq', ht', asAddr, hl, hl2]

/-- What the reference's Run keeps from step to step. -/
structure RRn (w W : World) (c : Cx) : Prop where
  c : Cel W (w.heap.size) (cxA c) 26
  x : Cel W (w.heap.size + 1) #[.int .i64 0, .int .i64 0, .int .i64 0, .int .i64 0, .int .i64 0, .int .i64 0, .int .i64 0, .int .i64 0, .int .i64 0, .int .i64 0, .int .i64 0] 26
  k : Cel W (w.heap.size + 1 + 1) #[.int .i64 0, .int .i64 0, .int .i64 0, .int .i64 0] 33
  b : Below w.heap.size w W
theorem RRn.on {w W W' : World} {c : Cx} (h : RRn w W c) (hb : Below W.heap.size W W') : RRn w W' c := ⟨h.c.below hb, h.x.below hb, h.k.below hb, h.b.trans (hb.mono h.b.size)⟩

set_option maxRecDepth 100000 in
set_option maxHeartbeats 4000000 in
theorem rrun_go {w : World} {ps : List Ins} {a : Option Addr} {n : Nat} {c : Cx} {most : Int} {r : Cx × Ins × Nat} (hmost : most ≤ 9223372036854775807) (hg : Rg c) (hr : Hid (runC (codeL ps) most.toNat c = r))
    (HS : ∀ (W : World) (d : Cx), Rg d → Below w.heap.size w W → Calls Tryd.prog 11 #[.slice a ps.length n, .agg (cxA d)] W fun e w' => e = .returned (.tuple #[.agg (cxA (stepC (codeL ps) d).1), .agg (insC (stepC (codeL ps) d).2)]) ∧ Below W.heap.size W w') :
    Calls Tryd.prog 13 #[.slice a ps.length n, .agg #[.int .i64 c.pg, .int .i64 c.pc, .int .i64 (c.rs 0), .int .i64 (c.rs 1), .int .i64 (c.rs 2), .int .i64 (c.rs 3), .int .i64 (c.rs 4), .int .i64 (c.rs 5), .int .i64 (c.rs 6), .int .i64 (c.rs 7), .int .i64 c.dp], .int .i64 most] w fun e w' => e = .returned (.tuple #[.agg (cxA r.1), .agg (insC r.2.1), .int .i64 (r.2.2 : Int)]) ∧ Below w.heap.size w w' := by
  have hmx := mixed
  have eW : ∀ W : World, W = ((w.alloc (.cells #[.int .i64 c.pg, .int .i64 c.pc, .int .i64 (c.rs 0), .int .i64 (c.rs 1), .int .i64 (c.rs 2), .int .i64 (c.rs 3), .int .i64 (c.rs 4), .int .i64 (c.rs 5), .int .i64 (c.rs 6), .int .i64 (c.rs 7), .int .i64 c.dp] 26)).alloc (.cells #[.int .i64 0, .int .i64 0, .int .i64 0, .int .i64 0, .int .i64 0, .int .i64 0, .int .i64 0, .int .i64 0, .int .i64 0, .int .i64 0, .int .i64 0] 26)).alloc (.cells #[.int .i64 0, .int .i64 0, .int .i64 0, .int .i64 0] 33) → Cel W (w.heap.size) #[.int .i64 c.pg, .int .i64 c.pc, .int .i64 (c.rs 0), .int .i64 (c.rs 1), .int .i64 (c.rs 2), .int .i64 (c.rs 3), .int .i64 (c.rs 4), .int .i64 (c.rs 5), .int .i64 (c.rs 6), .int .i64 (c.rs 7), .int .i64 c.dp] 26 ∧ Cel W (w.heap.size + 1) #[.int .i64 0, .int .i64 0, .int .i64 0, .int .i64 0, .int .i64 0, .int .i64 0, .int .i64 0, .int .i64 0, .int .i64 0, .int .i64 0, .int .i64 0] 26 ∧ Cel W (w.heap.size + 1 + 1) #[.int .i64 0, .int .i64 0, .int .i64 0, .int .i64 0] 33 ∧ Below w.heap.size w W ∧ W.heap.size = w.heap.size + 1 + 1 + 1 := by
    rintro W rfl
    refine ⟨((Cel.new w _ 26).put (Below.heap_alloc _ _ _ (by simp))).put (Below.heap_alloc _ _ _ (by simp; omega)), ?_, ?_, (((Below.refl _ w).alloc (Nat.le_refl _) _).alloc (by simp) _).alloc (by simp; omega) _, by simp⟩
    · have h := Cel.new (w.alloc (.cells #[.int .i64 c.pg, .int .i64 c.pc, .int .i64 (c.rs 0), .int .i64 (c.rs 1), .int .i64 (c.rs 2), .int .i64 (c.rs 3), .int .i64 (c.rs 4), .int .i64 (c.rs 5), .int .i64 (c.rs 6), .int .i64 (c.rs 7), .int .i64 c.dp] 26)) #[.int .i64 0, .int .i64 0, .int .i64 0, .int .i64 0, .int .i64 0, .int .i64 0, .int .i64 0, .int .i64 0, .int .i64 0, .int .i64 0, .int .i64 0] 26
      rw [World.size_alloc] at h
      exact h.put (Below.heap_alloc _ _ _ (by simp))
    · have h := Cel.new ((w.alloc (.cells #[.int .i64 c.pg, .int .i64 c.pc, .int .i64 (c.rs 0), .int .i64 (c.rs 1), .int .i64 (c.rs 2), .int .i64 (c.rs 3), .int .i64 (c.rs 4), .int .i64 (c.rs 5), .int .i64 (c.rs 6), .int .i64 (c.rs 7), .int .i64 c.dp] 26)).alloc (.cells #[.int .i64 0, .int .i64 0, .int .i64 0, .int .i64 0, .int .i64 0, .int .i64 0, .int .i64 0, .int .i64 0, .int .i64 0, .int .i64 0, .int .i64 0] 26)) #[.int .i64 0, .int .i64 0, .int .i64 0, .int .i64 0] 33
      rw [World.size_alloc, World.size_alloc] at h
      exact h
  obtain ⟨hC, hZ, hQ, hB, hsz⟩ := eW _ rfl
  clear eW
  go_enter Tryd.func13, Tryd.ntmps13
  go_upto_region 1 with fail
  generalize ((w.alloc (.cells #[.int .i64 c.pg, .int .i64 c.pc, .int .i64 (c.rs 0), .int .i64 (c.rs 1), .int .i64 (c.rs 2), .int .i64 (c.rs 3), .int .i64 (c.rs 4), .int .i64 (c.rs 5), .int .i64 (c.rs 6), .int .i64 (c.rs 7), .int .i64 c.dp] 26)).alloc (.cells #[.int .i64 0, .int .i64 0, .int .i64 0, .int .i64 0, .int .i64 0, .int .i64 0, .int .i64 0, .int .i64 0, .int .i64 0, .int .i64 0, .int .i64 0] 26)).alloc (.cells #[.int .i64 0, .int .i64 0, .int .i64 0, .int .i64 0] 33) = W at *
  have hN : RRn w W c := ⟨hC, hZ, hQ, hB⟩
  clear hC hZ hQ hB
  obtain ⟨N, hNm⟩ : ∃ N : Nat, N = most.toNat := ⟨_, rfl⟩
  rw [← hNm] at hr
  have hN1 : most ≤ (N : Int) := by omega
  have hN2 : (0 : Int) < (N : Int) → (N : Int) = most := by omega
  clear hNm
  have hws : w.heap.size + 1 + 1 + 1 ≤ W.heap.size := by omega
  clear hsz
  go_wp2_with fail
  go_loopw [9, 10] (fun p _ wr => ∃ (i : Nat) (d : Cx), i ≤ N ∧ p = .int .i64 i ∧ Hid (r = shiftR i (runC (codeL ps) (N - i) d)) ∧ Hid (Rg d) ∧ RRn w wr d ∧ w.heap.size + 1 + 1 + 1 ≤ wr.heap.size) (fun p _ _ => N - (intOf p).toNat)
  case atStart => exact ⟨0, c, by omega, rfl, Hid.mk (by rw [← hr.out]; rfl), Hid.mk hg, hN, hws⟩
  case round =>
    obtain ⟨i, d, hi, rfl, hS, hgd, hR, hwr⟩ := hrel
    clear hr hN hg hws
    by_cases hlt : i < N
    · have hlt1 : (i : Int) < most := by have := hN2 (by omega); omega
      have hH := fun (W : World) (hb : Below w.heap.size w W) => HS W d hgd.out hb
      have hg2 := Rg.step hgd.out (codeL ps)
      have hi1 : (i : Int) < 9223372036854775807 := by omega
      rw [show N - i = (N - (i + 1)) + 1 by omega] at hS
      have hkd := step_kind ps d
      have hS2 : ((stepC (codeL ps) d).2.1 = 0 → r = shiftR (i + 1) (runC (codeL ps) (N - (i + 1)) (stepC (codeL ps) d).1)) ∧ ((stepC (codeL ps) d).2.1 ≠ 0 → r = ((stepC (codeL ps) d).1, (stepC (codeL ps) d).2, 1 + i)) := ⟨fun h => hS.out.trans (run_none h), fun h => hS.out.trans (run_call h)⟩
      have hSS := Hid.mk hS2
      have hk0 : Hid ((stepC (codeL ps) d).2.1 = 0 → (stepC (codeL ps) d).2 = z4) := Hid.mk (fun h => step_zero h)
      clear hS hS2 hkd HS hgd
      generalize stepC (codeL ps) d = q at *
      obtain ⟨d', k0, k1, k2, k3⟩ := q
      have hRc := hR.c
      unfold cxA at hRc hH
      have aRn : RRn w (wr.alloc (.cells #[.int .i64 0, .int .i64 0, .int .i64 0, .int .i64 0] 33)) d := hR.on ((Below.refl _ wr).alloc (Nat.le_refl _) _)
      have aK : Cel (wr.alloc (.cells #[.int .i64 0, .int .i64 0, .int .i64 0, .int .i64 0] 33)) wr.heap.size #[.int .i64 0, .int .i64 0, .int .i64 0, .int .i64 0] 33 := Cel.new wr _ 33
      have aL : wr.heap.size < (wr.alloc (.cells #[.int .i64 0, .int .i64 0, .int .i64 0, .int .i64 0] 33)).heap.size := by simp
      go_upto_region 4 with fail
      generalize wr.alloc (.cells #[.int .i64 0, .int .i64 0, .int .i64 0, .int .i64 0] 33) = U at *
      generalize wr.heap.size = D at *
      clear hR hRc
      have cx0 : U.cell? ⟨w.heap.size, 0, none⟩ = some (.int .i64 d.pg) := aRn.c.cell rfl
      have cx1 : U.cell? ⟨w.heap.size, 1, none⟩ = some (.int .i64 d.pc) := aRn.c.cell rfl
      have cx2 : U.cell? ⟨w.heap.size, 2, none⟩ = some (.int .i64 (d.rs 0)) := aRn.c.cell rfl
      have cx3 : U.cell? ⟨w.heap.size, 3, none⟩ = some (.int .i64 (d.rs 1)) := aRn.c.cell rfl
      have cx4 : U.cell? ⟨w.heap.size, 4, none⟩ = some (.int .i64 (d.rs 2)) := aRn.c.cell rfl
      have cx5 : U.cell? ⟨w.heap.size, 5, none⟩ = some (.int .i64 (d.rs 3)) := aRn.c.cell rfl
      have cx6 : U.cell? ⟨w.heap.size, 6, none⟩ = some (.int .i64 (d.rs 4)) := aRn.c.cell rfl
      have cx7 : U.cell? ⟨w.heap.size, 7, none⟩ = some (.int .i64 (d.rs 5)) := aRn.c.cell rfl
      have cx8 : U.cell? ⟨w.heap.size, 8, none⟩ = some (.int .i64 (d.rs 6)) := aRn.c.cell rfl
      have cx9 : U.cell? ⟨w.heap.size, 9, none⟩ = some (.int .i64 (d.rs 7)) := aRn.c.cell rfl
      have cx10 : U.cell? ⟨w.heap.size, 10, none⟩ = some (.int .i64 d.dp) := aRn.c.cell rfl
      have K0 : ∀ U2 : World, Below U.heap.size U U2 → U2.cell? ⟨w.heap.size, 0, none⟩ = some (.int .i64 d.pg) ∧ U2.cell? ⟨w.heap.size, 1, none⟩ = some (.int .i64 d.pc) ∧ U2.cell? ⟨w.heap.size, 2, none⟩ = some (.int .i64 (d.rs 0)) ∧ U2.cell? ⟨w.heap.size, 3, none⟩ = some (.int .i64 (d.rs 1)) ∧ U2.cell? ⟨w.heap.size, 4, none⟩ = some (.int .i64 (d.rs 2)) ∧ U2.cell? ⟨w.heap.size, 5, none⟩ = some (.int .i64 (d.rs 3)) ∧ U2.cell? ⟨w.heap.size, 6, none⟩ = some (.int .i64 (d.rs 4)) ∧ U2.cell? ⟨w.heap.size, 7, none⟩ = some (.int .i64 (d.rs 5)) ∧ U2.cell? ⟨w.heap.size, 8, none⟩ = some (.int .i64 (d.rs 6)) ∧ U2.cell? ⟨w.heap.size, 9, none⟩ = some (.int .i64 (d.rs 7)) ∧ U2.cell? ⟨w.heap.size, 10, none⟩ = some (.int .i64 d.dp) ∧ U2.frozen? ⟨w.heap.size, 0, none⟩ = false ∧ U2.frozen? ⟨w.heap.size, 1, none⟩ = false ∧ U2.frozen? ⟨w.heap.size, 2, none⟩ = false ∧ U2.frozen? ⟨w.heap.size, 3, none⟩ = false ∧ U2.frozen? ⟨w.heap.size, 4, none⟩ = false ∧ U2.frozen? ⟨w.heap.size, 5, none⟩ = false ∧ U2.frozen? ⟨w.heap.size, 6, none⟩ = false ∧ U2.frozen? ⟨w.heap.size, 7, none⟩ = false ∧ U2.frozen? ⟨w.heap.size, 8, none⟩ = false ∧ U2.frozen? ⟨w.heap.size, 9, none⟩ = false ∧ U2.frozen? ⟨w.heap.size, 10, none⟩ = false ∧ U2.cell? ⟨D, 0, none⟩ = some (.int .i64 0) ∧ U2.cell? ⟨D, 1, none⟩ = some (.int .i64 0) ∧ U2.cell? ⟨D, 2, none⟩ = some (.int .i64 0) ∧ U2.cell? ⟨D, 3, none⟩ = some (.int .i64 0) ∧ U2.frozen? ⟨D, 0, none⟩ = false ∧ U2.frozen? ⟨D, 1, none⟩ = false ∧ U2.frozen? ⟨D, 2, none⟩ = false ∧ U2.frozen? ⟨D, 3, none⟩ = false := fun U2 hb => ⟨(aRn.c.below hb).cell rfl, (aRn.c.below hb).cell rfl, (aRn.c.below hb).cell rfl, (aRn.c.below hb).cell rfl, (aRn.c.below hb).cell rfl, (aRn.c.below hb).cell rfl, (aRn.c.below hb).cell rfl, (aRn.c.below hb).cell rfl, (aRn.c.below hb).cell rfl, (aRn.c.below hb).cell rfl, (aRn.c.below hb).cell rfl, (aRn.c.below hb).fz 0, (aRn.c.below hb).fz 1, (aRn.c.below hb).fz 2, (aRn.c.below hb).fz 3, (aRn.c.below hb).fz 4, (aRn.c.below hb).fz 5, (aRn.c.below hb).fz 6, (aRn.c.below hb).fz 7, (aRn.c.below hb).fz 8, (aRn.c.below hb).fz 9, (aRn.c.below hb).fz 10, (aK.below hb).cell rfl, (aK.below hb).cell rfl, (aK.below hb).cell rfl, (aK.below hb).cell rfl, (aK.below hb).fz 0, (aK.below hb).fz 1, (aK.below hb).fz 2, (aK.below hb).fz 3⟩
      have nD : D ≠ w.heap.size := by omega
      go_upto_region 5 with (go_at_call 11; (refine (hH U aRn.b).mono ?_); rintro e U2 ⟨rfl, hb2⟩; obtain ⟨t0, t1, t2, t3, t4, t5, t6, t7, t8, t9, t10, g0, g1, g2, g3, g4, g5, g6, g7, g8, g9, g10, v0, v1, v2, v3, j0, j1, j2, j3⟩ := K0 U2 hb2; unfold insC)
      have bRn := aRn.on hb2
      have bK := aK.below hb2
      have bL : D < U2.heap.size := Nat.lt_of_lt_of_le aL hb2.size
      have nb1 : w.heap.size + 1 ≠ w.heap.size := by omega
      have nb2 : w.heap.size + 1 + 1 ≠ w.heap.size := by omega
      have nb3 : w.heap.size + 1 ≠ D := by omega
      have nb4 : w.heap.size + 1 + 1 ≠ D := by omega
      have dRn : RRn w (((((((((((((((U2.setCell ⟨w.heap.size, 0, none⟩ (.int .i64 d'.pg)).setCell ⟨w.heap.size, 1, none⟩ (.int .i64 d'.pc)).setCell ⟨w.heap.size, 2, none⟩ (.int .i64 (d'.rs 0))).setCell ⟨w.heap.size, 3, none⟩ (.int .i64 (d'.rs 1))).setCell ⟨w.heap.size, 4, none⟩ (.int .i64 (d'.rs 2))).setCell ⟨w.heap.size, 5, none⟩ (.int .i64 (d'.rs 3))).setCell ⟨w.heap.size, 6, none⟩ (.int .i64 (d'.rs 4))).setCell ⟨w.heap.size, 7, none⟩ (.int .i64 (d'.rs 5))).setCell ⟨w.heap.size, 8, none⟩ (.int .i64 (d'.rs 6))).setCell ⟨w.heap.size, 9, none⟩ (.int .i64 (d'.rs 7))).setCell ⟨w.heap.size, 10, none⟩ (.int .i64 d'.dp)).setCell ⟨D, 0, none⟩ (.int .i64 k0)).setCell ⟨D, 1, none⟩ (.int .i64 k1)).setCell ⟨D, 2, none⟩ (.int .i64 k2)).setCell ⟨D, 3, none⟩ (.int .i64 k3)) d' := ⟨Cel.over4 _ _ _ _ (Cel.fill11 _ _ _ _ _ _ _ _ _ _ _ bRn.c) nD.symm, Cel.over4 _ _ _ _ (Cel.over11 _ _ _ _ _ _ _ _ _ _ _ bRn.x nb1) nb3, Cel.over4 _ _ _ _ (Cel.over11 _ _ _ _ _ _ _ _ _ _ _ bRn.k nb2) nb4, below_fill4 _ _ _ _ (below_fill11 _ _ _ _ _ _ _ _ _ _ _ bRn.b (Nat.le_refl _) (Nat.le_refl _)) (Nat.le_refl _) (by omega)⟩
      have dK : Cel (((((((((((((((U2.setCell ⟨w.heap.size, 0, none⟩ (.int .i64 d'.pg)).setCell ⟨w.heap.size, 1, none⟩ (.int .i64 d'.pc)).setCell ⟨w.heap.size, 2, none⟩ (.int .i64 (d'.rs 0))).setCell ⟨w.heap.size, 3, none⟩ (.int .i64 (d'.rs 1))).setCell ⟨w.heap.size, 4, none⟩ (.int .i64 (d'.rs 2))).setCell ⟨w.heap.size, 5, none⟩ (.int .i64 (d'.rs 3))).setCell ⟨w.heap.size, 6, none⟩ (.int .i64 (d'.rs 4))).setCell ⟨w.heap.size, 7, none⟩ (.int .i64 (d'.rs 5))).setCell ⟨w.heap.size, 8, none⟩ (.int .i64 (d'.rs 6))).setCell ⟨w.heap.size, 9, none⟩ (.int .i64 (d'.rs 7))).setCell ⟨w.heap.size, 10, none⟩ (.int .i64 d'.dp)).setCell ⟨D, 0, none⟩ (.int .i64 k0)).setCell ⟨D, 1, none⟩ (.int .i64 k1)).setCell ⟨D, 2, none⟩ (.int .i64 k2)).setCell ⟨D, 3, none⟩ (.int .i64 k3)) D #[.int .i64 k0, .int .i64 k1, .int .i64 k2, .int .i64 k3] 33 := Cel.fill4 _ _ _ _ (Cel.over11 _ _ _ _ _ _ _ _ _ _ _ bK nD)
      have dL : w.heap.size + 1 + 1 + 1 ≤ ((((((((((((((((U2.setCell ⟨w.heap.size, 0, none⟩ (.int .i64 d'.pg)).setCell ⟨w.heap.size, 1, none⟩ (.int .i64 d'.pc)).setCell ⟨w.heap.size, 2, none⟩ (.int .i64 (d'.rs 0))).setCell ⟨w.heap.size, 3, none⟩ (.int .i64 (d'.rs 1))).setCell ⟨w.heap.size, 4, none⟩ (.int .i64 (d'.rs 2))).setCell ⟨w.heap.size, 5, none⟩ (.int .i64 (d'.rs 3))).setCell ⟨w.heap.size, 6, none⟩ (.int .i64 (d'.rs 4))).setCell ⟨w.heap.size, 7, none⟩ (.int .i64 (d'.rs 5))).setCell ⟨w.heap.size, 8, none⟩ (.int .i64 (d'.rs 6))).setCell ⟨w.heap.size, 9, none⟩ (.int .i64 (d'.rs 7))).setCell ⟨w.heap.size, 10, none⟩ (.int .i64 d'.dp)).setCell ⟨D, 0, none⟩ (.int .i64 k0)).setCell ⟨D, 1, none⟩ (.int .i64 k1)).setCell ⟨D, 2, none⟩ (.int .i64 k2)).setCell ⟨D, 3, none⟩ (.int .i64 k3))).heap.size := by simp only [World.size_setCell]; omega
      clear K0 aRn aK aL bRn bK bL hb2 hH cx0 cx1 cx2 cx3 cx4 cx5 cx6 cx7 cx8 cx9 cx10 t0 t1 t2 t3 t4 t5 t6 t7 t8 t9 t10 g0 g1 g2 g3 g4 g5 g6 g7 g8 g9 g10 v0 v1 v2 v3 j0 j1 j2 j3
      generalize (((((((((((((((U2.setCell ⟨w.heap.size, 0, none⟩ (.int .i64 d'.pg)).setCell ⟨w.heap.size, 1, none⟩ (.int .i64 d'.pc)).setCell ⟨w.heap.size, 2, none⟩ (.int .i64 (d'.rs 0))).setCell ⟨w.heap.size, 3, none⟩ (.int .i64 (d'.rs 1))).setCell ⟨w.heap.size, 4, none⟩ (.int .i64 (d'.rs 2))).setCell ⟨w.heap.size, 5, none⟩ (.int .i64 (d'.rs 3))).setCell ⟨w.heap.size, 6, none⟩ (.int .i64 (d'.rs 4))).setCell ⟨w.heap.size, 7, none⟩ (.int .i64 (d'.rs 5))).setCell ⟨w.heap.size, 8, none⟩ (.int .i64 (d'.rs 6))).setCell ⟨w.heap.size, 9, none⟩ (.int .i64 (d'.rs 7))).setCell ⟨w.heap.size, 10, none⟩ (.int .i64 d'.dp)).setCell ⟨D, 0, none⟩ (.int .i64 k0)).setCell ⟨D, 1, none⟩ (.int .i64 k1)).setCell ⟨D, 2, none⟩ (.int .i64 k2)).setCell ⟨D, 3, none⟩ (.int .i64 k3)) = V at *
      have r0 : V.cell? ⟨D, 0, none⟩ = some (.int .i64 k0) := dK.cell rfl
      by_cases hk : k0 = 0
      · have e1 := hk0.out hk
        obtain ⟨rfl, rfl, rfl, rfl⟩ : k0 = 0 ∧ k1 = 0 ∧ k2 = 0 ∧ k3 = 0 := by simpa [z4] using e1
        have hS3 := Hid.mk (hSS.out.1 rfl)
        clear hSS hk0 e1 hk
        have hg3 : Hid (Rg d') := Hid.mk hg2
        clear hg2
        go_wp2_with fail
        go_roundw
        case rel => exact ⟨i + 1, d', by omega, by simp, hS3, hg3, dRn, dL⟩
        case measure =>
          simp [intOf]
          omega
      · have hS3 := Hid.mk (hSS.out.2 hk)
        clear hSS hk0 hg2
        have hkb : (k0 != 0) = true := by simpa using hk
        clear hk hN2 hN1 hi hlt hlt1
        go_wp2_with fail
        have q0 : V.cell? ⟨D, 0, none⟩ = some (.int .i64 k0) := dK.cell rfl
        have q1 : V.cell? ⟨D, 1, none⟩ = some (.int .i64 k1) := dK.cell rfl
        have q2 : V.cell? ⟨D, 2, none⟩ = some (.int .i64 k2) := dK.cell rfl
        have q3 : V.cell? ⟨D, 3, none⟩ = some (.int .i64 k3) := dK.cell rfl
        have y0 : V.cell? ⟨w.heap.size, 0, none⟩ = some (.int .i64 d'.pg) := dRn.c.cell rfl
        have y1 : V.cell? ⟨w.heap.size, 1, none⟩ = some (.int .i64 d'.pc) := dRn.c.cell rfl
        have y2 : V.cell? ⟨w.heap.size, 2, none⟩ = some (.int .i64 (d'.rs 0)) := dRn.c.cell rfl
        have y3 : V.cell? ⟨w.heap.size, 3, none⟩ = some (.int .i64 (d'.rs 1)) := dRn.c.cell rfl
        have y4 : V.cell? ⟨w.heap.size, 4, none⟩ = some (.int .i64 (d'.rs 2)) := dRn.c.cell rfl
        have y5 : V.cell? ⟨w.heap.size, 5, none⟩ = some (.int .i64 (d'.rs 3)) := dRn.c.cell rfl
        have y6 : V.cell? ⟨w.heap.size, 6, none⟩ = some (.int .i64 (d'.rs 4)) := dRn.c.cell rfl
        have y7 : V.cell? ⟨w.heap.size, 7, none⟩ = some (.int .i64 (d'.rs 5)) := dRn.c.cell rfl
        have y8 : V.cell? ⟨w.heap.size, 8, none⟩ = some (.int .i64 (d'.rs 6)) := dRn.c.cell rfl
        have y9 : V.cell? ⟨w.heap.size, 9, none⟩ = some (.int .i64 (d'.rs 7)) := dRn.c.cell rfl
        have y10 : V.cell? ⟨w.heap.size, 10, none⟩ = some (.int .i64 d'.dp) := dRn.c.cell rfl
        have zz0 : V.cell? ⟨w.heap.size + 1, 0, none⟩ = some (.int .i64 0) := dRn.x.cell rfl
        have zz1 : V.cell? ⟨w.heap.size + 1, 1, none⟩ = some (.int .i64 0) := dRn.x.cell rfl
        have zz2 : V.cell? ⟨w.heap.size + 1, 2, none⟩ = some (.int .i64 0) := dRn.x.cell rfl
        have zz3 : V.cell? ⟨w.heap.size + 1, 3, none⟩ = some (.int .i64 0) := dRn.x.cell rfl
        have zz4 : V.cell? ⟨w.heap.size + 1, 4, none⟩ = some (.int .i64 0) := dRn.x.cell rfl
        have zz5 : V.cell? ⟨w.heap.size + 1, 5, none⟩ = some (.int .i64 0) := dRn.x.cell rfl
        have zz6 : V.cell? ⟨w.heap.size + 1, 6, none⟩ = some (.int .i64 0) := dRn.x.cell rfl
        have zz7 : V.cell? ⟨w.heap.size + 1, 7, none⟩ = some (.int .i64 0) := dRn.x.cell rfl
        have zz8 : V.cell? ⟨w.heap.size + 1, 8, none⟩ = some (.int .i64 0) := dRn.x.cell rfl
        have zz9 : V.cell? ⟨w.heap.size + 1, 9, none⟩ = some (.int .i64 0) := dRn.x.cell rfl
        have zz10 : V.cell? ⟨w.heap.size + 1, 10, none⟩ = some (.int .i64 0) := dRn.x.cell rfl
        have f0 : V.frozen? ⟨w.heap.size + 1, 0, none⟩ = false := dRn.x.fz 0
        have f1 : V.frozen? ⟨w.heap.size + 1, 1, none⟩ = false := dRn.x.fz 1
        have f2 : V.frozen? ⟨w.heap.size + 1, 2, none⟩ = false := dRn.x.fz 2
        have f3 : V.frozen? ⟨w.heap.size + 1, 3, none⟩ = false := dRn.x.fz 3
        have f4 : V.frozen? ⟨w.heap.size + 1, 4, none⟩ = false := dRn.x.fz 4
        have f5 : V.frozen? ⟨w.heap.size + 1, 5, none⟩ = false := dRn.x.fz 5
        have f6 : V.frozen? ⟨w.heap.size + 1, 6, none⟩ = false := dRn.x.fz 6
        have f7 : V.frozen? ⟨w.heap.size + 1, 7, none⟩ = false := dRn.x.fz 7
        have f8 : V.frozen? ⟨w.heap.size + 1, 8, none⟩ = false := dRn.x.fz 8
        have f9 : V.frozen? ⟨w.heap.size + 1, 9, none⟩ = false := dRn.x.fz 9
        have f10 : V.frozen? ⟨w.heap.size + 1, 10, none⟩ = false := dRn.x.fz 10
        have u0 : V.cell? ⟨w.heap.size + 1 + 1, 0, none⟩ = some (.int .i64 0) := dRn.k.cell rfl
        have u1 : V.cell? ⟨w.heap.size + 1 + 1, 1, none⟩ = some (.int .i64 0) := dRn.k.cell rfl
        have u2 : V.cell? ⟨w.heap.size + 1 + 1, 2, none⟩ = some (.int .i64 0) := dRn.k.cell rfl
        have u3 : V.cell? ⟨w.heap.size + 1 + 1, 3, none⟩ = some (.int .i64 0) := dRn.k.cell rfl
        have e0 : V.frozen? ⟨w.heap.size + 1 + 1, 0, none⟩ = false := dRn.k.fz 0
        have e1 : V.frozen? ⟨w.heap.size + 1 + 1, 1, none⟩ = false := dRn.k.fz 1
        have e2 : V.frozen? ⟨w.heap.size + 1 + 1, 2, none⟩ = false := dRn.k.fz 2
        have e3 : V.frozen? ⟨w.heap.size + 1 + 1, 3, none⟩ = false := dRn.k.fz 3
        have nS : w.heap.size + 1 ≠ w.heap.size + 1 + 1 := by omega
        go_region
        go_wp2_with fail
        refine bodyPost_ret (results_XRI rfl _ _ (w.heap.size + 1) (w.heap.size + 1 + 1) d' (k0, k1, k2, k3) (.int .i64 ((1 + i : Nat) : Int)) rfl rfl ?_ ?_ ?_) rfl ⟨by rw [hS3.out], ?_⟩
        · rw [show ((1 + i : Nat) : Int) = (i : Int) + 1 by omega]
          rfl
        · exact (Cel.over4 _ _ _ _ (Cel.fill11 _ _ _ _ _ _ _ _ _ _ _ dRn.x) nS).drew_
        · exact (Cel.fill4 _ _ _ _ (Cel.over11 _ _ _ _ _ _ _ _ _ _ _ dRn.k nS.symm)).drew_
        · exact (below_fill4 _ _ _ _ (below_fill11 _ _ _ _ _ _ _ _ _ _ _ dRn.b (Nat.le_refl _) (by omega)) (Nat.le_refl _) (by omega)).drew
    · obtain rfl : i = N := by omega
      have hge : most ≤ (i : Int) := hN1
      have hS2 := hS.out
      rw [Nat.sub_self, run_end] at hS2
      subst hS2
      clear hS HS hgd
      have y0 : wr.cell? ⟨w.heap.size, 0, none⟩ = some (.int .i64 d.pg) := hR.c.cell rfl
      have y1 : wr.cell? ⟨w.heap.size, 1, none⟩ = some (.int .i64 d.pc) := hR.c.cell rfl
      have y2 : wr.cell? ⟨w.heap.size, 2, none⟩ = some (.int .i64 (d.rs 0)) := hR.c.cell rfl
      have y3 : wr.cell? ⟨w.heap.size, 3, none⟩ = some (.int .i64 (d.rs 1)) := hR.c.cell rfl
      have y4 : wr.cell? ⟨w.heap.size, 4, none⟩ = some (.int .i64 (d.rs 2)) := hR.c.cell rfl
      have y5 : wr.cell? ⟨w.heap.size, 5, none⟩ = some (.int .i64 (d.rs 3)) := hR.c.cell rfl
      have y6 : wr.cell? ⟨w.heap.size, 6, none⟩ = some (.int .i64 (d.rs 4)) := hR.c.cell rfl
      have y7 : wr.cell? ⟨w.heap.size, 7, none⟩ = some (.int .i64 (d.rs 5)) := hR.c.cell rfl
      have y8 : wr.cell? ⟨w.heap.size, 8, none⟩ = some (.int .i64 (d.rs 6)) := hR.c.cell rfl
      have y9 : wr.cell? ⟨w.heap.size, 9, none⟩ = some (.int .i64 (d.rs 7)) := hR.c.cell rfl
      have y10 : wr.cell? ⟨w.heap.size, 10, none⟩ = some (.int .i64 d.dp) := hR.c.cell rfl
      have zz0 : wr.cell? ⟨w.heap.size + 1, 0, none⟩ = some (.int .i64 0) := hR.x.cell rfl
      have zz1 : wr.cell? ⟨w.heap.size + 1, 1, none⟩ = some (.int .i64 0) := hR.x.cell rfl
      have zz2 : wr.cell? ⟨w.heap.size + 1, 2, none⟩ = some (.int .i64 0) := hR.x.cell rfl
      have zz3 : wr.cell? ⟨w.heap.size + 1, 3, none⟩ = some (.int .i64 0) := hR.x.cell rfl
      have zz4 : wr.cell? ⟨w.heap.size + 1, 4, none⟩ = some (.int .i64 0) := hR.x.cell rfl
      have zz5 : wr.cell? ⟨w.heap.size + 1, 5, none⟩ = some (.int .i64 0) := hR.x.cell rfl
      have zz6 : wr.cell? ⟨w.heap.size + 1, 6, none⟩ = some (.int .i64 0) := hR.x.cell rfl
      have zz7 : wr.cell? ⟨w.heap.size + 1, 7, none⟩ = some (.int .i64 0) := hR.x.cell rfl
      have zz8 : wr.cell? ⟨w.heap.size + 1, 8, none⟩ = some (.int .i64 0) := hR.x.cell rfl
      have zz9 : wr.cell? ⟨w.heap.size + 1, 9, none⟩ = some (.int .i64 0) := hR.x.cell rfl
      have zz10 : wr.cell? ⟨w.heap.size + 1, 10, none⟩ = some (.int .i64 0) := hR.x.cell rfl
      have f0 : wr.frozen? ⟨w.heap.size + 1, 0, none⟩ = false := hR.x.fz 0
      have f1 : wr.frozen? ⟨w.heap.size + 1, 1, none⟩ = false := hR.x.fz 1
      have f2 : wr.frozen? ⟨w.heap.size + 1, 2, none⟩ = false := hR.x.fz 2
      have f3 : wr.frozen? ⟨w.heap.size + 1, 3, none⟩ = false := hR.x.fz 3
      have f4 : wr.frozen? ⟨w.heap.size + 1, 4, none⟩ = false := hR.x.fz 4
      have f5 : wr.frozen? ⟨w.heap.size + 1, 5, none⟩ = false := hR.x.fz 5
      have f6 : wr.frozen? ⟨w.heap.size + 1, 6, none⟩ = false := hR.x.fz 6
      have f7 : wr.frozen? ⟨w.heap.size + 1, 7, none⟩ = false := hR.x.fz 7
      have f8 : wr.frozen? ⟨w.heap.size + 1, 8, none⟩ = false := hR.x.fz 8
      have f9 : wr.frozen? ⟨w.heap.size + 1, 9, none⟩ = false := hR.x.fz 9
      have f10 : wr.frozen? ⟨w.heap.size + 1, 10, none⟩ = false := hR.x.fz 10
      have u0 : wr.cell? ⟨w.heap.size + 1 + 1, 0, none⟩ = some (.int .i64 0) := hR.k.cell rfl
      have u1 : wr.cell? ⟨w.heap.size + 1 + 1, 1, none⟩ = some (.int .i64 0) := hR.k.cell rfl
      have u2 : wr.cell? ⟨w.heap.size + 1 + 1, 2, none⟩ = some (.int .i64 0) := hR.k.cell rfl
      have u3 : wr.cell? ⟨w.heap.size + 1 + 1, 3, none⟩ = some (.int .i64 0) := hR.k.cell rfl
      have e0 : wr.frozen? ⟨w.heap.size + 1 + 1, 0, none⟩ = false := hR.k.fz 0
      have e1 : wr.frozen? ⟨w.heap.size + 1 + 1, 1, none⟩ = false := hR.k.fz 1
      have e2 : wr.frozen? ⟨w.heap.size + 1 + 1, 2, none⟩ = false := hR.k.fz 2
      have e3 : wr.frozen? ⟨w.heap.size + 1 + 1, 3, none⟩ = false := hR.k.fz 3
      have nS : w.heap.size + 1 ≠ w.heap.size + 1 + 1 := by omega
      go_wp2_with fail
      refine bodyPost_ret (results_XRI rfl _ _ (w.heap.size + 1) (w.heap.size + 1 + 1) d z4 (.int .i64 (i : Int)) rfl rfl rfl ?_ ?_) rfl ⟨rfl, ?_⟩
      · exact Cel.over4 _ _ _ _ (Cel.fill11 _ _ _ _ _ _ _ _ _ _ _ hR.x) nS
      · exact Cel.fill4 _ _ _ _ (Cel.over11 _ _ _ _ _ _ _ _ _ _ _ hR.k nS.symm)
      · exact below_fill4 _ _ _ _ (below_fill11 _ _ _ _ _ _ _ _ _ _ _ hR.b (Nat.le_refl _) (by omega)) (Nat.le_refl _) (by omega)

theorem rrun_any {w : World} {ps : List Ins} {a : Option Addr} (n : Nat) {c : Cx} (most : Int) (hmost : most ≤ 9223372036854775807) (hp : PV w a ps) (hg : Rg c) :
    Calls Tryd.prog 13 #[.slice a ps.length n, .agg (cxA c), .int .i64 most] w fun e w' => e = .returned (.tuple #[.agg (cxA (runC (codeL ps) most.toNat c).1), .agg (insC (runC (codeL ps) most.toNat c).2.1), .int .i64 ((runC (codeL ps) most.toNat c).2.2 : Int)]) ∧ Below w.heap.size w w' :=
  rrun_go hmost hg (Hid.mk rfl) (fun _ _ hd hb => rstep_any n (hp.below hb) hd)

end Go.Proofs.YtllnpkijojpccaaDoor
