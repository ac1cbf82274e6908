/- What an instruction does: the program's, operations by themselves (D). -/
import Derived.Test.YtllnpkijojpccaaDoorMDo
namespace Go.Proofs.YtllnpkijojpccaaDoor
open Go Go.RowKit Go.Shelf

set_option maxRecDepth 100000 in
set_option maxHeartbeats 2000000 in
theorem do_9 {w : World} {B : Nat} {c : Cx} {v : Value} {a b y : Int} (hM : MC w B c v) :
    Calls Tryd.prog 30 #[.pointer (some ⟨B, 0, none⟩), .agg #[.int .i64 9, .int .i64 a, .int .i64 b, .int .i64 y]] w fun e w' => e = .returned (.agg (insC z4)) ∧ MC w' B (toDp c (deepI c.dp)) v ∧ But [B] w w' := by
  have hD : Do w ((w.alloc (.cells #[.int .i64 9, .int .i64 a, .int .i64 b, .int .i64 y] 51)).alloc (.cells #[.int .i64 0, .int .i64 0, .int .i64 0, .int .i64 0] 30)) B c v (9, a, b, y) := do_start (x := (9, a, b, y)) hM
  have hmx := mixed
  go_enter Tryd.func30, Tryd.ntmps30
  go_upto_region 23 with fail
  generalize ((w.alloc (.cells #[.int .i64 9, .int .i64 a, .int .i64 b, .int .i64 y] 51)).alloc (.cells #[.int .i64 0, .int .i64 0, .int .i64 0, .int .i64 0] 30)) = W at *
  have d0 : W.cell? ⟨B, 10, none⟩ = some (.int .i64 c.dp) := Cel.cell hD.m rfl
  have d1 : ∀ n, (W.drewN n).frozen? ⟨B, 10, none⟩ = false := fun n => Cel.fz (hD.drewN n).m 10
  have HU : ∀ n u, Do w ((W.drewN n).setCell ⟨B, 10, none⟩ (.int .i64 u)) B (toDp c u) v (9, a, b, y) := fun n u => (hD.drewN n).put (Cel.set (j := 10) (hD.drewN n).m (.int .i64 u)) ((But.refl _ _).set (p := ⟨B, 10, none⟩) (by simp) _)
  have r0 : ∀ n u, ((W.drewN n).setCell ⟨B, 10, none⟩ (.int .i64 u)).cell? ⟨w.heap.size + 1, 0, none⟩ = some (.int .i64 0) := fun n u => (HU n u).r0
  have r1 : ∀ n u, ((W.drewN n).setCell ⟨B, 10, none⟩ (.int .i64 u)).cell? ⟨w.heap.size + 1, 1, none⟩ = some (.int .i64 0) := fun n u => (HU n u).r1
  have r2 : ∀ n u, ((W.drewN n).setCell ⟨B, 10, none⟩ (.int .i64 u)).cell? ⟨w.heap.size + 1, 2, none⟩ = some (.int .i64 0) := fun n u => (HU n u).r2
  have r3 : ∀ n u, ((W.drewN n).setCell ⟨B, 10, none⟩ (.int .i64 u)).cell? ⟨w.heap.size + 1, 3, none⟩ = some (.int .i64 0) := fun n u => (HU n u).r3
  have f0 : ∀ n u, ((W.drewN n).setCell ⟨B, 10, none⟩ (.int .i64 u)).frozen? ⟨w.heap.size + 1, 0, none⟩ = false := fun n u => (HU n u).f 0
  have f1 : ∀ n u, ((W.drewN n).setCell ⟨B, 10, none⟩ (.int .i64 u)).frozen? ⟨w.heap.size + 1, 1, none⟩ = false := fun n u => (HU n u).f 1
  have f2 : ∀ n u, ((W.drewN n).setCell ⟨B, 10, none⟩ (.int .i64 u)).frozen? ⟨w.heap.size + 1, 2, none⟩ = false := fun n u => (HU n u).f 2
  have f3 : ∀ n u, ((W.drewN n).setCell ⟨B, 10, none⟩ (.int .i64 u)).frozen? ⟨w.heap.size + 1, 3, none⟩ = false := fun n u => (HU n u).f 3
  refine wp_region_tail (fun w' => ∃ n, w' = W.drewN n) hmx (by kernel_rfl) (by kernel_rfl) rfl ⟨1, rfl⟩ ?_
  show wpQuiet _ _ _ _ [_, _, _, _, _, _, _, _, _, _, _, _, _, _, _, _] _
  repeat (go_big_quiet_step (first | (go_at_call 35; exact Calls.quiet_of_same (get_do hD _ _)) | (go_at_call 36; exact Calls.quiet_of_same (one_any _ _))))
  refine wpQuiet_nil ?_
  rintro _ ⟨nq, rfl⟩
  go_wp2_with fail
  have hD1 := HU nq (deepI c.dp)
  have hF := hD1.fin z4
  exact bodyPost_ret (results_cK rfl _ _ (w.heap.size + 1) z4 rfl hF.1) rfl ⟨rfl, hF.2⟩

set_option maxRecDepth 100000 in
set_option maxHeartbeats 2000000 in
theorem do_10 {w : World} {B : Nat} {c : Cx} {v : Value} {a b y : Int} (hM : MC w B c v) :
    Calls Tryd.prog 30 #[.pointer (some ⟨B, 0, none⟩), .agg #[.int .i64 10, .int .i64 a, .int .i64 b, .int .i64 y]] w fun e w' => e = .returned (.agg (insC z4)) ∧ MC w' B (toDp c (leaveI c.dp)) v ∧ But [B] w w' := by
  have hD : Do w ((w.alloc (.cells #[.int .i64 10, .int .i64 a, .int .i64 b, .int .i64 y] 51)).alloc (.cells #[.int .i64 0, .int .i64 0, .int .i64 0, .int .i64 0] 30)) B c v (10, a, b, y) := do_start (x := (10, a, b, y)) hM
  have hmx := mixed
  go_enter Tryd.func30, Tryd.ntmps30
  go_upto_region 25 with fail
  generalize ((w.alloc (.cells #[.int .i64 10, .int .i64 a, .int .i64 b, .int .i64 y] 51)).alloc (.cells #[.int .i64 0, .int .i64 0, .int .i64 0, .int .i64 0] 30)) = W at *
  have d0 : W.cell? ⟨B, 10, none⟩ = some (.int .i64 c.dp) := Cel.cell hD.m rfl
  have d1 : ∀ n, (W.drewN n).frozen? ⟨B, 10, none⟩ = false := fun n => Cel.fz (hD.drewN n).m 10
  have HU : ∀ n u, Do w ((W.drewN n).setCell ⟨B, 10, none⟩ (.int .i64 u)) B (toDp c u) v (10, a, b, y) := fun n u => (hD.drewN n).put (Cel.set (j := 10) (hD.drewN n).m (.int .i64 u)) ((But.refl _ _).set (p := ⟨B, 10, none⟩) (by simp) _)
  have r0 : ∀ n u, ((W.drewN n).setCell ⟨B, 10, none⟩ (.int .i64 u)).cell? ⟨w.heap.size + 1, 0, none⟩ = some (.int .i64 0) := fun n u => (HU n u).r0
  have r1 : ∀ n u, ((W.drewN n).setCell ⟨B, 10, none⟩ (.int .i64 u)).cell? ⟨w.heap.size + 1, 1, none⟩ = some (.int .i64 0) := fun n u => (HU n u).r1
  have r2 : ∀ n u, ((W.drewN n).setCell ⟨B, 10, none⟩ (.int .i64 u)).cell? ⟨w.heap.size + 1, 2, none⟩ = some (.int .i64 0) := fun n u => (HU n u).r2
  have r3 : ∀ n u, ((W.drewN n).setCell ⟨B, 10, none⟩ (.int .i64 u)).cell? ⟨w.heap.size + 1, 3, none⟩ = some (.int .i64 0) := fun n u => (HU n u).r3
  have f0 : ∀ n u, ((W.drewN n).setCell ⟨B, 10, none⟩ (.int .i64 u)).frozen? ⟨w.heap.size + 1, 0, none⟩ = false := fun n u => (HU n u).f 0
  have f1 : ∀ n u, ((W.drewN n).setCell ⟨B, 10, none⟩ (.int .i64 u)).frozen? ⟨w.heap.size + 1, 1, none⟩ = false := fun n u => (HU n u).f 1
  have f2 : ∀ n u, ((W.drewN n).setCell ⟨B, 10, none⟩ (.int .i64 u)).frozen? ⟨w.heap.size + 1, 2, none⟩ = false := fun n u => (HU n u).f 2
  have f3 : ∀ n u, ((W.drewN n).setCell ⟨B, 10, none⟩ (.int .i64 u)).frozen? ⟨w.heap.size + 1, 3, none⟩ = false := fun n u => (HU n u).f 3
  refine wp_region_tail (fun w' => ∃ n, w' = W.drewN n) hmx (by kernel_rfl) (by kernel_rfl) rfl ⟨1, rfl⟩ ?_
  show wpQuiet _ _ _ _ [_, _, _, _, _, _, _, _, _, _, _, _, _, _, _, _] _
  repeat (go_big_quiet_step (first | (go_at_call 35; exact Calls.quiet_of_same (get_do hD _ _)) | (go_at_call 36; exact Calls.quiet_of_same (one_any _ _))))
  refine wpQuiet_nil ?_
  rintro _ ⟨nq, rfl⟩
  go_wp2_with fail
  have hD1 := HU nq (leaveI c.dp)
  have hF := hD1.fin z4
  exact bodyPost_ret (results_cK rfl _ _ (w.heap.size + 1) z4 rfl hF.1) rfl ⟨rfl, hF.2⟩

set_option maxRecDepth 100000 in
set_option maxHeartbeats 2000000 in
theorem do_oth {w : World} {B : Nat} {c : Cx} {v : Value} {op a b y : Int} (hM : MC w B c v) (ho : Oth op) :
    Calls Tryd.prog 30 #[.pointer (some ⟨B, 0, none⟩), .agg #[.int .i64 op, .int .i64 a, .int .i64 b, .int .i64 y]] w fun e w' => e = .returned (.agg (insC (op, a, b, y))) ∧ MC w' B (c) v ∧ But [B] w w' := by
  have hD : Do w ((w.alloc (.cells #[.int .i64 op, .int .i64 a, .int .i64 b, .int .i64 y] 51)).alloc (.cells #[.int .i64 0, .int .i64 0, .int .i64 0, .int .i64 0] 30)) B c v (op, a, b, y) := do_start (x := (op, a, b, y)) hM
  have hmx := mixed
  have n0 : op ≠ 0 := by unfold Oth at ho; omega
  have n1 : op ≠ 1 := by unfold Oth at ho; omega
  have n2 : op ≠ 2 := by unfold Oth at ho; omega
  have n3 : op ≠ 3 := by unfold Oth at ho; omega
  have n4 : op ≠ 4 := by unfold Oth at ho; omega
  have n5 : op ≠ 5 := by unfold Oth at ho; omega
  have n6 : op ≠ 6 := by unfold Oth at ho; omega
  have n7 : op ≠ 7 := by unfold Oth at ho; omega
  have n8 : op ≠ 8 := by unfold Oth at ho; omega
  have n9 : op ≠ 9 := by unfold Oth at ho; omega
  have n10 : op ≠ 10 := by unfold Oth at ho; omega
  have n11 : op ≠ 11 := by unfold Oth at ho; omega
  have n14 : op ≠ 14 := by unfold Oth at ho; omega
  clear ho
  go_enter Tryd.func30, Tryd.ntmps30
  go_upto_region 3 with fail
  generalize ((w.alloc (.cells #[.int .i64 op, .int .i64 a, .int .i64 b, .int .i64 y] 51)).alloc (.cells #[.int .i64 0, .int .i64 0, .int .i64 0, .int .i64 0] 30)) = W at *
  have c0 : W.cell? ⟨w.heap.size, 0, none⟩ = some (.int .i64 op) := hD.i0
  have c1 : W.cell? ⟨w.heap.size, 1, none⟩ = some (.int .i64 a) := hD.i1
  have c2 : W.cell? ⟨w.heap.size, 2, none⟩ = some (.int .i64 b) := hD.i2
  have c3 : W.cell? ⟨w.heap.size, 3, none⟩ = some (.int .i64 y) := hD.i3
  have hD1 := hD
  have r0 := hD.r0
  have f0 := hD.f 0
  have r1 := hD.r1
  have f1 := hD.f 1
  have r2 := hD.r2
  have f2 := hD.f 2
  have r3 := hD.r3
  have f3 := hD.f 3
  go_wp2_with fail
  have hF := hD1.fin (op, a, b, y)
  exact bodyPost_ret (results_cK rfl _ _ (w.heap.size + 1) (op, a, b, y) rfl hF.1) rfl ⟨rfl, hF.2⟩

end Go.Proofs.YtllnpkijojpccaaDoor
