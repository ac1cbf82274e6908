/- What an instruction does: the program's, operations by themselves (E). -/
import Derived.Test.YtllnpkijojpccaaDoorMDo
namespace Go.Proofs.YtllnpkijojpccaaDoor
open Go Go.RowKit Go.Shelf

set_option maxRecDepth 100000 in
set_option maxHeartbeats 2000000 in
theorem do_11 {w : World} {B : Nat} {c : Cx} {v : Value} {a b y : Int} (hM : MC w B c v) :
    Calls Tryd.prog 30 #[.pointer (some ⟨B, 0, none⟩), .agg #[.int .i64 11, .int .i64 a, .int .i64 b, .int .i64 y]] w fun e w' => e = .returned (.agg (insC (11, getR c a, b, y))) ∧ MC w' B (c) v ∧ But [B] w w' := by
  have hD : Do w ((w.alloc (.cells #[.int .i64 11, .int .i64 a, .int .i64 b, .int .i64 y] 51)).alloc (.cells #[.int .i64 0, .int .i64 0, .int .i64 0, .int .i64 0] 30)) B c v (11, a, b, y) := do_start (x := (11, a, b, y)) hM
  have hmx := mixed
  go_enter Tryd.func30, Tryd.ntmps30
  go_upto_region 28 with fail
  generalize ((w.alloc (.cells #[.int .i64 11, .int .i64 a, .int .i64 b, .int .i64 y] 51)).alloc (.cells #[.int .i64 0, .int .i64 0, .int .i64 0, .int .i64 0] 30)) = W at *
  have c0 : W.cell? ⟨w.heap.size, 0, none⟩ = some (.int .i64 11) := hD.i0
  have c1 : W.cell? ⟨w.heap.size, 1, none⟩ = some (.int .i64 a) := hD.i1
  have c2 : W.cell? ⟨w.heap.size, 2, none⟩ = some (.int .i64 b) := hD.i2
  have c3 : W.cell? ⟨w.heap.size, 3, none⟩ = some (.int .i64 y) := hD.i3
  have hD1 := hD.drewN
  have r0 : ∀ n, (W.drewN n).cell? ⟨w.heap.size + 1, 0, none⟩ = some (.int .i64 0) := fun n => (hD.drewN n).r0
  have r1 : ∀ n, (W.drewN n).cell? ⟨w.heap.size + 1, 1, none⟩ = some (.int .i64 0) := fun n => (hD.drewN n).r1
  have r2 : ∀ n, (W.drewN n).cell? ⟨w.heap.size + 1, 2, none⟩ = some (.int .i64 0) := fun n => (hD.drewN n).r2
  have r3 : ∀ n, (W.drewN n).cell? ⟨w.heap.size + 1, 3, none⟩ = some (.int .i64 0) := fun n => (hD.drewN n).r3
  have f0 : ∀ n, (W.drewN n).frozen? ⟨w.heap.size + 1, 0, none⟩ = false := fun n => (hD.drewN n).f 0
  have f1 : ∀ n, (W.drewN n).frozen? ⟨w.heap.size + 1, 1, none⟩ = false := fun n => (hD.drewN n).f 1
  have f2 : ∀ n, (W.drewN n).frozen? ⟨w.heap.size + 1, 2, none⟩ = false := fun n => (hD.drewN n).f 2
  have f3 : ∀ n, (W.drewN n).frozen? ⟨w.heap.size + 1, 3, none⟩ = false := fun n => (hD.drewN n).f 3
  refine wp_region_tail (fun w' => ∃ n, w' = W.drewN n) hmx (by kernel_rfl) (by kernel_rfl) rfl ⟨1, rfl⟩ ?_
  show wpQuiet _ _ _ _ [_, _, _, _, _, _, _, _, _, _, _] _
  repeat (go_big_quiet_step (first | (go_at_call 35; exact Calls.quiet_of_same (get_do hD _ _)) | (go_at_call 36; exact Calls.quiet_of_same (one_any _ _))))
  refine wpQuiet_nil ?_
  rintro _ ⟨nq, rfl⟩
  go_wp2_with fail
  have hF := (hD1 nq).fin (11, getR c a, b, y)
  exact bodyPost_ret (results_cK rfl _ _ (w.heap.size + 1) (11, getR c a, b, y) rfl hF.1) rfl ⟨rfl, hF.2⟩

set_option maxRecDepth 100000 in
set_option maxHeartbeats 2000000 in
theorem do_14 {w : World} {B : Nat} {c : Cx} {v : Value} {a b y : Int} (hM : MC w B c v) :
    Calls Tryd.prog 30 #[.pointer (some ⟨B, 0, none⟩), .agg #[.int .i64 14, .int .i64 a, .int .i64 b, .int .i64 y]] w fun e w' => e = .returned (.agg (insC (14, getR c a, b, y))) ∧ MC w' B (c) v ∧ But [B] w w' := by
  have hD : Do w ((w.alloc (.cells #[.int .i64 14, .int .i64 a, .int .i64 b, .int .i64 y] 51)).alloc (.cells #[.int .i64 0, .int .i64 0, .int .i64 0, .int .i64 0] 30)) B c v (14, a, b, y) := do_start (x := (14, a, b, y)) hM
  have hmx := mixed
  go_enter Tryd.func30, Tryd.ntmps30
  go_upto_region 28 with fail
  generalize ((w.alloc (.cells #[.int .i64 14, .int .i64 a, .int .i64 b, .int .i64 y] 51)).alloc (.cells #[.int .i64 0, .int .i64 0, .int .i64 0, .int .i64 0] 30)) = W at *
  have c0 : W.cell? ⟨w.heap.size, 0, none⟩ = some (.int .i64 14) := hD.i0
  have c1 : W.cell? ⟨w.heap.size, 1, none⟩ = some (.int .i64 a) := hD.i1
  have c2 : W.cell? ⟨w.heap.size, 2, none⟩ = some (.int .i64 b) := hD.i2
  have c3 : W.cell? ⟨w.heap.size, 3, none⟩ = some (.int .i64 y) := hD.i3
  have hD1 := hD.drewN
  have r0 : ∀ n, (W.drewN n).cell? ⟨w.heap.size + 1, 0, none⟩ = some (.int .i64 0) := fun n => (hD.drewN n).r0
  have r1 : ∀ n, (W.drewN n).cell? ⟨w.heap.size + 1, 1, none⟩ = some (.int .i64 0) := fun n => (hD.drewN n).r1
  have r2 : ∀ n, (W.drewN n).cell? ⟨w.heap.size + 1, 2, none⟩ = some (.int .i64 0) := fun n => (hD.drewN n).r2
  have r3 : ∀ n, (W.drewN n).cell? ⟨w.heap.size + 1, 3, none⟩ = some (.int .i64 0) := fun n => (hD.drewN n).r3
  have f0 : ∀ n, (W.drewN n).frozen? ⟨w.heap.size + 1, 0, none⟩ = false := fun n => (hD.drewN n).f 0
  have f1 : ∀ n, (W.drewN n).frozen? ⟨w.heap.size + 1, 1, none⟩ = false := fun n => (hD.drewN n).f 1
  have f2 : ∀ n, (W.drewN n).frozen? ⟨w.heap.size + 1, 2, none⟩ = false := fun n => (hD.drewN n).f 2
  have f3 : ∀ n, (W.drewN n).frozen? ⟨w.heap.size + 1, 3, none⟩ = false := fun n => (hD.drewN n).f 3
  refine wp_region_tail (fun w' => ∃ n, w' = W.drewN n) hmx (by kernel_rfl) (by kernel_rfl) rfl ⟨1, rfl⟩ ?_
  show wpQuiet _ _ _ _ [_, _, _, _, _, _, _, _, _, _, _] _
  repeat (go_big_quiet_step (first | (go_at_call 35; exact Calls.quiet_of_same (get_do hD _ _)) | (go_at_call 36; exact Calls.quiet_of_same (one_any _ _))))
  refine wpQuiet_nil ?_
  rintro _ ⟨nq, rfl⟩
  go_wp2_with fail
  have hF := (hD1 nq).fin (14, getR c a, b, y)
  exact bodyPost_ret (results_cK rfl _ _ (w.heap.size + 1) (14, getR c a, b, y) rfl hF.1) rfl ⟨rfl, hF.2⟩

end Go.Proofs.YtllnpkijojpccaaDoor
