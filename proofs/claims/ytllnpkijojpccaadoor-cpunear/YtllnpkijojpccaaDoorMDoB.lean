/- What an instruction does: the program's, operations by themselves (B). -/
import Derived.Test.YtllnpkijojpccaaDoorMDo
namespace Go.Proofs.YtllnpkijojpccaaDoor
open Go Go.RowKit Go.Shelf

set_option maxRecDepth 100000 in
set_option maxHeartbeats 2000000 in
theorem do_3 {w : World} {B : Nat} {c : Cx} {v : Value} {a b y : Int} (hM : MC w B c v) :
    Calls Tryd.prog 30 #[.pointer (some ⟨B, 0, none⟩), .agg #[.int .i64 3, .int .i64 a, .int .i64 b, .int .i64 y]] w fun e w' => e = .returned (.agg (insC z4)) ∧ MC w' B (putR c a (wrap64 (getR c a - getR c b))) v ∧ But [B] w w' := by
  have hD : Do w ((w.alloc (.cells #[.int .i64 3, .int .i64 a, .int .i64 b, .int .i64 y] 51)).alloc (.cells #[.int .i64 0, .int .i64 0, .int .i64 0, .int .i64 0] 30)) B c v (3, a, b, y) := do_start (x := (3, a, b, y)) hM
  have hmx := mixed
  go_enter Tryd.func30, Tryd.ntmps30
  go_upto_region 10 with fail
  generalize ((w.alloc (.cells #[.int .i64 3, .int .i64 a, .int .i64 b, .int .i64 y] 51)).alloc (.cells #[.int .i64 0, .int .i64 0, .int .i64 0, .int .i64 0] 30)) = W at *
  have c1 : W.cell? ⟨w.heap.size, 1, none⟩ = some (.int .i64 a) := hD.i1
  have c2 : W.cell? ⟨w.heap.size, 2, none⟩ = some (.int .i64 b) := hD.i2
  have c3 : W.cell? ⟨w.heap.size, 3, none⟩ = some (.int .i64 y) := hD.i3
  refine wp_region_tail (fun w' => ∃ n, w' = W.drewN n) hmx (by kernel_rfl) (by kernel_rfl) rfl ⟨1, rfl⟩ ?_
  show wpQuiet _ _ _ _ [_, _, _, _, _, _, _, _, _, _, _, _] _
  repeat (go_big_quiet_step (first | (go_at_call 35; exact Calls.quiet_of_same (get_do hD _ _)) | (go_at_call 36; exact Calls.quiet_of_same (one_any _ _))))
  refine wpQuiet_nil ?_
  rintro _ ⟨nq, rfl⟩
  go_wp2_with (go_at_call 25; (refine (put_do (hD.drewN nq) _ _).mono ?_); rintro e W1 ⟨rfl, hD1⟩; have r0 := hD1.r0; have r1 := hD1.r1; have r2 := hD1.r2; have r3 := hD1.r3; have f0 := hD1.f 0; have f1 := hD1.f 1; have f2 := hD1.f 2; have f3 := hD1.f 3)
  have hF := hD1.fin z4
  exact bodyPost_ret (results_cK rfl _ _ (w.heap.size + 1) z4 rfl hF.1) rfl ⟨rfl, hF.2⟩

set_option maxRecDepth 100000 in
set_option maxHeartbeats 2000000 in
theorem do_4 {w : World} {B : Nat} {c : Cx} {v : Value} {a b y : Int} (hM : MC w B c v) :
    Calls Tryd.prog 30 #[.pointer (some ⟨B, 0, none⟩), .agg #[.int .i64 4, .int .i64 a, .int .i64 b, .int .i64 y]] w fun e w' => e = .returned (.agg (insC z4)) ∧ MC w' B (putR c a (getR c b)) v ∧ But [B] w w' := by
  have hD : Do w ((w.alloc (.cells #[.int .i64 4, .int .i64 a, .int .i64 b, .int .i64 y] 51)).alloc (.cells #[.int .i64 0, .int .i64 0, .int .i64 0, .int .i64 0] 30)) B c v (4, a, b, y) := do_start (x := (4, a, b, y)) hM
  have hmx := mixed
  go_enter Tryd.func30, Tryd.ntmps30
  go_upto_region 12 with fail
  generalize ((w.alloc (.cells #[.int .i64 4, .int .i64 a, .int .i64 b, .int .i64 y] 51)).alloc (.cells #[.int .i64 0, .int .i64 0, .int .i64 0, .int .i64 0] 30)) = W at *
  have c1 : W.cell? ⟨w.heap.size, 1, none⟩ = some (.int .i64 a) := hD.i1
  have c2 : W.cell? ⟨w.heap.size, 2, none⟩ = some (.int .i64 b) := hD.i2
  have c3 : W.cell? ⟨w.heap.size, 3, none⟩ = some (.int .i64 y) := hD.i3
  refine wp_region_tail (fun w' => ∃ n, w' = W.drewN n) hmx (by kernel_rfl) (by kernel_rfl) rfl ⟨1, rfl⟩ ?_
  show wpQuiet _ _ _ _ [_, _, _, _, _, _, _] _
  repeat (go_big_quiet_step (first | (go_at_call 35; exact Calls.quiet_of_same (get_do hD _ _)) | (go_at_call 36; exact Calls.quiet_of_same (one_any _ _))))
  refine wpQuiet_nil ?_
  rintro _ ⟨nq, rfl⟩
  go_wp2_with (go_at_call 25; (refine (put_do (hD.drewN nq) _ _).mono ?_); rintro e W1 ⟨rfl, hD1⟩; have r0 := hD1.r0; have r1 := hD1.r1; have r2 := hD1.r2; have r3 := hD1.r3; have f0 := hD1.f 0; have f1 := hD1.f 1; have f2 := hD1.f 2; have f3 := hD1.f 3)
  have hF := hD1.fin z4
  exact bodyPost_ret (results_cK rfl _ _ (w.heap.size + 1) z4 rfl hF.1) rfl ⟨rfl, hF.2⟩

set_option maxRecDepth 100000 in
set_option maxHeartbeats 2000000 in
theorem do_5 {w : World} {B : Nat} {c : Cx} {v : Value} {a b y : Int} (hM : MC w B c v) :
    Calls Tryd.prog 30 #[.pointer (some ⟨B, 0, none⟩), .agg #[.int .i64 5, .int .i64 a, .int .i64 b, .int .i64 y]] w fun e w' => e = .returned (.agg (insC z4)) ∧ MC w' B (putR c a (oneI (decide (getR c b < getR c y)))) v ∧ But [B] w w' := by
  have hD : Do w ((w.alloc (.cells #[.int .i64 5, .int .i64 a, .int .i64 b, .int .i64 y] 51)).alloc (.cells #[.int .i64 0, .int .i64 0, .int .i64 0, .int .i64 0] 30)) B c v (5, a, b, y) := do_start (x := (5, a, b, y)) hM
  have hmx := mixed
  go_enter Tryd.func30, Tryd.ntmps30
  go_upto_region 14 with fail
  generalize ((w.alloc (.cells #[.int .i64 5, .int .i64 a, .int .i64 b, .int .i64 y] 51)).alloc (.cells #[.int .i64 0, .int .i64 0, .int .i64 0, .int .i64 0] 30)) = W at *
  have c1 : W.cell? ⟨w.heap.size, 1, none⟩ = some (.int .i64 a) := hD.i1
  have c2 : W.cell? ⟨w.heap.size, 2, none⟩ = some (.int .i64 b) := hD.i2
  have c3 : W.cell? ⟨w.heap.size, 3, none⟩ = some (.int .i64 y) := hD.i3
  refine wp_region_tail (fun w' => ∃ n, w' = W.drewN n) hmx (by kernel_rfl) (by kernel_rfl) rfl ⟨1, rfl⟩ ?_
  show wpQuiet _ _ _ _ [_, _, _, _, _, _, _, _, _, _, _, _, _] _
  repeat (go_big_quiet_step (first | (go_at_call 35; exact Calls.quiet_of_same (get_do hD _ _)) | (go_at_call 36; exact Calls.quiet_of_same (one_any _ _))))
  refine wpQuiet_nil ?_
  rintro _ ⟨nq, rfl⟩
  go_wp2_with (go_at_call 25; (refine (put_do (hD.drewN nq) _ _).mono ?_); rintro e W1 ⟨rfl, hD1⟩; have r0 := hD1.r0; have r1 := hD1.r1; have r2 := hD1.r2; have r3 := hD1.r3; have f0 := hD1.f 0; have f1 := hD1.f 1; have f2 := hD1.f 2; have f3 := hD1.f 3)
  have hF := hD1.fin z4
  exact bodyPost_ret (results_cK rfl _ _ (w.heap.size + 1) z4 rfl hF.1) rfl ⟨rfl, hF.2⟩

end Go.Proofs.YtllnpkijojpccaaDoor
