/- Contexts and calls that are held against one another. -/
import Derived.Test.YtllnpkijojpccaaDoorMch
import Derived.ChangeKeysEq
namespace Go.Proofs.YtllnpkijojpccaaDoor
open Go Go.RowKit

theorem infoInt : ∃ i, Tryd.prog.info? 3 = some i := by
  have h : (Tryd.prog.info? 3).isSome = true := by kernel_rfl
  exact Option.isSome_iff_exists.1 h
theorem cellsInt : Tryd.prog.cellsOf 3 = 1 := by kernel_rfl
set_option maxRecDepth 100000 in
theorem eq8 (W : World) (r0 r1 r2 r3 r4 r5 r6 r7 : Int) : (Op.equalIn 9999 24 (.agg #[.int .i64 r0, .int .i64 r1, .int .i64 r2, .int .i64 r3, .int .i64 r4, .int .i64 r5, .int .i64 r6, .int .i64 r7]) (.agg #[.int .i64 r0, .int .i64 r1, .int .i64 r2, .int .i64 r3, .int .i64 r4, .int .i64 r5, .int .i64 r6, .int .i64 r7])).run Tryd.prog W = .ok true W := by
  obtain ⟨i, hi⟩ := infoInt
  have u3 := Tryd.underlying3
  have a3 := Tryd.isAgg3
  have z3 := Tryd.sizeOf3
  rw [show (9999 : Nat) = 9998 + 1 from rfl, run_equalIn_array W 9998 _ _ Tryd.underlying24 hi, cellsInt, show List.range 8 = [0, 1, 2, 3, 4, 5, 6, 7] from rfl]
  simp only [Op.eqItems]
  go_simp
set_option maxRecDepth 100000 in
theorem eqCx (c : Cx) (W : World) : (binOp .eql 26 (.agg (cxA c)) (.agg (cxA c))).run Tryd.prog W = .ok (.bool true) W := by
  unfold cxA
  have u3 := Tryd.underlying3
  have a3 := Tryd.isAgg3
  have z3 := Tryd.sizeOf3
  have h8 := eq8 W (c.rs 0) (c.rs 1) (c.rs 2) (c.rs 3) (c.rs 4) (c.rs 5) (c.rs 6) (c.rs 7)
  have hS : Tryd.prog.underlying 26 = some (.struct (Tryd.prog.fieldsOf 26)) := by kernel_rfl
  have hp : Tryd.prog.stoodInHeld 26 = false := by kernel_rfl
  have key : (Op.equalIn 10000 26 (.agg (cxA c)) (.agg (cxA c))).run Tryd.prog W = .ok true W := by
    unfold cxA
    rw [show (10000 : Nat) = 9999 + 1 from rfl, run_equalIn_agg W 9999 26 _ _ hS hp]
    simp only [Program.fieldsOf, Tryd.underlying26]
    go_simp
  unfold cxA at key
  rw [run_eql_struct, key]
  rfl
theorem eqK (x : Ins) (W : World) : (binOp .eql 30 (.agg (insC x)) (.agg (insC x))).run Tryd.prog W = .ok (.bool true) W := by
  unfold insC
  go_simp
theorem eqRK (x : Ins) (W : World) : (binOp .eql 33 (.agg (insC x)) (.agg (insC x))).run Tryd.prog W = .ok (.bool true) W := by
  unfold insC
  go_simp
end Go.Proofs.YtllnpkijojpccaaDoor
