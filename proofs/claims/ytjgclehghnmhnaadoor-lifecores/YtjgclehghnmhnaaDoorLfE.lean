/- Activations that are held against one another. -/
import Derived.Test.YtjgclehghnmhnaaDoorLfA
import Derived.ChangeKeysEq
namespace Go.Proofs.YtjgclehghnmhnaaDoor
open Go Go.RowKit

theorem infoInt : ∃ i, Tryd.prog.info? 3 = some i := by
  have h : (Tryd.prog.info? 3).isSome = true := by kernel_rfl
  exact Option.isSome_iff_exists.1 h
theorem cellsInt : Tryd.prog.cellsOf 3 = 1 := by kernel_rfl
theorem ite_ok {p : Prop} [Decidable p] {W : World} (x : Bool) : (if p then Result.ok x W else Result.ok false W) = Result.ok (decide p && x) W := by
  by_cases h : p <;> simp [h]
theorem ite_no {W : World} (b x : Bool) : (if b = false then Result.ok false W else Result.ok x W) = Result.ok (b && x) W := by
  cases b <;> simp
section
set_option maxRecDepth 100000
set_option maxHeartbeats 1000000
theorem eq8 (W : World) (d : Nat) (hd : d = 9998 ∨ d = 9997) (r0 r1 r2 r3 r4 r5 r6 r7 s0 s1 s2 s3 s4 s5 s6 s7 : Int) : (Op.equalIn (d + 1) 28 (.agg #[.int .i64 r0, .int .i64 r1, .int .i64 r2, .int .i64 r3, .int .i64 r4, .int .i64 r5, .int .i64 r6, .int .i64 r7]) (.agg #[.int .i64 s0, .int .i64 s1, .int .i64 s2, .int .i64 s3, .int .i64 s4, .int .i64 s5, .int .i64 s6, .int .i64 s7])).run Tryd.prog W = .ok (decide ([r0, r1, r2, r3, r4, r5, r6, r7] = [s0, s1, s2, s3, s4, s5, s6, s7])) W := by
  obtain ⟨i, hi⟩ := infoInt
  have u3 := Tryd.underlying3
  have a3 := Tryd.isAgg3
  have z3 := Tryd.sizeOf3
  rw [run_equalIn_array W d _ _ Tryd.underlying28 hi, cellsInt, show List.range 8 = [0, 1, 2, 3, 4, 5, 6, 7] from rfl]
  rcases hd with rfl | rfl
  · simp only [Op.eqItems]
    go_simp
    simp only [ite_ok, Bool.and_true]
  · simp only [Op.eqItems]
    go_simp
    simp only [ite_ok, Bool.and_true]
theorem eqAc_at (W : World) (a b : Ac) : (Op.equalIn 10000 47 (.agg (acA a)) (.agg (acA b))).run Tryd.prog W = .ok (eqA a b) W := by
  have u3 := Tryd.underlying3
  have a3 := Tryd.isAgg3
  have z3 := Tryd.sizeOf3
  have hS : Tryd.prog.underlying 47 = some (.struct (Tryd.prog.fieldsOf 47)) := by kernel_rfl
  have hp : Tryd.prog.stoodInHeld 47 = false := by kernel_rfl
  have h8 := eq8 W 9997 (.inr rfl) (a.rs 0) (a.rs 1) (a.rs 2) (a.rs 3) (a.rs 4) (a.rs 5) (a.rs 6) (a.rs 7) (b.rs 0) (b.rs 1) (b.rs 2) (b.rs 3) (b.rs 4) (b.rs 5) (b.rs 6) (b.rs 7)
  unfold acA eqA acI
  rw [show (10000 : Nat) = 9999 + 1 from rfl, run_equalIn_agg W 9999 47 _ _ hS hp]
  simp only [Program.fieldsOf, Tryd.underlying47]
  go_simp
  simp only [ite_ok, ite_no, Bool.and_true, Bool.and_assoc]
theorem eqAc (a b : Ac) (W : World) : (binOp .eql 47 (.agg (acA a)) (.agg (acA b))).run Tryd.prog W = .ok (.bool (eqA a b)) W := by
  have key := eqAc_at W a b
  unfold acA at key ⊢
  rw [run_eql_struct, key]
  rfl
theorem neAc (a b : Ac) (W : World) : (binOp .neq 47 (.agg (acA a)) (.agg (acA b))).run Tryd.prog W = .ok (.bool (!eqA a b)) W := by
  have key := eqAc_at W a b
  unfold acA at key ⊢
  simp only [binOp, Op.equal, Op.maxDepth, Sem.run_bind, key, Result.andThen_ok, Sem.run_pure]
end
end Go.Proofs.YtjgclehghnmhnaaDoor
