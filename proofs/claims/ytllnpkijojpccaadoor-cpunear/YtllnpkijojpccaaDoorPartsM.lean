/- Runs in parts, plain. -/
import Derived.Test.YtllnpkijojpccaaDoorCLives
namespace Go.Proofs.YtllnpkijojpccaaDoor
open Go Go.RowKit

theorem run_split (ps : List Ins) (b : Nat) : ∀ (a : Nat) (c : Cx),
    ((runC (codeL ps) a c).2.1 = z4 ∧ (runC (codeL ps) a c).2.2 = a ∧ runC (codeL ps) (a + b) c = shiftR a (runC (codeL ps) b (runC (codeL ps) a c).1)) ∨
    ((runC (codeL ps) a c).2.1.1 ≠ 0 ∧ runC (codeL ps) (a + b) c = runC (codeL ps) a c)
  | 0, c => .inl ⟨rfl, rfl, by simp [shiftR, runC]⟩
  | a + 1, c => by
    by_cases h : (stepC (codeL ps) c).2.1 = 0
    · have e1 : runC (codeL ps) (a + 1) c = shiftR 1 (runC (codeL ps) a (stepC (codeL ps) c).1) := by rw [runC, if_pos h]; rfl
      have e2 : runC (codeL ps) (a + 1 + b) c = shiftR 1 (runC (codeL ps) (a + b) (stepC (codeL ps) c).1) := by rw [show a + 1 + b = (a + b) + 1 by omega, runC, if_pos h]; rfl
      rw [e1, e2]
      rcases run_split ps b a (stepC (codeL ps) c).1 with ⟨h1, h2, h3⟩ | ⟨h1, h2⟩
      · refine .inl ⟨h1, ?_, ?_⟩
        · show _ + 1 = _; rw [h2]
        · rw [h3]; unfold shiftR; simp only [Nat.add_assoc]
      · exact .inr ⟨h1, by rw [h2]⟩
    · right
      have e1 : runC (codeL ps) (a + 1) c = ((stepC (codeL ps) c).1, (stepC (codeL ps) c).2, 1) := by rw [runC, if_neg h]
      have e2 : runC (codeL ps) (a + 1 + b) c = ((stepC (codeL ps) c).1, (stepC (codeL ps) c).2, 1) := by rw [show a + 1 + b = (a + b) + 1 by omega, runC, if_neg h]
      rw [e1, e2]
      exact ⟨h, rfl⟩
theorem run_le (ps : List Ins) : ∀ (a : Nat) (c : Cx), (runC ps a c).2.2 ≤ a
  | 0, c => Nat.le_refl _
  | a + 1, c => by
    rw [runC]
    split
    · exact Nat.succ_le_succ (run_le ps a _)
    · exact Nat.succ_le_succ (Nat.zero_le _)
theorem neqK {k0 : Int} (h : k0 ≠ 0) (k1 k2 k3 : Int) (W : World) : (binOp .neq 30 (.agg #[.int .i64 k0, .int .i64 k1, .int .i64 k2, .int .i64 k3]) (.agg #[.int .i64 0, .int .i64 0, .int .i64 0, .int .i64 0])).run Tryd.prog W = .ok (.bool true) W := by
  go_simp
end Go.Proofs.YtllnpkijojpccaaDoor
