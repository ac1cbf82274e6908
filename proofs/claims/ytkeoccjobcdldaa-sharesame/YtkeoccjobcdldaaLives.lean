/- The document's examples come out. -/
import Derived.Test.YtkeoccjobcdldaaEq
namespace Go.Proofs.Ytkeoccjobcdldaa
open Go.RowKit

theorem cl_two (w : World) (p q r s : Int) : CL (w.alloc (.cells #[.int .i64 p, .int .i64 q, .int .i64 r, .int .i64 s] 30)) (some ⟨w.heap.size, 0, none⟩) [(p, q), (r, s)] := fun j hj => by
  refine ⟨_, _, rfl, ?_⟩
  match j, hj with
  | 0, _ => simp [go_sem, wt, dm]
  | 1, _ => simp [go_sem, wt, dm]
theorem ix_two (w : World) (p q : Int) : IX (w.alloc (.cells #[.int .i64 p, .int .i64 q] 3)) (some ⟨w.heap.size, 0, none⟩) [p, q] := fun j hj => by
  refine ⟨_, _, rfl, ?_⟩
  match j, hj with
  | 0, _ => simp [go_sem, ix]
  | 1, _ => simp [go_sem, ix]
theorem okl_two {p q r s : Int} (h : I64 p ∧ I64 q ∧ I64 r ∧ I64 s) : OkL [(p, q), (r, s)] := fun i hi => by
  match i, hi with
  | 0, _ => exact ⟨h.1, h.2.1⟩
  | 1, _ => exact ⟨h.2.2.1, h.2.2.2⟩
theorem ex1 : divA 4 [(1, 4), (3, 4)] 0 = [1, 3] := by decide
theorem ex2 : divA 4 [(1, 4), (3, 2)] 0 = [2, 2] := by decide

theorem lives_div (x y p q : Int) (h : I64 x ∧ I64 y) (e : divA 4 [(1, x), (3, y)] 0 = [p, q]) (w : World) :
    Calls Try.prog 10 #[.int .i64 4, .slice (some ⟨w.heap.size, 0, none⟩) 2 2, .int .i64 0] (w.alloc (.cells #[.int .i64 1, .int .i64 x, .int .i64 3, .int .i64 y] 30)) fun e w' => ∃ a c, e = .returned (.slice a 2 c) ∧ IX w' a [p, q] ∧ Below w.heap.size w w' := by
  have D := divide_any (lc := 2) (cl_two w 1 x 3 y) (okl_two ⟨⟨by omega, by omega⟩, h.1, ⟨by omega, by omega⟩, h.2⟩) (by simp) 4 0 ⟨by omega, by omega⟩
  rw [e] at D
  exact D.mono (fun e w' ⟨a, c, h1, h2, _, h3⟩ => ⟨a, c, h1, h2, ((Below.refl _ _).alloc (Nat.le_refl _) _).trans (h3.mono (by simp))⟩)
theorem lives_eq (p q : Int) (a : Option Addr) (c : Nat) (w : World) (h : IX w a [p, q]) :
    Calls Try.prog 9 #[.slice a 2 c, .slice (some ⟨w.heap.size, 0, none⟩) 2 2] (w.alloc (.cells #[.int .i64 p, .int .i64 q] 3)) fun e w' => e = .returned (.bool true) ∧ Below w.heap.size w w' := by
  have D := ints_any (xc := c) (yc := 2) (h.alloc (.cells #[.int .i64 p, .int .i64 q] 3)) (ix_two w p q) (by simp)
  rw [show decide ([p, q] = [p, q]) = true from decide_eq_true rfl] at D
  exact D.mono (fun e w' ⟨h1, h3⟩ => ⟨h1, ((Below.refl _ _).alloc (Nat.le_refl _) _).trans (h3.mono (by simp))⟩)

set_option maxHeartbeats 1000000 in
theorem lives_any (w : World) : Calls Try.prog 8 #[] w fun e w' => e = .returned (.bool true) ∧ Below w.heap.size w w' := by
  have h44 : I64 4 ∧ I64 4 := ⟨⟨by omega, by omega⟩, ⟨by omega, by omega⟩⟩
  have h42 : I64 4 ∧ I64 2 := ⟨⟨by omega, by omega⟩, ⟨by omega, by omega⟩⟩
  go_enter Try.func8, Try.ntmps8
  go_wp2_with (first
    | (go_at_call 10; (with_reducible refine (lives_div 4 4 1 3 h44 ex1 _).mono ?_); rintro e w1 ⟨a1, c1, rfl, i1, b1⟩)
    | (go_at_call 9; (with_reducible refine (lives_eq 1 3 _ _ _ i1).mono ?_); rintro e w2 ⟨rfl, b2⟩)
    | (go_at_call 10; (with_reducible refine (lives_div 4 2 2 2 h42 ex2 _).mono ?_); rintro e w3 ⟨a3, c3, rfl, i3, b3⟩)
    | (go_at_call 9; (with_reducible refine (lives_eq 2 2 _ _ _ i3).mono ?_); rintro e w4 ⟨rfl, b4⟩))
  go_ret
  exact ⟨rfl, below2 (below2 (below2 b1 b1.size b2) (Nat.le_trans b1.size b2.size) b3) (Nat.le_trans (Nat.le_trans b1.size b2.size) b3.size) b4⟩
end Go.Proofs.Ytkeoccjobcdldaa
