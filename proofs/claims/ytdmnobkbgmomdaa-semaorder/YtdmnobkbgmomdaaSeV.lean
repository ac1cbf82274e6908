/- The document's examples, over any semaphores that tell as they must. -/
import Derived.Test.YtdmnobkbgmomdaaSeX
import Derived.BigQuiet
namespace Go.Proofs.Ytdmnobkbgmomdaa.Se
open Go Go.RowKit Go.Proofs.Ytdmnobkbgmomdaa.Bs
open Go.Proofs.Ytdmnobkbgmomdaa.Lk (inN inN_of inN_out ints ints_iv ints_len iv)

def v1 : St := ⟨[1], [[]], 3⟩
def v2 : St := ⟨[0], [[]], 3⟩
def v3 : St := ⟨[0], [[2]], 3⟩
theorem e1 : upS (new 1 3) 0 = v1 := by kernel_rfl
theorem e2 : downS v1 0 1 = v2 := by kernel_rfl
theorem e3 : downS v2 0 2 = v3 := by kernel_rfl
section
variable {PL : World → Nat → List Nat → Nat → Nat → St → Prop}
set_option maxRecDepth 100000 in
set_option maxHeartbeats 4000000 in
theorem lives_any (S : Side PL) (w : World) : Calls Try.prog 7 #[] w fun e w' => e = .returned (.bool true) ∧ Below w.heap.size w w' := by
  have k0 : Ok 1 3 (new 1 3) := Ok.new (by omega) (by omega) (by omega) (by omega)
  have k1 : Ok 1 3 v1 := by have := k0.up 0; rwa [e1] at this
  have k2 : Ok 1 3 v2 := by have := k1.down 0 1; rwa [e2] at this
  have k3 : Ok 1 3 v3 := by have := k2.down 0 2; rwa [e3] at this
  have C0 : Calls Try.prog 6 #[.int .i64 1, .int .i64 3] w fun e w' => ∃ B Q, e = .returned (.pointer (some ⟨B, 0, none⟩)) ∧ PL w' B Q 1 3 (new 1 3) ∧ Step [] w Q w' := S.made 1 3 w (by omega) (by omega) (by omega) (by omega)
  have C1 : ∀ {X B Q}, PL X B Q 1 3 (new 1 3) → Calls Try.prog 8 #[.pointer (some ⟨B, 0, none⟩), .int .i64 0] X fun e w' => e = .returned (.tuple #[.int .i64 (-1), .int .i64 0]) ∧ ∃ Q', PL w' B Q' 1 3 v1 ∧ Step Q X Q' w' := fun h => by
    have := S.up h k0 0
    rw [e1, show upR (new 1 3) 0 = -1 by kernel_rfl, show upE (new 1 3) 0 = 0 by kernel_rfl] at this
    exact this
  have C2 : ∀ {X B Q}, PL X B Q 1 3 v1 → Calls Try.prog 9 #[.pointer (some ⟨B, 0, none⟩), .int .i64 0, .int .i64 1] X fun e w' => e = .returned (.tuple #[.bool true, .int .i64 0]) ∧ ∃ Q', PL w' B Q' 1 3 v2 ∧ Step Q X Q' w' := fun h => by
    have := S.down h k1 0 1
    rw [e2, show downB v1 0 1 = true by kernel_rfl, show downE v1 0 1 = 0 by kernel_rfl] at this
    exact this
  have C3 : ∀ {X B Q}, PL X B Q 1 3 v2 → Calls Try.prog 9 #[.pointer (some ⟨B, 0, none⟩), .int .i64 0, .int .i64 2] X fun e w' => e = .returned (.tuple #[.bool false, .int .i64 0]) ∧ ∃ Q', PL w' B Q' 1 3 v3 ∧ Step Q X Q' w' := fun h => by
    have := S.down h k2 0 2
    rw [e3, show downB v2 0 2 = false by kernel_rfl, show downE v2 0 2 = 0 by kernel_rfl] at this
    exact this
  have C4 : ∀ {X B Q}, PL X B Q 1 3 v3 → Calls Try.prog 8 #[.pointer (some ⟨B, 0, none⟩), .int .i64 0] X fun e w' => e = .returned (.tuple #[.int .i64 2, .int .i64 0]) ∧ ∃ Q', PL w' B Q' 1 3 (upS v3 0) ∧ Step Q X Q' w' := fun h => by
    have := S.up h k3 0
    rw [show upR v3 0 = 2 by kernel_rfl, show upE v3 0 = 0 by kernel_rfl] at this
    exact this
  clear k0 k1 k2 k3
  go_enter Try.func7, Try.ntmps7
  go_wp2_with (first
    | (go_at_call 6; (with_reducible refine C0.mono ?_); rintro e w0 ⟨B, Q0, rfl, h0, s0⟩)
    | (go_at_call 8; first
        | (with_reducible refine (C1 h0).mono ?_); rintro e w1 ⟨rfl, Q1, h1, s1⟩
        | (with_reducible refine (C4 h3).mono ?_); rintro e w4 ⟨rfl, Q4, h4, s4⟩)
    | (go_at_call 9; first
        | (with_reducible refine (C2 h1).mono ?_); rintro e w2 ⟨rfl, Q2, h2, s2⟩
        | (with_reducible refine (C3 h2).mono ?_); rintro e w3 ⟨rfl, Q3, h3, s3⟩))
  go_ret
  exact ⟨rfl, ((((s0.trans s1).trans s2).trans s3).trans s4).below⟩
end
end Go.Proofs.Ytdmnobkbgmomdaa.Se
