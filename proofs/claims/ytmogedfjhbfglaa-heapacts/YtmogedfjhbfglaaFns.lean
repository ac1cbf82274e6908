/- Contracts of made, over, before, ahead, has, Len, ask. -/
import Derived.Test.YtmogedfjhbfglaaMem
import Derived.Deep.RegionHeld3
namespace Go.Proofs.Ytmogedfjhbfglaa
open Go.RowKit

theorem over_any (i : Nat) (h0 : 0 < i) (hi : i ≤ 4096) (w : World) :
    Calls Try.prog 33 #[.int .i64 i] w fun e w' => e = .returned (.int .i64 (par i : Nat)) ∧ w' = w := by
  have e1 : ((i : Int) - 1).tdiv 2 = (par i : Nat) := by
    unfold par
    obtain ⟨j, rfl⟩ : ∃ j, i = j + 1 := ⟨i - 1, by omega⟩
    rw [show ((j + 1 : Nat) : Int) - 1 = (j : Int) by omega, Int.tdiv_eq_ediv_of_nonneg (by omega)]
    omega
  have hp : par i ≤ 4096 := by have := par_lt h0; omega
  have e2 : wrap64 (par i : Nat) = (par i : Nat) := by
    rw [wrap64]
    omega
  generalize par i = y at *
  go_enter Try.func33, Try.ntmps33
  go_wp2_with fail
  go_ret
  exact ⟨rfl, rfl⟩

theorem before_any (a b : Th) (w : World) :
    Calls Try.prog 45 #[.agg #[.int .i64 (a.1 : Int), .int .i64 a.2], .agg #[.int .i64 (b.1 : Int), .int .i64 b.2]] w fun e w' => e = .returned (.bool (befB a b)) ∧ Below w.heap.size w w' := by
  obtain ⟨i, x⟩ := a
  obtain ⟨j, y⟩ := b
  dsimp only
  have hB : Below w.heap.size w ((w.alloc (.cells #[.int .i64 (i : Int), .int .i64 x] 60)).alloc (.cells #[.int .i64 (j : Int), .int .i64 y] 60)) := ((Below.refl _ w).alloc (Nat.le_refl _) _).alloc (by simp) _
  rcases Int.lt_trichotomy x y with h | rfl | h
  · have e : befB (i, x) (j, y) = true := befB_iff.2 (.inl h)
    rw [e]
    go_enter Try.func45, Try.ntmps45
    go_wp2_with fail
    go_ret
    exact ⟨rfl, hB⟩
  · have e : befB (i, x) (j, x) = decide (i < j) := by simp [befB]
    rw [e]
    go_enter Try.func45, Try.ntmps45
    go_wp2_with fail
    go_ret
    exact ⟨rfl, hB⟩
  · have e : befB (i, x) (j, y) = false := befB_le (a := (j, y)) (b := (i, x)) (befB_iff.2 (.inl h))
    have h1 : ¬ x < y := by omega
    have h2 : (x == y) = false := by simp; omega
    rw [e]
    go_enter Try.func45, Try.ntmps45
    go_wp2_with fail
    go_ret
    exact ⟨rfl, hB⟩

section
variable {w : World} {B G k N : Nat} {v : Value} {xs : List Th} {pl : List Int}

theorem made_any (h : HM w B G k N v xs pl) :
    Calls Try.prog 31 #[.pointer (some ⟨B, 0, none⟩)] w fun e w' => e = .returned (.bool true) ∧ w' = w := by
  have c1 := h.c1
  have hp : 0 < N := h.n1
  go_enter Try.func31, Try.ntmps31
  go_wp2_with fail
  go_ret
  exact ⟨rfl, rfl⟩

theorem len_any (h : HM w B G k N v xs pl) :
    Calls Try.prog 13 #[.pointer (some ⟨B, 0, none⟩)] w fun e w' => e = .returned (.int .i64 (xs.length : Nat)) ∧ w' = w := by
  obtain ⟨a, c, rfl, _⟩ := h.sl
  have c0 := h.c0
  have hM := made_any h
  go_enter Try.func13, Try.ntmps13
  go_wp2_with (first
    | (go_at_call 31; refine hM.mono ?_; rintro e w' ⟨rfl, hw⟩; subst w'))
  go_ret
  exact ⟨rfl, rfl⟩
end

end Go.Proofs.Ytmogedfjhbfglaa
