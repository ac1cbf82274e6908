/- What semaphores of the program's must be and tell. -/
import Derived.Test.YtdmnobkbgmomdaaSeM
import Derived.Test.YtdmnobkbgmomdaaTailB
namespace Go.Proofs.Ytdmnobkbgmomdaa.Se
open Go Go.RowKit Go.Proofs.Ytdmnobkbgmomdaa.Bs
open Go.Proofs.Ytdmnobkbgmomdaa.Lk (inN inN_of inN_out ints ints_iv ints_len iv)

/-- What Up tells: the first that waits, or -1; beside an error 0. -/
def upR (σ : St) (o : Int) : Int := if upE σ o = 0 then upV σ o else 0

/-- What semaphores of the program's must be and tell: B is where they are, Q are their blocks. -/
structure Side (PL : World → Nat → List Nat → Nat → Nat → St → Prop) : Prop where
  lt : ∀ {w : World} {B : Nat} {Q : List Nat} {n T : Nat} {σ : St}, PL w B Q n T σ → ∀ x ∈ Q, x < w.heap.size
  but : ∀ {w w' : World} {B : Nat} {Q S' : List Nat} {n T : Nat} {σ : St}, PL w B Q n T σ → But S' w w' → Disj Q S' → PL w' B Q n T σ
  nil : ∀ (a t : Int) (w : World), a < 1 ∨ 64 < a ∨ t < 1 ∨ 1024 < t → Calls Try.prog 6 #[.int .i64 a, .int .i64 t] w fun e w' => e = .returned (.pointer none) ∧ Below w.heap.size w w'
  made : ∀ (n T : Nat) (w : World), 1 ≤ n → n ≤ 64 → 1 ≤ T → T ≤ 1024 → Calls Try.prog 6 #[.int .i64 n, .int .i64 T] w fun e w' => ∃ B Q, e = .returned (.pointer (some ⟨B, 0, none⟩)) ∧ PL w' B Q n T (new n T) ∧ Step [] w Q w'
  down : ∀ {w : World} {B : Nat} {Q : List Nat} {n T : Nat} {σ : St}, PL w B Q n T σ → Ok n T σ → ∀ o t : Int, Calls Try.prog 9 #[.pointer (some ⟨B, 0, none⟩), .int .i64 o, .int .i64 t] w fun e w' => e = .returned (.tuple #[.bool (downB σ o t), .int .i64 (downE σ o t)]) ∧ ∃ Q', PL w' B Q' n T (downS σ o t) ∧ Step Q w Q' w'
  up : ∀ {w : World} {B : Nat} {Q : List Nat} {n T : Nat} {σ : St}, PL w B Q n T σ → Ok n T σ → ∀ o : Int, Calls Try.prog 8 #[.pointer (some ⟨B, 0, none⟩), .int .i64 o] w fun e w' => e = .returned (.tuple #[.int .i64 (upR σ o), .int .i64 (upE σ o)]) ∧ ∃ Q', PL w' B Q' n T (upS σ o) ∧ Step Q w Q' w'
  drop : ∀ {w : World} {B : Nat} {Q : List Nat} {n T : Nat} {σ : St}, PL w B Q n T σ → Ok n T σ → ∀ t : Int, Calls Try.prog 12 #[.pointer (some ⟨B, 0, none⟩), .int .i64 t] w fun e w' => e = .returned (.bool (dropB σ t)) ∧ ∃ Q', PL w' B Q' n T (dropS σ t) ∧ Step Q w Q' w'
  value : ∀ {w : World} {B : Nat} {Q : List Nat} {n T : Nat} {σ : St}, PL w B Q n T σ → Ok n T σ → ∀ o : Int, Calls Try.prog 10 #[.pointer (some ⟨B, 0, none⟩), .int .i64 o] w fun e w' => e = .returned (.int .i64 (valX σ o)) ∧ Below w.heap.size w w'
  waiters : ∀ {w : World} {B : Nat} {Q : List Nat} {n T : Nat} {σ : St}, PL w B Q n T σ → Ok n T σ → ∀ o : Int, Calls Try.prog 11 #[.pointer (some ⟨B, 0, none⟩), .int .i64 o] w fun e w' => ∃ v, e = .returned v ∧ RowI w' w.heap.size v (ints (wX σ o)) ∧ Below w.heap.size w w'
  where_ : ∀ {w : World} {B : Nat} {Q : List Nat} {n T : Nat} {σ : St}, PL w B Q n T σ → Ok n T σ → ∀ t : Int, Calls Try.prog 13 #[.pointer (some ⟨B, 0, none⟩), .int .i64 t] w fun e w' => e = .returned (.int .i64 (wt σ t)) ∧ Below w.heap.size w w'

theorem Side.keep {PL : World → Nat → List Nat → Nat → Nat → St → Prop} {w w' : World} {B n T : Nat} {Q : List Nat} {σ : St} (S : Side PL) (h : PL w B Q n T σ) (hb : But [] w w') : PL w' B Q n T σ := S.but h hb (by simp [Disj])
/-- The act that lies in box A: kind, semaphore, thread. -/
abbrev At3 (w : World) (A : Nat) (k o t : Int) : Prop := w.cell? ⟨A, 0, none⟩ = some (.int .i64 k) ∧ w.cell? ⟨A, 1, none⟩ = some (.int .i64 o) ∧ w.cell? ⟨A, 2, none⟩ = some (.int .i64 t)
theorem At3.new (w : World) (k o t : Int) : At3 (w.alloc (.cells #[.int .i64 k, .int .i64 o, .int .i64 t] 27)) w.heap.size k o t := by
  refine ⟨?_, ?_, ?_⟩ <;> simp [go_sem]
theorem At3.but {w w' : World} {S' : List Nat} {A : Nat} {k o t : Int} (h : At3 w A k o t) (hb : But S' w w') (hA : A ∉ S') : At3 w' A k o t := ⟨hb.cell' h.1 hA, hb.cell' h.2.1 hA, hb.cell' h.2.2 hA⟩
/-- What an act makes of semaphores. -/
def actS (σ : St) (k o t : Int) : St := if k = 0 then downS σ o t else if k = 1 then upS σ o else if k = 2 then dropS σ t else σ
theorem Ok.act {n T : Nat} {σ : St} (h : Ok n T σ) (k o t : Int) : Ok n T (actS σ k o t) := by
  unfold actS
  repeat' split
  · exact h.down o t
  · exact h.up o
  · exact h.drop t
  · exact h
end Go.Proofs.Ytdmnobkbgmomdaa.Se
