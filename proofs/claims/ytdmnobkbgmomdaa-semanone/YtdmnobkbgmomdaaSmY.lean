/- The program's semaphores are such as the statements' walks want. -/
import Derived.Test.YtdmnobkbgmomdaaSmN
namespace Go.Proofs.Ytdmnobkbgmomdaa.Sm
open Go Go.RowKit Go.Proofs.Ytdmnobkbgmomdaa.Bs Go.Proofs.Ytdmnobkbgmomdaa.Se
open Go.Proofs.Ytdmnobkbgmomdaa.Lk (LQ Pl iv ints)
variable {w w' : World}

theorem PL.lt {B n T : Nat} {Q : List Nat} {σ : St} (h : PL w B Q n T σ) : ∀ x ∈ Q, x < w.heap.size := by
  obtain ⟨P, rfl, h⟩ := h
  exact h.lt
theorem PL.but {B n T : Nat} {Q S' : List Nat} {σ : St} (h : PL w B Q n T σ) (hb : But S' w w') (hd : Disj Q S') : PL w' B Q n T σ := by
  obtain ⟨P, rfl, h⟩ := h
  exact ⟨P, rfl, h.but hb hd⟩
theorem step_of {Q : List Nat} (h : But Q w w') : Step Q w Q w' := ⟨h, fun _ hx => .inl hx⟩
theorem side : Side PL where
  lt := fun h => h.lt
  but := fun h hb hd => h.but hb hd
  nil := lnew_nil
  made := fun n T w h1 h2 h3 h4 => (lnew_some n T w h1 h2 h3 h4).mono fun e w' ⟨B, P, he, hp, hb, hl⟩ => ⟨B, bl B P, he, ⟨P, rfl, hp⟩, .of_below hb, fun x hx => .inr (hl x hx)⟩
  down := fun h H i t => by
    obtain ⟨P, rfl, h⟩ := h
    exact (down_any h H i t).mono fun e w' ⟨h1, h2, h3⟩ => ⟨h1, _, ⟨P, rfl, h2⟩, step_of h3⟩
  up := fun h H i => by
    obtain ⟨P, rfl, h⟩ := h
    exact (up_any h H i).mono fun e w' ⟨h1, h2, h3⟩ => ⟨h1, _, ⟨P, rfl, h2⟩, step_of h3⟩
  drop := fun h H t => by
    obtain ⟨P, rfl, h⟩ := h
    exact (drop_any h H t).mono fun e w' ⟨h1, h2, h3⟩ => ⟨h1, _, ⟨P, rfl, h2⟩, step_of h3⟩
  value := fun h H i => by
    obtain ⟨P, rfl, h⟩ := h
    exact (value_any h H i).mono fun e w' ⟨h1, h2⟩ => ⟨h1, by rw [h2]; exact Below.refl _ _⟩
  waiters := fun h H i => by
    obtain ⟨P, rfl, h⟩ := h
    exact waiters_any h H i
  where_ := fun h H t => by
    obtain ⟨P, rfl, h⟩ := h
    exact (where_l h t).mono fun e w' ⟨h1, h2⟩ => ⟨h1, by rw [h2]; exact Below.refl _ _⟩
end Go.Proofs.Ytdmnobkbgmomdaa.Sm
