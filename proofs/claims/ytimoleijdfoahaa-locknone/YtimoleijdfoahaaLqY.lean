/- The program's locks are such as the statements' walks want. -/
import Derived.Test.YtimoleijdfoahaaLqN
import Derived.Test.YtimoleijdfoahaaLqO
import Derived.Test.YtimoleijdfoahaaLqD
namespace Go.Proofs.Ytimoleijdfoahaa.Lq
open Go Go.RowKit Go.Proofs.Ytimoleijdfoahaa.Bs Go.Proofs.Ytimoleijdfoahaa.Lo
open Go.Proofs.Ytimoleijdfoahaa.Lk (LQ Pl iv ints)
variable {w w' : World} {B n T : Nat} {Q : List Nat} {σ : St}

theorem step_of {Q : List Nat} (h : But Q w w') : Step Q w Q w' := ⟨h, fun _ hx => .inl hx⟩
theorem told_out {v : Value} {L : List Int} (hlt : ∀ x ∈ Q, x < w.heap.size) (hr : RowI w' w.heap.size v L) : ∀ k, v.ownBlock = some k → k ∉ Q := fun k e hk => by
  have := (hr.low k e).1
  have := hlt k hk
  omega
theorem side : Side PL where
  lt := fun h => h.lt
  but := fun h hb hd => h.but hb hd
  nil := lnew_nil
  made := fun n T w h1 h2 h3 h4 => (lnew_some n T w h1 h2 h3 h4).mono fun e w' ⟨B, o, a, P, he, hp, hb, hl⟩ => ⟨B, bl B o a P, he, ⟨o, a, P, rfl, hp⟩, .of_below hb, fun x hx => .inr (hl x hx)⟩
  lock := fun h H i t => by
    obtain ⟨o, a, P, rfl, h⟩ := h
    exact (lock_any h H i t).mono fun e w' ⟨h1, h2, h3⟩ => ⟨h1, _, ⟨o, a, P, rfl, h2⟩, step_of h3⟩
  unlock := fun h H i t => by
    obtain ⟨o, a, P, rfl, h⟩ := h
    exact (unlock_any h H i t).mono fun e w' ⟨h1, h2, h3⟩ => ⟨h1, _, ⟨o, a, P, rfl, h2⟩, step_of h3⟩
  wait := fun h H c i t => by
    obtain ⟨o, a, P, rfl, h⟩ := h
    exact (wait_any h H c i t).mono fun e w' ⟨h1, h2, h3⟩ => ⟨h1, _, ⟨o, a, P, rfl, h2⟩, step_of h3⟩
  signal := fun h H c => by
    obtain ⟨o, a, P, rfl, h⟩ := h
    exact (signal_any h H c).mono fun e w' ⟨h1, h2, h3⟩ => ⟨h1, _, ⟨o, a, P, rfl, h2⟩, step_of h3⟩
  cast := fun h H c => by
    obtain ⟨o, a, P, rfl, h⟩ := h
    exact (cast_any h H c).mono fun e w' ⟨v, h1, h2, h3, h4⟩ => ⟨v, h1, h2, _, ⟨o, a, P, rfl, h3⟩, step_of h4, told_out h.lt h2⟩
  drop := fun h H t => by
    obtain ⟨o, a, P, rfl, h⟩ := h
    exact (drop_any h H t).mono fun e w' ⟨v, h1, h2, h3, h4⟩ => ⟨v, h1, h2, _, ⟨o, a, P, rfl, h3⟩, step_of h4, told_out h.lt h2⟩
  owner := fun h H i => by
    obtain ⟨o, a, P, rfl, h⟩ := h
    exact (owner_any h H i).mono fun e w' ⟨h1, h2⟩ => ⟨h1, h2.to_below⟩
  waiters := fun h H i => by
    obtain ⟨o, a, P, rfl, h⟩ := h
    exact waiters_any h H i
  sleepers := fun h H i => by
    obtain ⟨o, a, P, rfl, h⟩ := h
    exact sleepersL_any h H i
  where_ := fun h H t => by
    obtain ⟨o, a, P, rfl, h⟩ := h
    exact (where_l h H t).mono fun e w' ⟨h1, h2⟩ => ⟨h1, h2.to_below⟩
end Go.Proofs.Ytimoleijdfoahaa.Lq
