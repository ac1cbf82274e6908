/- The program's ends are such as the statements' walks want. -/
import Derived.Test.YtmbpmcgppnanpaaJlN
namespace Go.Proofs.Ytmbpmcgppnanpaa.Jl
open Go Go.RowKit Go.Proofs.Ytmbpmcgppnanpaa.Bs Go.Proofs.Ytmbpmcgppnanpaa.Jn
open Go.Proofs.Ytmbpmcgppnanpaa.Lk (LQ Pl)
theorem step_of {w w' : World} {Q : List Nat} (h : But Q w w') : Step Q w Q w' := ⟨h, fun _ hx => .inl hx⟩
theorem side : Side PL where
  lt := fun h => h.lt
  but := fun h hb hd => h.but hb hd
  nil := lnew_nil
  made := fun n w h1 h2 => (lnew_some n w h1 h2).mono fun e w' ⟨B, t, j, P, he, hp, hb, hl⟩ => ⟨B, bl B t j P, he, ⟨t, j, P, _, _, rfl, hp, Li.new⟩, .of_below hb, fun x hx => .inr (hl x hx)⟩
  start := fun h H id hi => by
    obtain ⟨t, j, P, ls, wt, rfl, h, l⟩ := h
    exact (start_any h H id hi).mono fun e w' ⟨h1, h2, h3⟩ => ⟨h1, _, ⟨t, j, P, ls, wt, rfl, h2, l.start H id⟩, step_of h3⟩
  end_ := fun h H id va hi => by
    obtain ⟨t, j, P, ls, wt, rfl, h, l⟩ := h
    have hlt := h.lt
    exact (end_any h l H id va hi).mono fun e w' ⟨v, h1, h2, l2, h3, h4, h5⟩ => ⟨v, h1, h2, _, ⟨t, j, P, l2, wt, rfl, h3, h4⟩, step_of h5, fun g hg hm => by have := (rlow h2 g hg).1; have := hlt g hm; omega⟩
  join := fun h H id y hi hy => by
    obtain ⟨t, j, P, ls, wt, rfl, h, l⟩ := h
    exact (join_any h l H id y hi hy).mono fun e w' ⟨h1, l2, wt2, h2, h3, h4⟩ => ⟨h1, _, ⟨t, j, P, l2, wt2, rfl, h2, h3⟩, step_of h4⟩
  drop := fun h H y hy => by
    obtain ⟨t, j, P, ls, wt, rfl, h, l⟩ := h
    exact (drop_any h l H y hy).mono fun e w' ⟨h1, l2, h2, h3, h4⟩ => ⟨h1, _, ⟨t, j, P, l2, wt, rfl, h2, h3⟩, step_of h4⟩
  state := fun h H id hi => by
    obtain ⟨t, j, P, ls, wt, rfl, h, l⟩ := h
    exact state_any h H id hi
  where_ := fun h H y hy => by
    obtain ⟨t, j, P, ls, wt, rfl, h, l⟩ := h
    exact where_any2 h l H y hy
  waiters := fun h H id hi => by
    obtain ⟨t, j, P, ls, wt, rfl, h, l⟩ := h
    exact waiters_any h l H id hi
end Go.Proofs.Ytmbpmcgppnanpaa.Jl
