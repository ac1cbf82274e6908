/- Acts of a slice, as they lie in memory. -/
import Derived.Test.YtdmnobkbgmomdaaSeX
namespace Go.Proofs.Ytdmnobkbgmomdaa.Se
open Go Go.RowKit Go.Proofs.Ytdmnobkbgmomdaa.Bs

/-- Acts of a slice: kind, semaphore, thread. -/
def Acts (w : World) (a : Option Addr) (xs : List (Int × Int × Int)) : Prop := ∀ j x, xs[j]? = some x → ∃ b o, a = some ⟨b, o, none⟩ ∧ w.cell? ⟨b, o + j * 3, none⟩ = some (.int .i64 x.1) ∧ w.cell? ⟨b, o + j * 3 + 1, none⟩ = some (.int .i64 x.2.1) ∧ w.cell? ⟨b, o + j * 3 + 2, none⟩ = some (.int .i64 x.2.2)
theorem Acts.below {w w' : World} {a : Option Addr} {xs : List (Int × Int × Int)} (h : Acts w a xs) (hb : Below w.heap.size w w') : Acts w' a xs := fun j x hx => by
  obtain ⟨b, o, e, h0, h1, h2⟩ := h j x hx
  exact ⟨b, o, e, cell_on hb h0, cell_on hb h1, cell_on hb h2⟩
end Go.Proofs.Ytdmnobkbgmomdaa.Se
