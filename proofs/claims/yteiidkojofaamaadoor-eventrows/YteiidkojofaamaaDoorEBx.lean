/- A box that holds bytes of the call's own. -/
import Derived.Test.YteiidkojofaamaaDoorEMem
import Derived.Test.YteiidkojofaamaaDoorCPut
namespace Go.Proofs.YteiidkojofaamaaDoor
open Go Go.RowKit

/-- A box that holds bytes of the call's own. -/
structure Bx (W : World) (lo b : Nat) (l : List UInt8) : Prop where
  at_ : ∃ v, Cel W b #[v] 29 ∧ Own W lo v l
  lo : lo ≤ b
theorem own_fz {w w' : World} {lo : Nat} {v : Value} {l : List UInt8} (h : Own w lo v l) (hk : ∀ k, v.ownBlock = some k → w'.heap[k]? = w.heap[k]?) : Own w' lo v l := ownsRow_put h hk
/-- The row of a box is another block. -/
theorem row_ne {w : World} {lo b : Nat} {v u : Value} {l : List UInt8} (h : Own w lo v l) (hb : Cel w b #[u] 29) : v.ownBlock ≠ some b := by
  rcases h.2 with ⟨rfl, _⟩ | ⟨g, cap, cur, rfl, _, hg, _⟩
  · simp [Value.ownBlock]
  · intro e
    simp only [Value.ownBlock, Option.some.injEq] at e
    subst e
    rw [show w.heap[g]? = _ from hb] at hg
    cases hg
theorem Bx.below {W W' : World} {lo b : Nat} {l : List UInt8} (h : Bx W lo b l) (hb : Below W.heap.size W W') : Bx W' lo b l := by
  obtain ⟨v, h1, h2⟩ := h.at_
  exact ⟨⟨v, h1.below hb, h2.below hb⟩, h.lo⟩
/-- A store of new bytes into the box. -/
theorem Bx.put {W W1 : World} {lo b : Nat} {l l' : List UInt8} {v' : Value} (h : Bx W lo b l) (hb : Below W.heap.size W W1) (ho : Own W1 lo v' l') : Bx (W1.setCell ⟨b, 0, none⟩ v') lo b l' ∧ W1.frozen? ⟨b, 0, none⟩ = false := by
  obtain ⟨v, h1, _⟩ := h.at_
  have h3 := h1.below hb
  refine ⟨⟨⟨v', h3.set v', ownsRow_put ho (fun k ek => Below.heap_setCell _ _ _ _ (fun e => row_ne ho h3 (by rw [ek, e])))⟩, h.lo⟩, h3.fz 0⟩
theorem Bx.lt {W : World} {lo b : Nat} {l : List UInt8} (h : Bx W lo b l) : b < W.heap.size := by
  obtain ⟨v, h1, _⟩ := h.at_
  exact h1.lt
theorem but_box {b : Nat} {W W1 : World} (hb : Below W.heap.size W W1) (v : Value) : But [b] W (W1.setCell ⟨b, 0, none⟩ v) := (But.of_below hb).set (by simp) v
theorem own_sl {w : World} {lo n : Nat} {v : Value} {l : List UInt8} (h : Own w lo v l) (hn : l.length = n) : ∃ a c, v = .slice a n c ∧ Byts w w.heap.size a c l := by
  subst hn
  exact h.byts

end Go.Proofs.YteiidkojofaamaaDoor
