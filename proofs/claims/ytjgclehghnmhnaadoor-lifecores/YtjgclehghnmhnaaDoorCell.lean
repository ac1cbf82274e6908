/- Blocks of cells; results that lie in a cell. -/
import Derived.Test.YtjgclehghnmhnaaDoorIns
import Derived.RangeFuncNested
import Derived.RangeFuncBox
namespace Go.Proofs.YtjgclehghnmhnaaDoor
open Go Go.RowKit

/-- Cells that lie in a block. -/
def Cel (A : World) (k : Nat) (cur : Array Value) (t : TypeId) : Prop := A.heap[k]? = some (.cells cur t (0, 0))
theorem Cel.cell {A : World} {k j : Nat} {cur : Array Value} {t : TypeId} {v : Value} (h : Cel A k cur t) (hv : cur[j]? = some v) : A.cell? ⟨k, j, none⟩ = some v := by
  simp [World.cell?, show A.heap[k]? = _ from h, hv]
theorem Cel.fz {A : World} {k : Nat} {cur : Array Value} {t : TypeId} (h : Cel A k cur t) (j : Nat) : A.frozen? ⟨k, j, none⟩ = false := by
  simp [World.frozen?, show A.heap[k]? = _ from h]
theorem Cel.lt {A : World} {k : Nat} {cur : Array Value} {t : TypeId} (h : Cel A k cur t) : k < A.heap.size := (Array.getElem?_eq_some_iff.1 h).1
theorem Cel.put {A B : World} {k : Nat} {cur : Array Value} {t : TypeId} (h : Cel A k cur t) (e : B.heap[k]? = A.heap[k]?) : Cel B k cur t := e.trans h
theorem Cel.but {S : List Nat} {A B : World} {k : Nat} {cur : Array Value} {t : TypeId} (h : Cel A k cur t) (hb : But S A B) (hS : k ∉ S) : Cel B k cur t := h.put (hb.block k h.lt hS)
theorem Cel.below {A B : World} {k : Nat} {cur : Array Value} {t : TypeId} (h : Cel A k cur t) (hb : Below A.heap.size A B) : Cel B k cur t := h.put (hb.block k h.lt)
theorem Cel.new (A : World) (cur : Array Value) (t : TypeId) : Cel (A.alloc (.cells cur t)) A.heap.size cur t := World.alloc_heap_new A _
theorem Cel.set {A : World} {k j : Nat} {cur : Array Value} {t : TypeId} (h : Cel A k cur t) (v : Value) : Cel (A.setCell ⟨k, j, none⟩ v) k (cur.setIfInBounds j v) t := heap_setCell_same A k j _ t v h
theorem Cel.other {A : World} {k k' j : Nat} {cur : Array Value} {t : TypeId} (h : Cel A k cur t) (hne : k ≠ k') (v : Value) : Cel (A.setCell ⟨k', j, none⟩ v) k cur t := h.put (Below.heap_setCell A ⟨k', j, none⟩ v k hne)
theorem Cel.own {A B : World} {row : Option Nat} {k : Nat} {cur : Array Value} {t : TypeId} (h : Cel A k cur t) (hg : A.grownBy B row) (hr : ∀ r, row = some r → ∃ o : Obj, A.heap[r]? = some o ∧ o.isCells = false) : Cel B k cur t := by
  refine h.put (hg.block k h.lt (fun e => ?_))
  obtain ⟨o, ho, hc⟩ := hr k e.symm
  rw [show A.heap[k]? = _ from h] at ho
  cases ho
  cases hc
theorem below_own {n : Nat} {w A B : World} {row : Option Nat} (h : Below n w A) (hg : A.grownBy B row) (hr : ∀ r, row = some r → n ≤ r) (hn : n ≤ A.heap.size) : Below n w B := h.grown hg hn (fun k e => hr k e)

theorem results_c1 {P : Program} {fn : Func} {p : Tmp} {ty : TypeId} (h : fn.results = #[.cell p ty]) (tmps : Array Value) (w : World) (g : Nat) (v : Value) (hp : tmps.getD p undef = .pointer (some ⟨g, 0, none⟩)) (hc : w.cell? ⟨g, 0, none⟩ = some v)
    (ha : (isAgg ty).run P w = .ok false w) : (results fn tmps).run P w = .ok v w := by
  have hp' : tmps[p]?.getD undef = .pointer (some ⟨g, 0, none⟩) := by simpa using hp
  simp [results, h, hp', asAddr, loadVar, ha, go_sem, hc]
end Go.Proofs.YtjgclehghnmhnaaDoor
