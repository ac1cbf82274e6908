/- From what the rows list of the library's variables to what the walks ask. -/
import Derived.Test.YtkoekdbkjjjoaaaDoorRows
import Derived.Test.YtkoekdbkjjjoaaaDoorMem
import Derived.Lib.LaidTab
import Derived.MakeChecks
namespace Go.Proofs.YtkoekdbkjjjoaaaDoor
open Go.RowKit

theorem tab_datum : Rows.laid_math_bits_deBruijn64tab (H := Unit) = Lib.tabData .u8 (Lib.deBruijn64tab.map Int.ofNat) := by kernel_rfl
theorem tab_global : Tryd.prog.globalNamed "math/bits.deBruijn64tab" = some 0 := by kernel_rfl
theorem tab_type : Option.map (fun x => x.type) Tryd.prog.globals[0]? = some 64 := by kernel_rfl

theorem tab_of_laid {W : World} {rest : List (String × DataW Unit)} (h : laidMet Tryd.prog (("math/bits.deBruijn64tab", Rows.laid_math_bits_deBruijn64tab) :: rest) W) : Tab W := by
  have h2 := h
  rw [tab_datum] at h2
  have hT := Lib.tabIs_of_head tab_global tab_type Tryd.underlying64 Tryd.underlying5 (by kernel_rfl) (by kernel_rfl) h2
  have hc : TabAt 0 Lib.deBruijn64tab W := by
    intro j hj
    have := hT.cell tab_global j (by simpa using hj)
    rw [this]
    congr 2
    simp only [List.getD_eq_getElem?_getD, List.getElem?_map]
    cases Lib.deBruijn64tab[j]? <;> rfl
  refine ⟨?_, hc⟩
  have h0 := hc 0 (by decide)
  apply Nat.lt_of_not_le
  intro hle
  have : W.heap[0]? = none := Array.getElem?_eq_none hle
  simp [World.cell?, this] at h0

end Go.Proofs.YtkoekdbkjjjoaaaDoor
