/- From what the rows list of variables to what the walks ask. -/
import Derived.Test.YtjgclehghnmhnaaDoorLfT
import Derived.Test.YtjgclehghnmhnaaDoorRows
import Derived.Lib.LaidTab
import Derived.OpenShut
import Derived.MakeChecks
import Derived.Stop.LaidErr
namespace Go.Proofs.YtjgclehghnmhnaaDoor
open Go Go.RowKit

theorem deb_datum : Rows.laid_math_bits_deBruijn64tab (H := Unit) = Lib.tabData .u8 (Lib.deBruijn64tab.map Int.ofNat) := by kernel_rfl
theorem deb_global : Tryd.prog.globalNamed "math/bits.deBruijn64tab" = some 1 := by kernel_rfl
theorem deb_type : (Tryd.prog.globals[1]?).map (·.type) = some 125 := by kernel_rfl
theorem fol_datum : Rows.laid_wherry_life_follows (H := Unit) = Lib.tabData .u8 (folL.map Int.ofNat) := by kernel_rfl
theorem fol_global : Tryd.prog.globalNamed "wherry/life.follows" = some 0 := by kernel_rfl
theorem fol_type : (Tryd.prog.globals[0]?).map (·.type) = some 112 := by kernel_rfl
theorem lt_of_cell {W : World} {b j : Nat} {v : Value} (h : W.cell? ⟨b, j, none⟩ = some v) : b < W.heap.size := World.block_lt_of_cell? W ⟨b, j, none⟩ h
theorem deb_of {W : World} {rest : List (String × DataW Unit)} (h : laidMet Tryd.prog (("math/bits.deBruijn64tab", Rows.laid_math_bits_deBruijn64tab) :: rest) W) : Tab W := by
  rw [deb_datum] at h
  have hT := Lib.tabIs_of_head deb_global deb_type Tryd.underlying125 Tryd.underlying5 (by kernel_rfl) (by kernel_rfl) h
  have hc : TabAt 1 Lib.deBruijn64tab W := by
    intro j hj
    have := hT.cell deb_global j (by simpa using hj)
    rw [this]
    congr 2
    simp only [List.getD_eq_getElem?_getD, List.getElem?_map]
    cases Lib.deBruijn64tab[j]? <;> rfl
  exact ⟨lt_of_cell (hc 0 (by decide)), hc⟩
theorem fol_of {W : World} {rest : List (String × DataW Unit)} (h : laidMet Tryd.prog (("wherry/life.follows", Rows.laid_wherry_life_follows) :: rest) W) : Fol W := by
  rw [fol_datum] at h
  have hT := Lib.tabIs_of_head fol_global fol_type Tryd.underlying112 Tryd.underlying86 (by kernel_rfl) (by kernel_rfl) h
  have hc : ∀ (j x : Nat), folL[j]? = some x → W.cell? ⟨0, j, none⟩ = some (.int .u8 (x : Int)) := fun j x hx => by
    have hj := (List.getElem?_eq_some_iff.1 hx).1
    have := hT.cell fol_global j (by simpa using hj)
    rw [this]
    congr 2
    simp only [List.getD_eq_getElem?_getD, List.getElem?_map, hx]
    rfl
  exact ⟨lt_of_cell (hc 0 0 rfl), hc⟩
end Go.Proofs.YtjgclehghnmhnaaDoor
