/- The library's two errors, out of the rows. -/
import Derived.Test.YtgoedlgilgnphaaDoorMember
import Derived.Test.YtgoedlgilgnphaaDoorLaid
import Derived.LaidMore
namespace Go.Proofs.YtgoedlgilgnphaaDoor
open Go Go.RowKit

theorem syn_global : Tryd.prog.globalNamed "strconv.ErrSyntax" = some 4 := by kernel_rfl
theorem rng_global : Tryd.prog.globalNamed "strconv.ErrRange" = some 5 := by kernel_rfl
theorem syn_type : (Tryd.prog.globals[4]?).map (·.type) = some 85 := by kernel_rfl
theorem rng_type : (Tryd.prog.globals[5]?).map (·.type) = some 85 := by kernel_rfl
theorem star_eq : "*" ++ "errors.errorString" = "*errors.errorString" := by decide
theorem row127 (u : TypeId) (h : Tryd.prog.typeName? 3 u = some "*errors.errorString") : u = 127 :=
  typeName_ptr_named (nm := "errors.errorString") (by rw [star_eq]; kernel_rfl) (by kernel_rfl) (by decide) u (by rw [star_eq]; exact h)

theorem errs_of_laid {W : World} {rest : List (String × DataW Unit)} (h : laidMet Tryd.prog (("strconv.ErrRange", Rows.laid_strconv_ErrRange) :: ("strconv.ErrSyntax", Rows.laid_strconv_ErrSyntax) :: rest) W) : Errs W := by
  obtain ⟨a0, s0, hv0, _, _, _⟩ := laid_sentinel h rng_global rng_type Tryd.underlying85 row127 Tryd.underlying127 Tryd.underlying129 rfl rfl Tryd.underlying9 (by kernel_rfl) (by kernel_rfl)
  obtain ⟨a1, s1, hv1, _, _, _⟩ := laid_sentinel h.tail syn_global syn_type Tryd.underlying85 row127 Tryd.underlying127 Tryd.underlying129 rfl rfl Tryd.underlying9 (by kernel_rfl) (by kernel_rfl)
  have c5 : W.cell? ⟨5, 0, none⟩ = some (.iface 127 (.pointer (some a0))) := by simpa using World.var?_cell rng_global hv0 0
  have c4 : W.cell? ⟨4, 0, none⟩ = some (.iface 127 (.pointer (some a1))) := by simpa using World.var?_cell syn_global hv1 0
  refine ⟨?_, ⟨_, c4, .inr ⟨_, _, rfl⟩⟩, ⟨_, c5, .inr ⟨_, _, rfl⟩⟩⟩
  apply Nat.lt_of_not_le
  intro hle
  have : W.heap[5]? = none := Array.getElem?_eq_none hle
  simp [World.cell?, this] at c5

end Go.Proofs.YtgoedlgilgnphaaDoor
