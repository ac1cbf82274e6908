/- What arguments that are slices of uints, of acts look like as values. -/
import Derived.Test.YtkoekdbkjjjoaaaDoorOnceS
import Derived.ProofKit
import Derived.OpenShut
import Derived.ChangeSlices
import Derived.Deep.Grids
import Derived.Deep.SlicePairs
namespace Go.Proofs.YtkoekdbkjjjoaaaDoor
open Go Go.ChangeShapes Go.WideShapes Go.ChangeAt Go.RowKit
set_option maxRecDepth 100000

theorem cells3 : Tryd.prog.cellsOf 3 = 1 := by kernel_rfl
theorem cells31 : Tryd.prog.cellsOf 31 = 1 := by kernel_rfl
theorem cells30 : Tryd.prog.cellsOf 30 = 2 := by kernel_rfl

/-- A slice of acts lies in memory. -/
def Acts (w : World) (a : Option Addr) (xs : List (Int × Int)) : Prop := ∀ j x, xs[j]? = some x → ∃ b o, a = some ⟨b, o, none⟩ ∧ w.cell? ⟨b, o + j * 2, none⟩ = some (.int .i64 x.1) ∧ w.cell? ⟨b, o + j * 2 + 1, none⟩ = some (.int .i64 x.2)
theorem Acts.below {w w' : World} {a : Option Addr} {xs : List (Int × Int)} (h : Acts w a xs) (hb : Below w.heap.size w w') : Acts w' a xs := fun j x hx => by
  obtain ⟨b, o, e, h0, h1⟩ := h j x hx
  exact ⟨b, o, e, cell_keep hb h0, cell_keep hb h1⟩

section
variable {H : Type} {enc : TypeId × Value → H} {W : World} {r : Reach} {b0 base : Nat} {held : Bool} {v : Value} {d : DataW H} {p : List MemPlace}

theorem open_ul (hv : Value.okWide Tryd.prog W r b0 46 v) (h : DataW.Trod enc Tryd.prog W base (fun _ => true) held 46 v d p) :
    ∃ (a : Option Addr) (c : Nat) (xs : List Nat), v = .slice a xs.length c ∧ Uints W a xs ∧ ∀ x ∈ xs, x < 18446744073709551616 := by
  obtain ⟨a0, len, cap, rfl⟩ := okWide_slice Tryd.underlying46 hv
  obtain ⟨fuel, hf⟩ := h
  rcases open_ints Tryd.underlying46 Tryd.underlying31 cells31 hf with ⟨hcs, _⟩ | ⟨a, len', cap', zs, hcs, _, hl, hm, hz, _, hcell, hw⟩
  · simp [Value.cells] at hcs
    obtain ⟨rfl, rfl, rfl⟩ := hcs
    exact ⟨none, 0, [], rfl, fun j x hx => by simp at hx, fun x hx => by simp at hx⟩
  · simp [Value.cells] at hcs
    obtain ⟨rfl, rfl, rfl⟩ := hcs
    simp only [if_true] at hz
    have hlen : (zs.take len).length = len := by rw [List.length_take]; omega
    refine ⟨some a, cap, (zs.take len).map Int.toNat, by rw [List.length_map, hlen], fun j x hx => ?_, fun x hx => ?_⟩
    · have hj : j < len := by have := (List.getElem?_eq_some_iff.1 hx).1; rw [List.length_map] at this; omega
      have hc := hcell j (by omega)
      have hc0 := hcell 0 (by omega)
      obtain ⟨b, off, spot⟩ := a
      have hspot : spot = none := by simpa [Addr.add] using World.cell?_spot hc0
      subst hspot
      refine ⟨b, off, rfl, ?_⟩
      rw [← add_plain, hc]
      rw [List.getElem?_map, List.getElem?_take_of_lt hj] at hx
      cases hq : zs[j]? with
      | none => simp [hq] at hx
      | some z =>
        simp [hq] at hx
        have hz0 := (bounds_u64 (hw z (List.mem_of_getElem? hq))).1
        rw [List.getD_eq_getElem?_getD, hq]
        simp only [Option.getD_some]
        have e : ((x : Nat) : Int) = z := by omega
        rw [e]
    · obtain ⟨z, hz, rfl⟩ := List.mem_map.1 hx
      have := bounds_u64 (hw z (List.mem_of_mem_take hz))
      omega

theorem open_al (hv : Value.okWide Tryd.prog W r b0 22 v) (h : DataW.Trod enc Tryd.prog W base (fun _ => true) held 22 v d p) :
    ∃ (a : Option Addr) (c : Nat) (xs : List (Int × Int)), v = .slice a xs.length c ∧ Acts W a xs ∧ ∀ x ∈ xs, -9223372036854775808 ≤ x.1 ∧ x.1 ≤ 9223372036854775807 ∧ -9223372036854775808 ≤ x.2 ∧ x.2 ≤ 9223372036854775807 := by
  obtain ⟨a0, len, cap, rfl⟩ := okWide_slice Tryd.underlying22 hv
  obtain ⟨fuel, hf⟩ := h
  rcases Deep.open_slice_pairs Tryd.underlying22 Tryd.underlying30 cells30 rfl rfl cells3 cells3 hf with ⟨hcs, _⟩ | ⟨a, len', cap', m, n, V0, V1, D0, D1, P0, P1, hcs, _, hl, hm, hmm, _, hcell⟩
  · simp [Value.cells] at hcs
    obtain ⟨rfl, rfl, rfl⟩ := hcs
    exact ⟨none, 0, [], rfl, fun j x hx => by simp at hx, fun x hx => by simp at hx⟩
  · simp [Value.cells] at hcs
    obtain ⟨rfl, rfl, rfl⟩ := hcs
    simp only [if_true] at hmm
    subst hmm
    obtain ⟨X, hX⟩ := Deep.choose_lt (α := Int × Int) (p := fun i x => V0 i = .int .i64 x.1 ∧ V1 i = .int .i64 x.2 ∧ (Lit.int .i64 x.1).wf = true ∧ (Lit.int .i64 x.2).wf = true) (fun i hi => by
      obtain ⟨_, _, h2, h3⟩ := hcell i hi
      obtain ⟨n0, e0, _, w0⟩ := DataW.trod_int Tryd.underlying3 h2
      obtain ⟨n1, e1, _, w1⟩ := DataW.trod_int Tryd.underlying3 h3
      exact ⟨(n0, n1), by simpa using e0, by simpa using e1, w0, w1⟩)
    refine ⟨some a, m, (List.range len).map X, by simp, fun j x hx => ?_, fun x hx => ?_⟩
    · have hj : j < len := by have := (List.getElem?_eq_some_iff.1 hx).1; simpa using this
      obtain ⟨hc, hc', _⟩ := hcell j (by omega)
      obtain ⟨hc0, _⟩ := hcell 0 (by omega)
      obtain ⟨b, off, spot⟩ := a
      have hspot : spot = none := by simpa [Addr.add] using World.cell?_spot hc0
      subst hspot
      refine ⟨b, off, rfl, ?_⟩
      simp [hj] at hx
      obtain ⟨e0, e1, _⟩ := hX j (by omega)
      rw [← hx, ← e0, ← e1, ← hc, ← hc', add_plain, add_plain]
      exact ⟨rfl, rfl⟩
    · obtain ⟨j, hj, rfl⟩ := List.mem_map.1 hx
      have hj := List.mem_range.1 hj
      obtain ⟨_, _, w0, w1⟩ := hX j (by omega)
      exact ⟨(bounds_i64 w0).1, (bounds_i64 w0).2, (bounds_i64 w1).1, (bounds_i64 w1).2⟩
end
end Go.Proofs.YtkoekdbkjjjoaaaDoor
