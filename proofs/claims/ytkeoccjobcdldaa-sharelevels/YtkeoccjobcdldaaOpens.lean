/- What an argument that is a slice of claims looks like as a value. -/
import Derived.Test.YtkeoccjobcdldaaMem
import Derived.ProofKit
import Derived.OpenShut
import Derived.ChangeSlices
import Derived.Deep.Grids
import Derived.Deep.SlicePairs
namespace Go.Proofs.Ytkeoccjobcdldaa
open Go Go.ChangeShapes Go.WideShapes Go.ChangeAt Go.RowKit
set_option maxRecDepth 100000

theorem cells3 : Try.prog.cellsOf 3 = 1 := by kernel_rfl
theorem cells30 : Try.prog.cellsOf 30 = 2 := by kernel_rfl
def CLm (w : World) (a : Option Addr) (xs : List (Int × Int)) : Prop := ∀ j x, xs[j]? = some x → ∃ b o, a = some ⟨b, o, none⟩ ∧ w.cell? ⟨b, o + j * 2, none⟩ = some (.int .i64 x.1) ∧ w.cell? ⟨b, o + j * 2 + 1, none⟩ = some (.int .i64 x.2)

section
variable {H : Type} {enc : TypeId × Value → H} {W : World} {r : Reach} {b0 base : Nat} {held : Bool} {v : Value} {d : DataW H} {p : List MemPlace}

theorem open_cl (hv : Value.okWide Try.prog W r b0 22 v) (h : DataW.Trod enc Try.prog W base (fun _ => true) held 22 v d p) :
    ∃ (a : Option Addr) (c : Nat) (xs : List (Int × Int)), v = .slice a xs.length c ∧ CLm W a xs ∧ (∀ x ∈ xs, I64 x.1 ∧ I64 x.2) ∧ (a = none → c = 0) := by
  obtain ⟨a0, len, cap, rfl⟩ := okWide_slice Try.underlying22 hv
  obtain ⟨fuel, hf⟩ := h
  rcases Deep.open_slice Try.underlying22 hf with ⟨hcs, _⟩ | ⟨a, len', cap', m, n, D, Q, hcs, _, hl, hm, hmm, _, hcell⟩
  · simp [Value.cells] at hcs
    obtain ⟨rfl, rfl, rfl⟩ := hcs
    exact ⟨none, 0, [], rfl, (fun j x hx => by simp at hx), (fun x hx => by simp at hx), fun _ => rfl⟩
  · simp [Value.cells] at hcs
    obtain ⟨rfl, rfl, rfl⟩ := hcs
    simp only [if_true] at hmm
    subst hmm
    obtain ⟨X, hX⟩ := Deep.choose_lt (α := Int × Int) (p := fun i x => W.cell? (a.add (i * 2)) = some (.int .i64 x.1) ∧ W.cell? (a.add (i * 2 + 1)) = some (.int .i64 x.2) ∧ I64 x.1 ∧ I64 x.2) (fun i hi => by
      obtain ⟨cs', h1, h2⟩ := hcell i hi
      rw [cells30] at h1
      obtain ⟨_, hlen, hc⟩ := World.cells?_some h1
      obtain ⟨xs, k, hk, hxy, _, hxl, hf⟩ := DataW.trod_struct Try.underlying30 h2
      match xs, hxl, cs', hlen with
      | [y0, y1], _, [v0, v1], _ =>
        have g0 := hf 0 _ rfl
        have g1 := hf 1 _ rfl
        simp [cells3] at g0 g1
        have e0 := hc 0 (by omega)
        have e1 := hc 1 (by omega)
        rw [Deep.add_add] at e0 e1
        obtain ⟨n0, k0, _, w0⟩ := DataW.trod_int Try.underlying3 g0
        obtain ⟨n1, k1, _, w1⟩ := DataW.trod_int Try.underlying3 g1
        simp at k0 k1
        subst k0 k1
        exact ⟨(n0, n1), by simpa using e0, by simpa using e1, bounds_i64 w0, bounds_i64 w1⟩)
    refine ⟨some a, m, (List.range len).map X, by simp, fun j x hx => ?_, fun x hx => ?_, fun e => by cases e⟩
    rotate_left
    · obtain ⟨j, hj, rfl⟩ := List.mem_map.1 hx
      exact (hX j (by have := List.mem_range.1 hj; omega)).2.2
    have hj : j < len := by have := (List.getElem?_eq_some_iff.1 hx).1; simpa using this
    obtain ⟨hc, hc', _⟩ := hX j (by omega)
    obtain ⟨hc0, _⟩ := hX 0 (by omega)
    obtain ⟨b, off, spot⟩ := a
    have hspot : spot = none := by simpa [Addr.add] using World.cell?_spot hc0
    subst hspot
    refine ⟨b, off, rfl, ?_⟩
    simp [hj] at hx
    rw [← hx]
    rw [add_plain] at hc hc'
    exact ⟨hc, hc'⟩

theorem open_claims (hv : Value.okWide Try.prog W r b0 22 v) (h : DataW.Trod enc Try.prog W base (fun _ => true) held 22 v d p) :
    ∃ (a : Option Addr) (c : Nat) (ls : List (Int × Int)), v = .slice a ls.length c ∧ CL W a ls ∧ OkL ls := by
  obtain ⟨a, c, xs, rfl, h1, h2, _⟩ := open_cl hv h
  refine ⟨a, c, xs, rfl, fun j hj => h1 j (wt xs j, dm xs j) (cl_get hj), fun i hi => ?_⟩
  exact h2 (wt xs i, dm xs i) (List.mem_of_getElem? (cl_get hi))
/-- The same, and that nil has no room. -/
theorem open_claims2 (hv : Value.okWide Try.prog W r b0 22 v) (h : DataW.Trod enc Try.prog W base (fun _ => true) held 22 v d p) :
    ∃ (a : Option Addr) (c : Nat) (ls : List (Int × Int)), v = .slice a ls.length c ∧ CL W a ls ∧ OkL ls ∧ (a = none → c = 0) := by
  obtain ⟨a, c, xs, rfl, h1, h2, h3⟩ := open_cl hv h
  refine ⟨a, c, xs, rfl, fun j hj => h1 j (wt xs j, dm xs j) (cl_get hj), fun i hi => ?_, h3⟩
  exact h2 (wt xs i, dm xs i) (List.mem_of_getElem? (cl_get hi))
end
end Go.Proofs.Ytkeoccjobcdldaa
