/- What arguments that are slices of ints, of bytes and of moves look like as values. -/
import Derived.Test.YtokigpmkhkldkaaFns
import Derived.ProofKit
import Derived.OpenShut
import Derived.ChangeSlices
import Derived.Deep.Grids
import Derived.Deep.SlicePairs
namespace Go.Proofs.Ytokigpmkhkldkaa
open Go Go.ChangeShapes Go.WideShapes Go.ChangeAt Go.RowKit
set_option maxRecDepth 100000

theorem cells3 : Try.prog.cellsOf 3 = 1 := by kernel_rfl
theorem cells5 : Try.prog.cellsOf 5 = 1 := by kernel_rfl
theorem cells40 : Try.prog.cellsOf 40 = 3 := by kernel_rfl
/-- Numbers of some kind in memory. -/
def IK (k : IntKind) (w : World) (a : Option Addr) (xs : List Int) : Prop := ∀ j, j < xs.length → ∃ b o, a = some ⟨b, o, none⟩ ∧ w.cell? ⟨b, o + j, none⟩ = some (.int k (ix xs j))
def Acts (w : World) (a : Option Addr) (xs : List (Int × Int × Int)) : Prop := ∀ j x, xs[j]? = some x → ∃ b o, a = some ⟨b, o, none⟩ ∧ w.cell? ⟨b, o + j * 3, none⟩ = some (.int .i64 x.1) ∧ w.cell? ⟨b, o + j * 3 + 1, none⟩ = some (.int .i64 x.2.1) ∧ w.cell? ⟨b, o + j * 3 + 2, none⟩ = some (.int .i64 x.2.2)
theorem IK.below {k : IntKind} {w w' : World} {a : Option Addr} {xs : List Int} (h : IK k w a xs) (hb : Below w.heap.size w w') : IK k w' a xs := fun j hj => by
  obtain ⟨b, o, e, h0⟩ := h j hj
  exact ⟨b, o, e, cell_on hb h0⟩

section
variable {H : Type} {enc : TypeId × Value → H} {W : World} {r : Reach} {b0 base : Nat} {held : Bool} {v : Value} {d : DataW H} {p : List MemPlace}

theorem open_sl (hv : Value.okWide Try.prog W r b0 22 v) (h : DataW.Trod enc Try.prog W base (fun _ => true) held 22 v d p) :
    ∃ (a : Option Addr) (c : Nat) (xs : List Int), v = .slice a xs.length c ∧ IK .i64 W a xs ∧ (∀ x ∈ xs, I64 x) ∧ xs.length ≤ maxLen := by
  obtain ⟨a0, len, cap, rfl⟩ := okWide_slice Try.underlying22 hv
  obtain ⟨fuel, hf⟩ := h
  rcases open_ints Try.underlying22 Try.underlying3 cells3 hf with ⟨hcs, _⟩ | ⟨a, len', cap', zs, hcs, _, hl, hm, hz, _, hcell, hw⟩
  · simp [Value.cells] at hcs
    obtain ⟨rfl, rfl, rfl⟩ := hcs
    exact ⟨none, 0, [], rfl, (fun j hj => by simp at hj), (fun x hx => by simp at hx), Nat.zero_le _⟩
  · simp [Value.cells] at hcs
    obtain ⟨rfl, rfl, rfl⟩ := hcs
    simp only [if_true] at hz
    have hlen : (zs.take len).length = len := by rw [List.length_take]; omega
    refine ⟨some a, cap, zs.take len, by rw [hlen], fun j hj => ?_, (fun x hx => bounds_i64 (hw x (List.mem_of_mem_take hx))), by rw [hlen]; omega⟩
    rw [hlen] at hj
    have hc := hcell j (by omega)
    have hc0 := hcell 0 (by omega)
    obtain ⟨b, off, spot⟩ := a
    have hspot : spot = none := by simpa [Addr.add] using World.cell?_spot hc0
    subst hspot
    refine ⟨b, off, rfl, ?_⟩
    rw [← add_plain, hc]
    unfold ix
    rw [List.getD_eq_getElem?_getD, List.getD_eq_getElem?_getD, List.getElem?_take_of_lt hj]

theorem open_by (hv : Value.okWide Try.prog W r b0 41 v) (h : DataW.Trod enc Try.prog W base (fun _ => true) held 41 v d p) :
    ∃ (a : Option Addr) (c : Nat) (xs : List Int), v = .slice a xs.length c ∧ IK .u8 W a xs ∧ (∀ x ∈ xs, 0 ≤ x ∧ x ≤ 255) ∧ xs.length ≤ maxLen := by
  obtain ⟨a0, len, cap, rfl⟩ := okWide_slice Try.underlying41 hv
  obtain ⟨fuel, hf⟩ := h
  rcases open_ints Try.underlying41 Try.underlying5 cells5 hf with ⟨hcs, _⟩ | ⟨a, len', cap', zs, hcs, _, hl, hm, hz, _, hcell, hw⟩
  · simp [Value.cells] at hcs
    obtain ⟨rfl, rfl, rfl⟩ := hcs
    exact ⟨none, 0, [], rfl, (fun j hj => by simp at hj), (fun x hx => by simp at hx), Nat.zero_le _⟩
  · simp [Value.cells] at hcs
    obtain ⟨rfl, rfl, rfl⟩ := hcs
    simp only [if_true] at hz
    have hlen : (zs.take len).length = len := by rw [List.length_take]; omega
    refine ⟨some a, cap, zs.take len, by rw [hlen], fun j hj => ?_, (fun x hx => bounds_u8 (hw x (List.mem_of_mem_take hx))), by rw [hlen]; omega⟩
    rw [hlen] at hj
    have hc := hcell j (by omega)
    have hc0 := hcell 0 (by omega)
    obtain ⟨b, off, spot⟩ := a
    have hspot : spot = none := by simpa [Addr.add] using World.cell?_spot hc0
    subst hspot
    refine ⟨b, off, rfl, ?_⟩
    rw [← add_plain, hc]
    unfold ix
    rw [List.getD_eq_getElem?_getD, List.getD_eq_getElem?_getD, List.getElem?_take_of_lt hj]

theorem open_al (hv : Value.okWide Try.prog W r b0 23 v) (h : DataW.Trod enc Try.prog W base (fun _ => true) held 23 v d p) :
    ∃ (a : Option Addr) (c : Nat) (xs : List (Int × Int × Int)), v = .slice a xs.length c ∧ Acts W a xs ∧ ∀ x ∈ xs, I64 x.1 ∧ I64 x.2.1 ∧ I64 x.2.2 := by
  obtain ⟨a0, len, cap, rfl⟩ := okWide_slice Try.underlying23 hv
  obtain ⟨fuel, hf⟩ := h
  rcases Deep.open_slice Try.underlying23 hf with ⟨hcs, _⟩ | ⟨a, len', cap', m, n, D, Q, hcs, _, hl, hm, hmm, _, hcell⟩
  · simp [Value.cells] at hcs
    obtain ⟨rfl, rfl, rfl⟩ := hcs
    exact ⟨none, 0, [], rfl, (fun j x hx => by simp at hx), fun x hx => by simp at hx⟩
  · simp [Value.cells] at hcs
    obtain ⟨rfl, rfl, rfl⟩ := hcs
    simp only [if_true] at hmm
    subst hmm
    obtain ⟨X, hX⟩ := Deep.choose_lt (α := Int × Int × Int) (p := fun i x => W.cell? (a.add (i * 3)) = some (.int .i64 x.1) ∧ W.cell? (a.add (i * 3 + 1)) = some (.int .i64 x.2.1) ∧ W.cell? (a.add (i * 3 + 2)) = some (.int .i64 x.2.2) ∧ I64 x.1 ∧ I64 x.2.1 ∧ I64 x.2.2) (fun i hi => by
      obtain ⟨cs', h1, h2⟩ := hcell i hi
      rw [cells40] at h1
      obtain ⟨_, hlen, hc⟩ := World.cells?_some h1
      obtain ⟨xs, k, hk, hxy, _, hxl, hf⟩ := DataW.trod_struct Try.underlying40 h2
      match xs, hxl, cs', hlen with
      | [y0, y1, y2], _, [v0, v1, v2], _ =>
        have g0 := hf 0 _ rfl
        have g1 := hf 1 _ rfl
        have g2 := hf 2 _ rfl
        simp [cells3] at g0 g1 g2
        have e0 := hc 0 (by omega)
        have e1 := hc 1 (by omega)
        have e2 := hc 2 (by omega)
        rw [Deep.add_add] at e0 e1 e2
        obtain ⟨n0, k0, _, w0⟩ := DataW.trod_int Try.underlying3 g0
        obtain ⟨n1, k1, _, w1⟩ := DataW.trod_int Try.underlying3 g1
        obtain ⟨n2, k2, _, w2⟩ := DataW.trod_int Try.underlying3 g2
        simp at k0 k1 k2
        subst k0 k1 k2
        exact ⟨(n0, n1, n2), by simpa using e0, by simpa using e1, by simpa using e2, bounds_i64 w0, bounds_i64 w1, bounds_i64 w2⟩)
    refine ⟨some a, m, (List.range len).map X, by simp, fun j x hx => ?_, fun x hx => ?_⟩
    rotate_left
    · obtain ⟨j, hj, rfl⟩ := List.mem_map.1 hx
      exact (hX j (by have := List.mem_range.1 hj; omega)).2.2.2
    have hj : j < len := by have := (List.getElem?_eq_some_iff.1 hx).1; simpa using this
    obtain ⟨hc, hc', hc'', _⟩ := hX j (by omega)
    obtain ⟨hc0, _⟩ := hX 0 (by omega)
    obtain ⟨b, off, spot⟩ := a
    have hspot : spot = none := by simpa [Addr.add] using World.cell?_spot hc0
    subst hspot
    refine ⟨b, off, rfl, ?_⟩
    simp [hj] at hx
    rw [← hx]
    rw [add_plain] at hc hc' hc''
    exact ⟨hc, hc', hc''⟩

theorem open_is (hv : Value.okWide Try.prog W r b0 22 v) (h : DataW.Trod enc Try.prog W base (fun _ => true) held 22 v d p) :
    ∃ (a : Option Addr) (c : Nat) (xs : List Int), v = .slice a xs.length c ∧ IX W a xs ∧ OkX xs ∧ Sz xs := by
  obtain ⟨a, c, xs, rfl, h1, h2, h3⟩ := open_sl hv h
  refine ⟨a, c, xs, rfl, h1, fun i hi => h2 _ (ix_mem hi), fun j hj => ?_⟩
  unfold maxLen at h3
  simp only [IntKind.wrap, IntKind.bits, IntKind.signed]
  simp
  omega
theorem open_ms (hv : Value.okWide Try.prog W r b0 23 v) (h : DataW.Trod enc Try.prog W base (fun _ => true) held 23 v d p) :
    ∃ (a : Option Addr) (c : Nat) (ms : List (Int × Int × Int)), v = .slice a ms.length c ∧ MV W a ms ∧ OkM ms := by
  obtain ⟨a, c, xs, rfl, h1, h2⟩ := open_al hv h
  exact ⟨a, c, xs, rfl, fun j hj => h1 j _ (mc_get hj), fun i hi => h2 _ (mc_mem hi)⟩
theorem open_bs (hv : Value.okWide Try.prog W r b0 41 v) (h : DataW.Trod enc Try.prog W base (fun _ => true) held 41 v d p) :
    ∃ (a : Option Addr) (c : Nat) (xs : List Int), v = .slice a xs.length c ∧ IK .u8 W a xs ∧ ∀ i, i < xs.length → 0 ≤ ix xs i ∧ ix xs i ≤ 255 := by
  obtain ⟨a, c, xs, rfl, h1, h2, _⟩ := open_by hv h
  exact ⟨a, c, xs, rfl, h1, fun i hi => h2 _ (ix_mem hi)⟩
end
end Go.Proofs.Ytokigpmkhkldkaa
