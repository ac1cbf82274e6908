/- What arguments that are contexts, calls, or arrays of two bytes, look like as values. -/
import Derived.Test.YtllnpkijojpccaaDoorOpens
import Derived.Test.YtllnpkijojpccaaDoorMch
namespace Go.Proofs.YtllnpkijojpccaaDoor
open Go Go.ChangeShapes Go.WideShapes Go.ChangeAt Go.RowKit
set_option maxRecDepth 100000

theorem cellsCx : Tryd.prog.cellsOf 26 = 11 := by kernel_rfl
theorem cellsa8 : Tryd.prog.cellsOf 24 = 8 := by kernel_rfl
theorem cellsK : Tryd.prog.cellsOf 30 = 4 := by kernel_rfl
theorem cellsu2 : Tryd.prog.cellsOf 48 = 2 := by kernel_rfl
theorem cellsu : Tryd.prog.cellsOf 5 = 1 := by kernel_rfl

section
variable {H : Type} {enc : TypeId × Value → H} {W : World} {r : Reach} {b0 base : Nat} {held : Bool} {v : Value} {d : DataW H} {p : List MemPlace}

theorem open_cx (hv : Value.okWide Tryd.prog W r b0 26 v) (h : DataW.Trod enc Tryd.prog W base (fun _ => true) held 26 v d p) :
    ∃ c : Cx, v = .agg (cxA c) ∧ Rg c := by
  simp only [Value.okWide, Tryd.underlying26] at hv
  obtain ⟨cs, rfl, hsz, _⟩ := hv
  rw [cellsCx] at hsz
  obtain ⟨fuel, hf⟩ := h
  obtain ⟨xs, k, hk, _, _, hxl, hf⟩ := DataW.trod_struct Tryd.underlying26 hf
  obtain ⟨l⟩ := cs
  match l, hsz, xs, hxl with
  | [v0, v1, v2, v3, v4, v5, v6, v7, v8, v9, v10], _, [y0, y1, y2, y3], _ =>
    have g0 := hf 0 _ rfl
    have g1 := hf 1 _ rfl
    have g2 := hf 2 _ rfl
    have g3 := hf 3 _ rfl
    simp [cells3, cellsa8, Value.cells] at g0 g1 g2 g3
    obtain ⟨n0, k0, _, _⟩ := DataW.trod_int Tryd.underlying3 g0
    obtain ⟨n1, k1, _, _⟩ := DataW.trod_int Tryd.underlying3 g1
    obtain ⟨n3, k3, _, w3⟩ := DataW.trod_int Tryd.underlying3 g3
    obtain ⟨zs, m, _, _, _, hzs, hall⟩ := DataW.trod_array Tryd.underlying24 g2
    rw [cells3] at hall
    match zs, hzs with
    | [z0, z1, z2, z3, z4, z5, z6, z7], _ =>
      have q0 := hall 0 (by omega)
      have q1 := hall 1 (by omega)
      have q2 := hall 2 (by omega)
      have q3 := hall 3 (by omega)
      have q4 := hall 4 (by omega)
      have q5 := hall 5 (by omega)
      have q6 := hall 6 (by omega)
      have q7 := hall 7 (by omega)
      simp at q0 q1 q2 q3 q4 q5 q6 q7
      obtain ⟨r0, e0, _, _⟩ := DataW.trod_int Tryd.underlying3 q0
      obtain ⟨r1, e1, _, _⟩ := DataW.trod_int Tryd.underlying3 q1
      obtain ⟨r2, e2, _, _⟩ := DataW.trod_int Tryd.underlying3 q2
      obtain ⟨r3, e3, _, _⟩ := DataW.trod_int Tryd.underlying3 q3
      obtain ⟨r4, e4, _, _⟩ := DataW.trod_int Tryd.underlying3 q4
      obtain ⟨r5, e5, _, _⟩ := DataW.trod_int Tryd.underlying3 q5
      obtain ⟨r6, e6, _, _⟩ := DataW.trod_int Tryd.underlying3 q6
      obtain ⟨r7, e7, _, _⟩ := DataW.trod_int Tryd.underlying3 q7
      simp at k0 k1 k3 e0 e1 e2 e3 e4 e5 e6 e7
      subst k0 k1 k3 e0 e1 e2 e3 e4 e5 e6 e7
      have b3 := bounds_i64 w3
      exact ⟨⟨n0, n1, fun j => [r0, r1, r2, r3, r4, r5, r6, r7].getD j 0, n3⟩, rfl, ⟨(by omega : -9223372036854775808 ≤ n3), (by omega : n3 ≤ 9223372036854775807)⟩⟩

theorem open_call (hv : Value.okWide Tryd.prog W r b0 30 v) (h : DataW.Trod enc Tryd.prog W base (fun _ => true) held 30 v d p) :
    ∃ x : Ins, v = .agg (insC x) := by
  simp only [Value.okWide, Tryd.underlying30] at hv
  obtain ⟨cs, rfl, hsz, _⟩ := hv
  rw [cellsK] at hsz
  obtain ⟨fuel, hf⟩ := h
  obtain ⟨xs, k, hk, _, _, hxl, hf⟩ := DataW.trod_struct Tryd.underlying30 hf
  obtain ⟨l⟩ := cs
  match l, hsz, xs, hxl with
  | [v0, v1, v2, v3], _, [y0, y1, y2, y3], _ =>
    have g0 := hf 0 _ rfl
    have g1 := hf 1 _ rfl
    have g2 := hf 2 _ rfl
    have g3 := hf 3 _ rfl
    simp [cells3, Value.cells] at g0 g1 g2 g3
    obtain ⟨n0, k0, _, _⟩ := DataW.trod_int Tryd.underlying3 g0
    obtain ⟨n1, k1, _, _⟩ := DataW.trod_int Tryd.underlying3 g1
    obtain ⟨n2, k2, _, _⟩ := DataW.trod_int Tryd.underlying3 g2
    obtain ⟨n3, k3, _, _⟩ := DataW.trod_int Tryd.underlying3 g3
    simp at k0 k1 k2 k3
    subst k0 k1 k2 k3
    exact ⟨(n0, n1, n2, n3), rfl⟩

theorem open_u2 (hv : Value.okWide Tryd.prog W r b0 48 v) (h : DataW.Trod enc Tryd.prog W base (fun _ => true) held 48 v d p) :
    ∃ x0 x1 : Int, v = .agg #[.int .u8 x0, .int .u8 x1] ∧ (Lit.int .u8 x0).wf = true ∧ (Lit.int .u8 x1).wf = true := by
  simp only [Value.okWide, Tryd.underlying48] at hv
  obtain ⟨cs, rfl, hsz, _⟩ := hv
  rw [cellsu2] at hsz
  obtain ⟨fuel, hf⟩ := h
  obtain ⟨xs, m, _, _, _, hxs, hall⟩ := DataW.trod_array Tryd.underlying48 hf
  rw [cellsu] at hall
  obtain ⟨l⟩ := cs
  match l, hsz with
  | [c0, c1], _ =>
    have g0 := hall 0 (by omega)
    have g1 := hall 1 (by omega)
    match xs, hxs with
    | [y0, y1], _ =>
      simp [Value.cells] at g0 g1
      obtain ⟨n0, e0, _, w0⟩ := DataW.trod_int Tryd.underlying5 g0
      obtain ⟨n1, e1, _, w1⟩ := DataW.trod_int Tryd.underlying5 g1
      simp at e0 e1
      subst e0 e1
      exact ⟨n0, n1, rfl, w0, w1⟩

end
end Go.Proofs.YtllnpkijojpccaaDoor
