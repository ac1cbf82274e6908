/- What arguments that are acts and slices of acts look like as values. -/
import Derived.Test.YtmbpmcgppnanpaaJnC
import Derived.ProofKit
import Derived.OpenShut
import Derived.ChangeSlices
import Derived.Deep.Grids
import Derived.Deep.SlicePairs
namespace Go.Proofs.Ytmbpmcgppnanpaa.Jn
open Go Go.ChangeShapes Go.WideShapes Go.ChangeAt Go.RowKit Go.Proofs.Ytmbpmcgppnanpaa.Bs
set_option maxRecDepth 100000

instance : Inhabited Ax := ⟨⟨0, 0, 0, 0, 0, false, 0⟩⟩
theorem cellsI : Try.prog.cellsOf 3 = 1 := by kernel_rfl
theorem cellsB : Try.prog.cellsOf 4 = 1 := by kernel_rfl
theorem cellsA : Try.prog.cellsOf 29 = 7 := by kernel_rfl
theorem iv_wf {x : Int} (h : (Lit.int .i64 x).wf = true) : Iv x := by
  have := bounds_i64 h
  exact ⟨by have := this; omega, by have := this; omega⟩
section
variable {H : Type} {enc : TypeId × Value → H} {W : World} {r : Reach} {b0 base : Nat} {held : Bool} {v : Value} {d : DataW H} {p : List MemPlace}

theorem open_act (hv : Value.okWide Try.prog W r b0 29 v) (h : DataW.Trod enc Try.prog W base (fun _ => true) held 29 v d p) :
    ∃ x : Ax, v = .agg x.cells ∧ x.Ok := by
  obtain ⟨cs, rfl, hsz⟩ := okWide_struct Try.underlying29 hv
  rw [cellsA] at hsz
  obtain ⟨fuel, hf⟩ := h
  obtain ⟨xs, m, _, _, _, hxs, hall⟩ := DataW.trod_struct Try.underlying29 hf
  obtain ⟨l⟩ := cs
  match l, hsz with
  | [c0, c1, c2, c3, c4, c5, c6], _ =>
    have g0 := hall 0 _ rfl
    have g1 := hall 1 _ rfl
    have g2 := hall 2 _ rfl
    have g3 := hall 3 _ rfl
    have g4 := hall 4 _ rfl
    have g5 := hall 5 _ rfl
    have g6 := hall 6 _ rfl
    match xs, hxs with
    | [y0, y1, y2, y3, y4, y5, y6], _ =>
      simp [Value.cells, cellsI, cellsB] at g0 g1 g2 g3 g4 g5 g6
      obtain ⟨n0, e0, _, w0⟩ := DataW.trod_int Try.underlying3 g0
      obtain ⟨n1, e1, _, w1⟩ := DataW.trod_int Try.underlying3 g1
      obtain ⟨n2, e2, _, w2⟩ := DataW.trod_int Try.underlying3 g2
      obtain ⟨n3, e3, _, w3⟩ := DataW.trod_int Try.underlying3 g3
      obtain ⟨n4, e4, _, w4⟩ := DataW.trod_int Try.underlying3 g4
      obtain ⟨n5, e5, _⟩ := DataW.trod_bool Try.underlying4 g5
      obtain ⟨n6, e6, _, w6⟩ := DataW.trod_int Try.underlying3 g6
      simp at e0 e1 e2 e3 e4 e5 e6
      subst e0 e1 e2 e3 e4 e5 e6
      exact ⟨⟨n0, n1, n2, n3, n4, n5, n6⟩, rfl, iv_wf w1, iv_wf w3⟩

theorem open_acts (hv : Value.okWide Try.prog W r b0 22 v) (h : DataW.Trod enc Try.prog W base (fun _ => true) held 22 v d p) :
    ∃ (a : Option Addr) (c : Nat) (xs : List Ax), v = .slice a xs.length c ∧ Acts W a xs := by
  obtain ⟨a0, len, cap, rfl⟩ := okWide_slice Try.underlying22 hv
  obtain ⟨fuel, hf⟩ := h
  rcases Deep.open_slice Try.underlying22 hf with ⟨hcs, _⟩ | ⟨a, len', cap', m, n, D, Q, hcs, _, hl, hm, hmm, _, hcell⟩
  · simp [Value.cells] at hcs
    obtain ⟨rfl, rfl, rfl⟩ := hcs
    exact ⟨none, 0, [], rfl, (fun j x hx => by simp at hx)⟩
  · simp [Value.cells] at hcs
    obtain ⟨rfl, rfl, rfl⟩ := hcs
    simp only [if_true] at hmm
    subst hmm
    obtain ⟨X, hX⟩ := Deep.choose_lt (α := Ax) (p := fun i x => x.Ok ∧ W.cell? (a.add (i * 7)) = some (.int .i64 x.k) ∧ W.cell? (a.add (i * 7 + 1)) = some (.int .i64 x.p) ∧ W.cell? (a.add (i * 7 + 2)) = some (.int .i64 x.a) ∧ W.cell? (a.add (i * 7 + 3)) = some (.int .i64 x.b) ∧ W.cell? (a.add (i * 7 + 4)) = some (.int .i64 x.g) ∧ W.cell? (a.add (i * 7 + 5)) = some (.bool x.raw) ∧ W.cell? (a.add (i * 7 + 6)) = some (.int .i64 x.v)) (fun i hi => by
      obtain ⟨cs', h1, h2⟩ := hcell i hi
      rw [cellsA] at h1
      obtain ⟨_, hlen, hc⟩ := World.cells?_some h1
      obtain ⟨xs, k, hk, hxy, _, hxl, hf⟩ := DataW.trod_struct Try.underlying29 h2
      match xs, hxl, cs', hlen with
      | [y0, y1, y2, y3, y4, y5, y6], _, [v0, v1, v2, v3, v4, v5, v6], _ =>
        have g0 := hf 0 _ rfl
        have g1 := hf 1 _ rfl
        have g2 := hf 2 _ rfl
        have g3 := hf 3 _ rfl
        have g4 := hf 4 _ rfl
        have g5 := hf 5 _ rfl
        have g6 := hf 6 _ rfl
        simp [cellsI, cellsB] at g0 g1 g2 g3 g4 g5 g6
        have e0 := hc 0 (by omega)
        have e1 := hc 1 (by omega)
        have e2 := hc 2 (by omega)
        have e3 := hc 3 (by omega)
        have e4 := hc 4 (by omega)
        have e5 := hc 5 (by omega)
        have e6 := hc 6 (by omega)
        rw [Deep.add_add] at e0 e1 e2 e3 e4 e5 e6
        obtain ⟨n0, k0, _, w0⟩ := DataW.trod_int Try.underlying3 g0
        obtain ⟨n1, k1, _, w1⟩ := DataW.trod_int Try.underlying3 g1
        obtain ⟨n2, k2, _, w2⟩ := DataW.trod_int Try.underlying3 g2
        obtain ⟨n3, k3, _, w3⟩ := DataW.trod_int Try.underlying3 g3
        obtain ⟨n4, k4, _, w4⟩ := DataW.trod_int Try.underlying3 g4
        obtain ⟨n5, k5, _⟩ := DataW.trod_bool Try.underlying4 g5
        obtain ⟨n6, k6, _, w6⟩ := DataW.trod_int Try.underlying3 g6
        simp at k0 k1 k2 k3 k4 k5 k6
        subst k0 k1 k2 k3 k4 k5 k6
        exact ⟨⟨n0, n1, n2, n3, n4, n5, n6⟩, ⟨iv_wf w1, iv_wf w3⟩, by simpa using e0, by simpa using e1, by simpa using e2, by simpa using e3, by simpa using e4, by simpa using e5, by simpa using e6⟩)
    refine ⟨some a, m, (List.range len).map X, by simp, fun j x hx => ?_⟩
    have hj : j < len := by have := (List.getElem?_eq_some_iff.1 hx).1; simpa using this
    obtain ⟨qo, q0, q1, q2, q3, q4, q5, q6⟩ := hX j (by omega)
    obtain ⟨_, q, _⟩ := hX 0 (by omega)
    obtain ⟨b, off, spot⟩ := a
    have hspot : spot = none := by simpa [Addr.add] using World.cell?_spot q
    subst hspot
    simp [hj] at hx
    rw [← hx]
    refine ⟨qo, b, off, rfl, ?_⟩
    rw [add_plain] at q0 q1 q2 q3 q4 q5 q6
    exact ⟨q0, q1, q2, q3, q4, q5, q6⟩
end
end Go.Proofs.Ytmbpmcgppnanpaa.Jn
