/- What arguments that are rows of events, or one event, look like as values. -/
import Derived.Test.YtcffmdimfmpheaaDoorEMem
import Derived.ProofKit
import Derived.OpenShut
import Derived.ChangeSlices
import Derived.Deep.Grids
import Derived.Deep.SlicePairs
namespace Go.Proofs.YtcffmdimfmpheaaDoor
open Go Go.ChangeShapes Go.WideShapes Go.ChangeAt Go.RowKit
set_option maxRecDepth 100000

theorem cells3 : Tryd.prog.cellsOf 3 = 1 := by kernel_rfl
theorem cellsEv : Tryd.prog.cellsOf 33 = 15 := by kernel_rfl
theorem cellsCx : Tryd.prog.cellsOf 31 = 11 := by kernel_rfl
theorem cellsa8 : Tryd.prog.cellsOf 29 = 8 := by kernel_rfl
def I64 (x : Int) : Prop := -9223372036854775808 ≤ x ∧ x ≤ 9223372036854775807
theorem rg_of {e : Ev} (h0 : I64 (e.kd)) (h1 : I64 (e.ac)) (h2 : I64 (e.th)) (h3 : I64 (e.va)) (h4 : I64 (e.pg)) (h5 : I64 (e.pc)) (h6 : I64 (e.rs 0)) (h7 : I64 (e.rs 1)) (h8 : I64 (e.rs 2)) (h9 : I64 (e.rs 3)) (h10 : I64 (e.rs 4)) (h11 : I64 (e.rs 5)) (h12 : I64 (e.rs 6)) (h13 : I64 (e.rs 7)) (h14 : I64 (e.dp)) : RgE e := fun x hx => by
  unfold evI at hx
  simp only [List.mem_cons, List.not_mem_nil, or_false] at hx
  rcases hx with rfl | rfl | rfl | rfl | rfl | rfl | rfl | rfl | rfl | rfl | rfl | rfl | rfl | rfl | rfl <;> assumption

section
variable {H : Type} {enc : TypeId × Value → H} {W : World} {r : Reach} {b0 base : Nat} {held : Bool} {v : Value} {d : DataW H} {p : List MemPlace}

set_option maxHeartbeats 2000000 in
theorem open_evs (hv : Value.okWide Tryd.prog W r b0 34 v) (h : DataW.Trod enc Tryd.prog W base (fun _ => true) held 34 v d p) :
    ∃ (a : Option Addr) (c : Nat) (xs : List Ev), v = .slice a xs.length c ∧ EV W a xs ∧ xs.length ≤ c ∧ ∀ e ∈ xs, RgE e := by
  obtain ⟨a0, len, cap, rfl⟩ := okWide_slice Tryd.underlying34 hv
  obtain ⟨fuel, hf⟩ := h
  rcases Deep.open_slice Tryd.underlying34 hf with ⟨hcs, _⟩ | ⟨a, len', cap', m, n, D, Q, hcs, _, hl, hm, hmm, _, hcell⟩
  · simp [Value.cells] at hcs
    obtain ⟨rfl, rfl, rfl⟩ := hcs
    exact ⟨none, 0, [], rfl, fun j hj => by simp at hj, by simp, by simp⟩
  · simp [Value.cells] at hcs
    obtain ⟨rfl, rfl, rfl⟩ := hcs
    simp only [if_true] at hmm
    subst hmm
    haveI : Inhabited Ev := ⟨z15⟩
    obtain ⟨X, hX⟩ := Deep.choose_lt (α := Ev) (p := fun i x => (∀ j u, (c15 x)[j]? = some u → W.cell? (a.add (i * 15 + j)) = some u) ∧ RgE x) (fun i hi => by
      obtain ⟨cs', h1, h2⟩ := hcell i hi
      rw [cellsEv] at h1
      obtain ⟨_, hlen, hc⟩ := World.cells?_some h1
      obtain ⟨xs, k, hk, hxy, _, hxl, hf⟩ := DataW.trod_struct Tryd.underlying33 h2
      match xs, hxl, cs', hlen with
      | [y0, y1, y2, y3, y4], _, [v0, v1, v2, v3, v4, v5, v6, v7, v8, v9, v10, v11, v12, v13, v14], _ =>
        have hcc : ∀ j u, ([v0, v1, v2, v3, v4, v5, v6, v7, v8, v9, v10, v11, v12, v13, v14] : List Value)[j]? = some u → W.cell? (a.add (i * 15 + j)) = some u := fun j u hu => by
          have hj := (List.getElem?_eq_some_iff.1 hu).1
          have := hc j hj
          rw [Deep.add_add] at this
          rw [this]
          exact hu
        have g0 := hf 0 _ rfl
        have g1 := hf 1 _ rfl
        have g2 := hf 2 _ rfl
        have g3 := hf 3 _ rfl
        have g4 := hf 4 _ rfl
        simp [cells3, cellsCx] at g0 g1 g2 g3 g4
        obtain ⟨n0, k0, _, w0⟩ := DataW.trod_int Tryd.underlying3 g0
        obtain ⟨n1, k1, _, w1⟩ := DataW.trod_int Tryd.underlying3 g1
        obtain ⟨n2, k2, _, w2⟩ := DataW.trod_int Tryd.underlying3 g2
        obtain ⟨n3, k3, _, w3⟩ := DataW.trod_int Tryd.underlying3 g3
        obtain ⟨xs2, _, _, _, _, hxl2, hf2⟩ := DataW.trod_struct Tryd.underlying31 g4
        match xs2, hxl2 with
        | [z0, z1, z2, z3], _ =>
          have p0 := hf2 0 _ rfl
          have p1 := hf2 1 _ rfl
          have p2 := hf2 2 _ rfl
          have p3 := hf2 3 _ rfl
          simp [cells3, cellsa8] at p0 p1 p2 p3
          obtain ⟨n4, k4, _, w4⟩ := DataW.trod_int Tryd.underlying3 p0
          obtain ⟨n5, k5, _, w5⟩ := DataW.trod_int Tryd.underlying3 p1
          obtain ⟨n14, k14, _, w14⟩ := DataW.trod_int Tryd.underlying3 p3
          obtain ⟨zs, _, _, _, _, hzs, hall⟩ := DataW.trod_array Tryd.underlying29 p2
          rw [cells3] at hall
          match zs, hzs with
          | [y0, y1, y2, y3, y4, y5, y6, y7], _ =>
            have q0 := hall 0 (by omega)
            have q1 := hall 1 (by omega)
            have q2 := hall 2 (by omega)
            have q3 := hall 3 (by omega)
            have q4 := hall 4 (by omega)
            have q5 := hall 5 (by omega)
            have q6 := hall 6 (by omega)
            have q7 := hall 7 (by omega)
            simp at q0 q1 q2 q3 q4 q5 q6 q7
            obtain ⟨n6, k6, _, w6⟩ := DataW.trod_int Tryd.underlying3 q0
            obtain ⟨n7, k7, _, w7⟩ := DataW.trod_int Tryd.underlying3 q1
            obtain ⟨n8, k8, _, w8⟩ := DataW.trod_int Tryd.underlying3 q2
            obtain ⟨n9, k9, _, w9⟩ := DataW.trod_int Tryd.underlying3 q3
            obtain ⟨n10, k10, _, w10⟩ := DataW.trod_int Tryd.underlying3 q4
            obtain ⟨n11, k11, _, w11⟩ := DataW.trod_int Tryd.underlying3 q5
            obtain ⟨n12, k12, _, w12⟩ := DataW.trod_int Tryd.underlying3 q6
            obtain ⟨n13, k13, _, w13⟩ := DataW.trod_int Tryd.underlying3 q7
            simp at k0 k1 k2 k3 k4 k5 k6 k7 k8 k9 k10 k11 k12 k13 k14
            subst k0 k1 k2 k3 k4 k5 k6 k7 k8 k9 k10 k11 k12 k13 k14
            have b0 := bounds_i64 w0
            have b1 := bounds_i64 w1
            have b2 := bounds_i64 w2
            have b3 := bounds_i64 w3
            have b4 := bounds_i64 w4
            have b5 := bounds_i64 w5
            have b6 := bounds_i64 w6
            have b7 := bounds_i64 w7
            have b8 := bounds_i64 w8
            have b9 := bounds_i64 w9
            have b10 := bounds_i64 w10
            have b11 := bounds_i64 w11
            have b12 := bounds_i64 w12
            have b13 := bounds_i64 w13
            have b14 := bounds_i64 w14
            exact ⟨⟨n0, n1, n2, n3, n4, n5, fun j => [n6, n7, n8, n9, n10, n11, n12, n13].getD j 0, n14⟩, hcc, rg_of (show I64 n0 from ⟨by omega, by omega⟩) (show I64 n1 from ⟨by omega, by omega⟩) (show I64 n2 from ⟨by omega, by omega⟩) (show I64 n3 from ⟨by omega, by omega⟩) (show I64 n4 from ⟨by omega, by omega⟩) (show I64 n5 from ⟨by omega, by omega⟩) (show I64 n6 from ⟨by omega, by omega⟩) (show I64 n7 from ⟨by omega, by omega⟩) (show I64 n8 from ⟨by omega, by omega⟩) (show I64 n9 from ⟨by omega, by omega⟩) (show I64 n10 from ⟨by omega, by omega⟩) (show I64 n11 from ⟨by omega, by omega⟩) (show I64 n12 from ⟨by omega, by omega⟩) (show I64 n13 from ⟨by omega, by omega⟩) (show I64 n14 from ⟨by omega, by omega⟩)⟩)
    refine ⟨some a, m, (List.range len).map X, by simp, fun j hj => ?_, by simp; exact hl, fun e he => ?_⟩
    · have hj' : j < len := by simpa using hj
      have h0 := (hX j (by omega)).1
      have hc0 := (hX 0 (by omega)).1 0 _ rfl
      obtain ⟨b, off, spot⟩ := a
      have hspot : spot = none := by simpa [Addr.add] using World.cell?_spot hc0
      subst hspot
      refine ⟨b, off, rfl, fun i u hu => ?_⟩
      have e : ev ((List.range len).map X) j = X j := by
        unfold ev
        rw [List.getD_eq_getElem?_getD]
        simp [hj']
      rw [e] at hu
      have := h0 i u hu
      rw [add_plain, ← Nat.add_assoc] at this
      exact this
    · obtain ⟨i, hi, rfl⟩ := List.mem_map.1 he
      exact (hX i (by have := List.mem_range.1 hi; omega)).2

end
end Go.Proofs.YtcffmdimfmpheaaDoor
