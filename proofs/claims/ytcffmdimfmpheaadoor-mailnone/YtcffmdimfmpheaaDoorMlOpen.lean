/- What arguments that are acts, or rows of them, look like as values. -/
import Derived.Test.YtcffmdimfmpheaaDoorMlActM
import Derived.Test.YtcffmdimfmpheaaDoorEOpens
namespace Go.Proofs.YtcffmdimfmpheaaDoor
open Go Go.ChangeShapes Go.WideShapes Go.ChangeAt Go.RowKit
set_option maxRecDepth 100000

theorem cellsAct : Tryd.prog.cellsOf 36 = 18 := by kernel_rfl
theorem cellsEvs : Tryd.prog.cellsOf 34 = 1 := by kernel_rfl

section
variable {H : Type} {enc : TypeId × Value → H} {W : World} {r : Reach} {b0 base : Nat} {held : Bool} {v : Value} {d : DataW H} {p : List MemPlace}

set_option maxHeartbeats 2000000 in
theorem ev_trod {n : Nat} {cs : List Value} {x : DataW H × List MemPlace} (h : DataW.trod enc Tryd.prog W base (fun _ => true) held n 33 cs = some x) (hlen : cs.length = 15) : ∃ e : Ev, cs = c15 e := by
  obtain ⟨xs, k, hk, hxy, _, hxl, hf⟩ := DataW.trod_struct Tryd.underlying33 h
  match xs, hxl, cs, hlen with
  | [y0, y1, y2, y3, y4], _, [v0, v1, v2, v3, v4, v5, v6, v7, v8, v9, v10, v11, v12, v13, v14], _ =>
    have g0 := hf 0 _ rfl
    have g1 := hf 1 _ rfl
    have g2 := hf 2 _ rfl
    have g3 := hf 3 _ rfl
    have g4 := hf 4 _ rfl
    simp [cells3, cellsCx] at g0 g1 g2 g3 g4
    obtain ⟨n0, k0, _, w0⟩ := DataW.trod_int Tryd.underlying3 g0
    obtain ⟨n1, k1, _, w1⟩ := DataW.trod_int Tryd.underlying3 g1
    obtain ⟨n2, k2, _, w2⟩ := DataW.trod_int Tryd.underlying3 g2
    obtain ⟨n3, k3, _, w3⟩ := DataW.trod_int Tryd.underlying3 g3
    obtain ⟨xs2, _, _, _, _, hxl2, hf2⟩ := DataW.trod_struct Tryd.underlying31 g4
    match xs2, hxl2 with
    | [z0, z1, z2, z3], _ =>
      have p0 := hf2 0 _ rfl
      have p1 := hf2 1 _ rfl
      have p2 := hf2 2 _ rfl
      have p3 := hf2 3 _ rfl
      simp [cells3, cellsa8] at p0 p1 p2 p3
      obtain ⟨n4, k4, _, w4⟩ := DataW.trod_int Tryd.underlying3 p0
      obtain ⟨n5, k5, _, w5⟩ := DataW.trod_int Tryd.underlying3 p1
      obtain ⟨n14, k14, _, w14⟩ := DataW.trod_int Tryd.underlying3 p3
      obtain ⟨zs, _, _, _, _, hzs, hall⟩ := DataW.trod_array Tryd.underlying29 p2
      rw [cells3] at hall
      match zs, hzs with
      | [y0, y1, y2, y3, y4, y5, y6, y7], _ =>
        have q0 := hall 0 (by omega)
        have q1 := hall 1 (by omega)
        have q2 := hall 2 (by omega)
        have q3 := hall 3 (by omega)
        have q4 := hall 4 (by omega)
        have q5 := hall 5 (by omega)
        have q6 := hall 6 (by omega)
        have q7 := hall 7 (by omega)
        simp at q0 q1 q2 q3 q4 q5 q6 q7
        obtain ⟨n6, k6, _, w6⟩ := DataW.trod_int Tryd.underlying3 q0
        obtain ⟨n7, k7, _, w7⟩ := DataW.trod_int Tryd.underlying3 q1
        obtain ⟨n8, k8, _, w8⟩ := DataW.trod_int Tryd.underlying3 q2
        obtain ⟨n9, k9, _, w9⟩ := DataW.trod_int Tryd.underlying3 q3
        obtain ⟨n10, k10, _, w10⟩ := DataW.trod_int Tryd.underlying3 q4
        obtain ⟨n11, k11, _, w11⟩ := DataW.trod_int Tryd.underlying3 q5
        obtain ⟨n12, k12, _, w12⟩ := DataW.trod_int Tryd.underlying3 q6
        obtain ⟨n13, k13, _, w13⟩ := DataW.trod_int Tryd.underlying3 q7
        simp at k0 k1 k2 k3 k4 k5 k6 k7 k8 k9 k10 k11 k12 k13 k14
        subst k0 k1 k2 k3 k4 k5 k6 k7 k8 k9 k10 k11 k12 k13 k14
        exact ⟨⟨n0, n1, n2, n3, n4, n5, fun j => [n6, n7, n8, n9, n10, n11, n12, n13].getD j 0, n14⟩, rfl⟩
theorem evs_trod {n : Nat} {cs : List Value} {x : DataW H × List MemPlace} (h : DataW.trod enc Tryd.prog W base (fun _ => true) held n 34 cs = some x) : ∃ (a : Option Addr) (c : Nat) (xs : List Ev), cs = [.slice a xs.length c] ∧ EV W a xs ∧ xs.length ≤ c ∧ c ≤ maxLen := by
  rcases Deep.open_slice Tryd.underlying34 h with ⟨hcs, _⟩ | ⟨a, len, cap, m, n, D, Q, hcs, _, hl, hm, hmm, _, hcell⟩
  · exact ⟨none, 0, [], hcs, fun j hj => by simp at hj, by simp, by unfold maxLen; omega⟩
  · simp only [if_true] at hmm
    subst hmm
    haveI : Inhabited Ev := ⟨z15⟩
    obtain ⟨X, hX⟩ := Deep.choose_lt (α := Ev) (p := fun i x => ∀ j u, (c15 x)[j]? = some u → W.cell? (a.add (i * 15 + j)) = some u) (fun i hi => by
      obtain ⟨cs', h1, h2⟩ := hcell i hi
      rw [cellsEv] at h1
      obtain ⟨_, hlen, hc⟩ := World.cells?_some h1
      obtain ⟨e, rfl⟩ := ev_trod h2 hlen
      refine ⟨e, fun j u hu => ?_⟩
      have hj := (List.getElem?_eq_some_iff.1 hu).1
      have := hc j hj
      rw [Deep.add_add] at this
      rw [this]
      exact hu)
    refine ⟨some a, m, (List.range len).map X, by rw [hcs]; simp, fun j hj => ?_, by simp; exact hl, hm⟩
    have hj' : j < len := by simpa using hj
    have h0 := hX j (by omega)
    have hc0 := hX 0 (by omega) 0 _ rfl
    obtain ⟨b, off, spot⟩ := a
    have hspot : spot = none := by simpa [Addr.add] using World.cell?_spot hc0
    subst hspot
    refine ⟨b, off, rfl, fun i u hu => ?_⟩
    have e : ev ((List.range len).map X) j = X j := by
      unfold ev
      rw [List.getD_eq_getElem?_getD]
      simp [hj']
    rw [e] at hu
    have := h0 i u hu
    rw [add_plain, ← Nat.add_assoc] at this
    exact this
theorem act_trod {n : Nat} {cs : List Value} {x : DataW H × List MemPlace} (h : DataW.trod enc Tryd.prog W base (fun _ => true) held n 36 cs = some x) (hlen : cs.length = 18) : ∃ (t : Ac) (la : Option Addr) (lc : Nat), cs = c18 t la lc ∧ EV W la t.l ∧ t.l.length ≤ lc ∧ lc ≤ maxLen := by
  obtain ⟨xs, k, hk, hxy, _, hxl, hf⟩ := DataW.trod_struct Tryd.underlying36 h
  match xs, hxl, cs, hlen with
  | [y0, y1, y2, y3], _, [v0, v1, u0, u1, u2, u3, u4, u5, u6, u7, u8, u9, u10, u11, u12, u13, u14, v3], _ =>
    have g0 := hf 0 _ rfl
    have g1 := hf 1 _ rfl
    have g2 := hf 2 _ rfl
    have g3 := hf 3 _ rfl
    simp [cells3, cellsEv, cellsEvs] at g0 g1 g2 g3
    obtain ⟨n0, k0, _, w0⟩ := DataW.trod_int Tryd.underlying3 g0
    obtain ⟨n1, k1, _, w1⟩ := DataW.trod_int Tryd.underlying3 g1
    obtain ⟨e, he⟩ := ev_trod g2 rfl
    obtain ⟨la, lc, l, hl, hv, hc, hm⟩ := evs_trod g3
    simp at k0 k1 hl
    subst k0 k1 hl
    refine ⟨⟨n0, n1, e, l⟩, la, lc, ?_, hv, hc, hm⟩
    have : (.int .i64 n0 :: .int .i64 n1 :: ([u0, u1, u2, u3, u4, u5, u6, u7, u8, u9, u10, u11, u12, u13, u14] ++ [Value.slice la l.length lc])) = c18 ⟨n0, n1, e, l⟩ la lc := by rw [he]; rfl
    exact this
theorem open_acts (hv : Value.okWide Tryd.prog W r b0 22 v) (h : DataW.Trod enc Tryd.prog W base (fun _ => true) held 22 v d p) :
    ∃ (a : Option Addr) (c : Nat) (xs : List Ac), v = .slice a xs.length c ∧ Acts W a xs := by
  obtain ⟨a0, len, cap, rfl⟩ := okWide_slice Tryd.underlying22 hv
  obtain ⟨fuel, hf⟩ := h
  rcases Deep.open_slice Tryd.underlying22 hf with ⟨hcs, _⟩ | ⟨a, len', cap', m, n, D, Q, hcs, _, hl, hm, hmm, _, hcell⟩
  · simp [Value.cells] at hcs
    obtain ⟨rfl, rfl, rfl⟩ := hcs
    exact ⟨none, 0, [], rfl, fun j hj => by simp at hj⟩
  · simp [Value.cells] at hcs
    obtain ⟨rfl, rfl, rfl⟩ := hcs
    simp only [if_true] at hmm
    subst hmm
    haveI : Inhabited Ac := ⟨zAc⟩
    obtain ⟨X, hX⟩ := Deep.choose_lt (α := Ac) (p := fun i t => ∃ la lc, (∀ j u, (c18 t la lc)[j]? = some u → W.cell? (a.add (i * 18 + j)) = some u) ∧ EV W la t.l ∧ t.l.length ≤ lc ∧ lc ≤ maxLen) (fun i hi => by
      obtain ⟨cs', h1, h2⟩ := hcell i hi
      rw [cellsAct] at h1
      obtain ⟨_, hlen, hc⟩ := World.cells?_some h1
      obtain ⟨t, la, lc, rfl, q1, q2, q3⟩ := act_trod h2 hlen
      refine ⟨t, la, lc, fun j u hu => ?_, q1, q2, q3⟩
      have hj := (List.getElem?_eq_some_iff.1 hu).1
      have := hc j hj
      rw [Deep.add_add] at this
      rw [this]
      exact hu)
    refine ⟨some a, m, (List.range len).map X, by simp, fun j hj => ?_⟩
    have hj' : j < len := by simpa using hj
    obtain ⟨la, lc, h0, q1, q2, q3⟩ := hX j (by omega)
    obtain ⟨_, _, h00, _⟩ := hX 0 (by omega)
    have hc0 := h00 0 _ rfl
    obtain ⟨b, off, spot⟩ := a
    have hspot : spot = none := by simpa [Addr.add] using World.cell?_spot hc0
    subst hspot
    have e : ac ((List.range len).map X) j = X j := by
      unfold ac
      rw [List.getD_eq_getElem?_getD]
      simp [hj']
    refine ⟨b, off, rfl, ?_⟩
    rw [e]
    refine ⟨la, lc, fun i u hu => ?_, q1, q2, q3⟩
    have := h0 i u hu
    rw [add_plain, ← Nat.add_assoc] at this
    exact this
theorem open_act (hv : Value.okWide Tryd.prog W r b0 36 v) (h : DataW.Trod enc Tryd.prog W base (fun _ => true) held 36 v d p) :
    ∃ (t : Ac) (la : Option Addr) (lc : Nat), v = .agg (c18 t la lc).toArray ∧ EV W la t.l ∧ t.l.length ≤ lc ∧ lc ≤ maxLen := by
  simp only [Value.okWide, Tryd.underlying36] at hv
  obtain ⟨cs, rfl, hsz, _⟩ := hv
  rw [cellsAct] at hsz
  obtain ⟨fuel, hf⟩ := h
  obtain ⟨l⟩ := cs
  obtain ⟨t, la, lc, e, q1, q2, q3⟩ := act_trod (cs := l) (by simpa [Value.cells] using hf) (by simpa using hsz)
  subst e
  exact ⟨t, la, lc, rfl, q1, q2, q3⟩
end
end Go.Proofs.YtcffmdimfmpheaaDoor
