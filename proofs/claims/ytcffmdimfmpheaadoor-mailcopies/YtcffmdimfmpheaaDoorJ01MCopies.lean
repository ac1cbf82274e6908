/- What arguments that are acts, or rows of them, look like as values. -/
/- From what the rows list of the table of kinds to what the walks ask. -/
import Derived.Test.YtcffmdimfmpheaaDoorMlActM
import Derived.Test.YtcffmdimfmpheaaDoorEOpens
import Derived.Test.YtcffmdimfmpheaaDoorKFns
import Derived.Lib.LaidTab
import Derived.OpenShut
import Derived.MakeChecks
import Derived.Stop.LaidErr
namespace Go.Proofs.YtcffmdimfmpheaaDoor
open Go Go.ChangeShapes Go.WideShapes Go.ChangeAt Go.RowKit
set_option maxRecDepth 100000

theorem cellsAct : Tryd.prog.cellsOf 36 = 18 := by kernel_rfl
theorem cellsEvs : Tryd.prog.cellsOf 34 = 1 := by kernel_rfl

section
variable {H : Type} {enc : TypeId × Value → H} {W : World} {r : Reach} {b0 base : Nat} {held : Bool} {v : Value} {d : DataW H} {p : List MemPlace}

set_option maxHeartbeats 2000000 in
theorem ev_trod {n : Nat} {cs : List Value} {x : DataW H × List MemPlace} (h : DataW.trod enc Tryd.prog W base (fun _ => true) held n 33 cs = some x) (hlen : cs.length = 15) : ∃ e : Ev, cs = c15 e := by
  obtain ⟨xs, k, hk, hxy, _, hxl, hf⟩ := DataW.trod_struct Tryd.underlying33 h
  match xs, hxl, cs, hlen with
  | [y0, y1, y2, y3, y4], _, [v0, v1, v2, v3, v4, v5, v6, v7, v8, v9, v10, v11, v12, v13, v14], _ =>
    have g0 := hf 0 _ rfl
    have g1 := hf 1 _ rfl
    have g2 := hf 2 _ rfl
    have g3 := hf 3 _ rfl
    have g4 := hf 4 _ rfl
    simp [cells3, cellsCx] at g0 g1 g2 g3 g4
    obtain ⟨n0, k0, _, w0⟩ := DataW.trod_int Tryd.underlying3 g0
    obtain ⟨n1, k1, _, w1⟩ := DataW.trod_int Tryd.underlying3 g1
    obtain ⟨n2, k2, _, w2⟩ := DataW.trod_int Tryd.underlying3 g2
    obtain ⟨n3, k3, _, w3⟩ := DataW.trod_int Tryd.underlying3 g3
    obtain ⟨xs2, _, _, _, _, hxl2, hf2⟩ := DataW.trod_struct Tryd.underlying31 g4
    match xs2, hxl2 with
    | [z0, z1, z2, z3], _ =>
      have p0 := hf2 0 _ rfl
      have p1 := hf2 1 _ rfl
      have p2 := hf2 2 _ rfl
      have p3 := hf2 3 _ rfl
      simp [cells3, cellsa8] at p0 p1 p2 p3
      obtain ⟨n4, k4, _, w4⟩ := DataW.trod_int Tryd.underlying3 p0
      obtain ⟨n5, k5, _, w5⟩ := DataW.trod_int Tryd.underlying3 p1
      obtain ⟨n14, k14, _, w14⟩ := DataW.trod_int Tryd.underlying3 p3
      obtain ⟨zs, _, _, _, _, hzs, hall⟩ := DataW.trod_array Tryd.underlying29 p2
      rw [cells3] at hall
      match zs, hzs with
      | [y0, y1, y2, y3, y4, y5, y6, y7], _ =>
        have q0 := hall 0 (by omega)
        have q1 := hall 1 (by omega)
        have q2 := hall 2 (by omega)
        have q3 := hall 3 (by omega)
        have q4 := hall 4 (by omega)
        have q5 := hall 5 (by omega)
        have q6 := hall 6 (by omega)
        have q7 := hall 7 (by omega)
        simp at q0 q1 q2 q3 q4 q5 q6 q7
        obtain ⟨n6, k6, _, w6⟩ := DataW.trod_int Tryd.underlying3 q0
        obtain ⟨n7, k7, _, w7⟩ := DataW.trod_int Tryd.underlying3 q1
        obtain ⟨n8, k8, _, w8⟩ := DataW.trod_int Tryd.underlying3 q2
        obtain ⟨n9, k9, _, w9⟩ := DataW.trod_int Tryd.underlying3 q3
        obtain ⟨n10, k10, _, w10⟩ := DataW.trod_int Tryd.underlying3 q4
        obtain ⟨n11, k11, _, w11⟩ := DataW.trod_int Tryd.underlying3 q5
        obtain ⟨n12, k12, _, w12⟩ := DataW.trod_int Tryd.underlying3 q6
        obtain ⟨n13, k13, _, w13⟩ := DataW.trod_int Tryd.underlying3 q7
        simp at k0 k1 k2 k3 k4 k5 k6 k7 k8 k9 k10 k11 k12 k13 k14
        subst k0 k1 k2 k3 k4 k5 k6 k7 k8 k9 k10 k11 k12 k13 k14
        exact ⟨⟨n0, n1, n2, n3, n4, n5, fun j => [n6, n7, n8, n9, n10, n11, n12, n13].getD j 0, n14⟩, rfl⟩
theorem evs_trod {n : Nat} {cs : List Value} {x : DataW H × List MemPlace} (h : DataW.trod enc Tryd.prog W base (fun _ => true) held n 34 cs = some x) : ∃ (a : Option Addr) (c : Nat) (xs : List Ev), cs = [.slice a xs.length c] ∧ EV W a xs ∧ xs.length ≤ c ∧ c ≤ maxLen := by
  rcases Deep.open_slice Tryd.underlying34 h with ⟨hcs, _⟩ | ⟨a, len, cap, m, n, D, Q, hcs, _, hl, hm, hmm, _, hcell⟩
  · exact ⟨none, 0, [], hcs, fun j hj => by simp at hj, by simp, by unfold maxLen; omega⟩
  · simp only [if_true] at hmm
    subst hmm
    haveI : Inhabited Ev := ⟨z15⟩
    obtain ⟨X, hX⟩ := Deep.choose_lt (α := Ev) (p := fun i x => ∀ j u, (c15 x)[j]? = some u → W.cell? (a.add (i * 15 + j)) = some u) (fun i hi => by
      obtain ⟨cs', h1, h2⟩ := hcell i hi
      rw [cellsEv] at h1
      obtain ⟨_, hlen, hc⟩ := World.cells?_some h1
      obtain ⟨e, rfl⟩ := ev_trod h2 hlen
      refine ⟨e, fun j u hu => ?_⟩
      have hj := (List.getElem?_eq_some_iff.1 hu).1
      have := hc j hj
      rw [Deep.add_add] at this
      rw [this]
      exact hu)
    refine ⟨some a, m, (List.range len).map X, by rw [hcs]; simp, fun j hj => ?_, by simp; exact hl, hm⟩
    have hj' : j < len := by simpa using hj
    have h0 := hX j (by omega)
    have hc0 := hX 0 (by omega) 0 _ rfl
    obtain ⟨b, off, spot⟩ := a
    have hspot : spot = none := by simpa [Addr.add] using World.cell?_spot hc0
    subst hspot
    refine ⟨b, off, rfl, fun i u hu => ?_⟩
    have e : ev ((List.range len).map X) j = X j := by
      unfold ev
      rw [List.getD_eq_getElem?_getD]
      simp [hj']
    rw [e] at hu
    have := h0 i u hu
    rw [add_plain, ← Nat.add_assoc] at this
    exact this
theorem act_trod {n : Nat} {cs : List Value} {x : DataW H × List MemPlace} (h : DataW.trod enc Tryd.prog W base (fun _ => true) held n 36 cs = some x) (hlen : cs.length = 18) : ∃ (t : Ac) (la : Option Addr) (lc : Nat), cs = c18 t la lc ∧ EV W la t.l ∧ t.l.length ≤ lc ∧ lc ≤ maxLen := by
  obtain ⟨xs, k, hk, hxy, _, hxl, hf⟩ := DataW.trod_struct Tryd.underlying36 h
  match xs, hxl, cs, hlen with
  | [y0, y1, y2, y3], _, [v0, v1, u0, u1, u2, u3, u4, u5, u6, u7, u8, u9, u10, u11, u12, u13, u14, v3], _ =>
    have g0 := hf 0 _ rfl
    have g1 := hf 1 _ rfl
    have g2 := hf 2 _ rfl
    have g3 := hf 3 _ rfl
    simp [cells3, cellsEv, cellsEvs] at g0 g1 g2 g3
    obtain ⟨n0, k0, _, w0⟩ := DataW.trod_int Tryd.underlying3 g0
    obtain ⟨n1, k1, _, w1⟩ := DataW.trod_int Tryd.underlying3 g1
    obtain ⟨e, he⟩ := ev_trod g2 rfl
    obtain ⟨la, lc, l, hl, hv, hc, hm⟩ := evs_trod g3
    simp at k0 k1 hl
    subst k0 k1 hl
    refine ⟨⟨n0, n1, e, l⟩, la, lc, ?_, hv, hc, hm⟩
    have : (.int .i64 n0 :: .int .i64 n1 :: ([u0, u1, u2, u3, u4, u5, u6, u7, u8, u9, u10, u11, u12, u13, u14] ++ [Value.slice la l.length lc])) = c18 ⟨n0, n1, e, l⟩ la lc := by rw [he]; rfl
    exact this
theorem open_acts (hv : Value.okWide Tryd.prog W r b0 22 v) (h : DataW.Trod enc Tryd.prog W base (fun _ => true) held 22 v d p) :
    ∃ (a : Option Addr) (c : Nat) (xs : List Ac), v = .slice a xs.length c ∧ Acts W a xs := by
  obtain ⟨a0, len, cap, rfl⟩ := okWide_slice Tryd.underlying22 hv
  obtain ⟨fuel, hf⟩ := h
  rcases Deep.open_slice Tryd.underlying22 hf with ⟨hcs, _⟩ | ⟨a, len', cap', m, n, D, Q, hcs, _, hl, hm, hmm, _, hcell⟩
  · simp [Value.cells] at hcs
    obtain ⟨rfl, rfl, rfl⟩ := hcs
    exact ⟨none, 0, [], rfl, fun j hj => by simp at hj⟩
  · simp [Value.cells] at hcs
    obtain ⟨rfl, rfl, rfl⟩ := hcs
    simp only [if_true] at hmm
    subst hmm
    haveI : Inhabited Ac := ⟨zAc⟩
    obtain ⟨X, hX⟩ := Deep.choose_lt (α := Ac) (p := fun i t => ∃ la lc, (∀ j u, (c18 t la lc)[j]? = some u → W.cell? (a.add (i * 18 + j)) = some u) ∧ EV W la t.l ∧ t.l.length ≤ lc ∧ lc ≤ maxLen) (fun i hi => by
      obtain ⟨cs', h1, h2⟩ := hcell i hi
      rw [cellsAct] at h1
      obtain ⟨_, hlen, hc⟩ := World.cells?_some h1
      obtain ⟨t, la, lc, rfl, q1, q2, q3⟩ := act_trod h2 hlen
      refine ⟨t, la, lc, fun j u hu => ?_, q1, q2, q3⟩
      have hj := (List.getElem?_eq_some_iff.1 hu).1
      have := hc j hj
      rw [Deep.add_add] at this
      rw [this]
      exact hu)
    refine ⟨some a, m, (List.range len).map X, by simp, fun j hj => ?_⟩
    have hj' : j < len := by simpa using hj
    obtain ⟨la, lc, h0, q1, q2, q3⟩ := hX j (by omega)
    obtain ⟨_, _, h00, _⟩ := hX 0 (by omega)
    have hc0 := h00 0 _ rfl
    obtain ⟨b, off, spot⟩ := a
    have hspot : spot = none := by simpa [Addr.add] using World.cell?_spot hc0
    subst hspot
    have e : ac ((List.range len).map X) j = X j := by
      unfold ac
      rw [List.getD_eq_getElem?_getD]
      simp [hj']
    refine ⟨b, off, rfl, ?_⟩
    rw [e]
    refine ⟨la, lc, fun i u hu => ?_, q1, q2, q3⟩
    have := h0 i u hu
    rw [add_plain, ← Nat.add_assoc] at this
    exact this
theorem open_act (hv : Value.okWide Tryd.prog W r b0 36 v) (h : DataW.Trod enc Tryd.prog W base (fun _ => true) held 36 v d p) :
    ∃ (t : Ac) (la : Option Addr) (lc : Nat), v = .agg (c18 t la lc).toArray ∧ EV W la t.l ∧ t.l.length ≤ lc ∧ lc ≤ maxLen := by
  simp only [Value.okWide, Tryd.underlying36] at hv
  obtain ⟨cs, rfl, hsz, _⟩ := hv
  rw [cellsAct] at hsz
  obtain ⟨fuel, hf⟩ := h
  obtain ⟨l⟩ := cs
  obtain ⟨t, la, lc, e, q1, q2, q3⟩ := act_trod (cs := l) (by simpa [Value.cells] using hf) (by simpa using hsz)
  subst e
  exact ⟨t, la, lc, rfl, q1, q2, q3⟩
end
end Go.Proofs.YtcffmdimfmpheaaDoor
namespace Go.Proofs.YtcffmdimfmpheaaDoor
open Go Go.RowKit

theorem tab_global : Tryd.prog.globalNamed "wherry/event.kinds" = some 0 := by kernel_rfl
theorem tab_type : (Tryd.prog.globals[0]?).map (·.type) = some 86 := by kernel_rfl
def rowD (k : Nat) : DataW Unit := .agg [.lit (.string (nmK k)), .agg [.lit (.int .i64 (aLo k)), .lit (.int .i64 (aHi k))], .agg [.lit (.int .i64 (tLo k)), .lit (.int .i64 (tHi k))], .agg [.lit (.int .i64 0), .lit (.int .i64 (vHi k))], .lit (.bool (cxK k))]
theorem tab_datum : Rows.laid_wherry_event_kinds (H := Unit) = .agg ((List.range 8).map rowD) := by kernel_rfl
theorem cells_row : Tryd.prog.cellsOf 85 = 8 := by kernel_rfl
theorem cells_span : Tryd.prog.cellsOf 83 = 2 := by kernel_rfl
theorem cells_str : Tryd.prog.cellsOf 9 = 1 := by kernel_rfl
theorem cells_int : Tryd.prog.cellsOf 3 = 1 := by kernel_rfl
theorem cells_bool : Tryd.prog.cellsOf 4 = 1 := by kernel_rfl

theorem str_eq {s : ByteArray} {l : List UInt8} (h : s.data.toList = l) : s = ⟨l.toArray⟩ := by
  obtain ⟨d⟩ := s
  subst h
  simp

section
variable {W : World} {m off : Nat} {row : List Value} {z : DataW Unit × List MemPlace}
theorem int_cell {a : Int} (h : DataW.trod (fun _ => ()) Tryd.prog W 0 (fun _ => true) false m 3 (List.take 1 (List.drop off row)) = some z) (hz : z.1 = .lit (.int .i64 a)) : row[off]? = some (.int .i64 a) := by
  obtain ⟨n, e, x, _⟩ := DataW.trod_int Tryd.underlying3 h
  rw [x] at hz
  simp only [DataW.lit.injEq, Lit.int.injEq, true_and] at hz
  subst hz
  have g := congrArg (fun l => l[0]?) e
  simpa [List.getElem?_drop] using g
theorem bool_cell {b : Bool} (h : DataW.trod (fun _ => ()) Tryd.prog W 0 (fun _ => true) false m 4 (List.take 1 (List.drop off row)) = some z) (hz : z.1 = .lit (.bool b)) : row[off]? = some (.bool b) := by
  obtain ⟨n, e, x⟩ := DataW.trod_bool Tryd.underlying4 h
  rw [x] at hz
  simp only [DataW.lit.injEq, Lit.bool.injEq] at hz
  subst hz
  have g := congrArg (fun l => l[0]?) e
  simpa [List.getElem?_drop] using g
theorem str_cell {l : List UInt8} (h : DataW.trod (fun _ => ()) Tryd.prog W 0 (fun _ => true) false m 9 (List.take 1 (List.drop off row)) = some z) (hz : z.1 = .lit (.string l)) : row[off]? = some (.string ⟨l.toArray⟩) := by
  obtain ⟨n, e, x, _⟩ := DataW.trod_string Tryd.underlying9 h
  rw [x] at hz
  simp only [DataW.lit.injEq, Lit.string.injEq] at hz
  rw [str_eq hz] at e
  have g := congrArg (fun l => l[0]?) e
  simpa [List.getElem?_drop] using g
theorem span_cell {a b : Int} (h : DataW.trod (fun _ => ()) Tryd.prog W 0 (fun _ => true) false m 83 (List.take 2 (List.drop off row)) = some z) (hz : z.1 = .agg [.lit (.int .i64 a), .lit (.int .i64 b)]) : row[off]? = some (.int .i64 a) ∧ row[off + 1]? = some (.int .i64 b) := by
  obtain ⟨zs, m2, _, hz2, hcl, hzl, hf⟩ := DataW.trod_struct Tryd.underlying83 h
  rw [hz2] at hz
  simp only [DataW.agg.injEq] at hz
  match zs, hzl with
  | [z0, z1], _ =>
    have f0 : DataW.trod (fun _ => ()) Tryd.prog W 0 (fun _ => true) false m2 3 (List.take (Tryd.prog.cellsOf 3) (List.drop 0 (List.take 2 (List.drop off row)))) = some z0 := hf 0 _ rfl
    have f1 : DataW.trod (fun _ => ()) Tryd.prog W 0 (fun _ => true) false m2 3 (List.take (Tryd.prog.cellsOf 3) (List.drop 1 (List.take 2 (List.drop off row)))) = some z1 := hf 1 _ rfl
    simp only [List.map_cons, List.map_nil, List.cons.injEq, and_true] at hz
    have g0 := int_cell (off := 0) (row := List.take 2 (List.drop off row)) (by rw [cells_int] at f0; exact f0) hz.1
    have g1 := int_cell (off := 1) (row := List.take 2 (List.drop off row)) (by rw [cells_int] at f1; exact f1) hz.2
    simp [List.getElem?_drop] at g0 g1
    exact ⟨g0, g1⟩
end
set_option maxHeartbeats 1000000 in
theorem tab_of {W : World} {rest : List (String × DataW Unit)} (h : laidMet Tryd.prog (("wherry/event.kinds", Rows.laid_wherry_event_kinds) :: rest) W) : Tab W := by
  obtain ⟨ps, ⟨g', t', cs, fuel, p, q, hg', ht', hvar, hd, _, _⟩, _⟩ := h
  obtain rfl := Option.some.inj (tab_global.symm.trans hg')
  obtain rfl := Option.some.inj (tab_type.symm.trans ht')
  rw [tab_datum] at hd
  obtain ⟨xs, m, rfl, hx, hl, hxl, hall⟩ := DataW.trod_array Tryd.underlying86 hd
  simp only [Prod.mk.injEq, DataW.agg.injEq] at hx
  have key : ∀ k, k < 8 → ∀ j v, (rowK k)[j]? = some v → cs[k * 8 + j]? = some v := by
    intro k hk
    have h1 := hall k hk
    rw [cells_row] at h1
    have hxk : xs[k]? = some xs[k] := by simp
    have hy : xs[k].1 = rowD k := by
      have := congrArg (fun l => l[k]?) hx.1
      simp only [List.getElem?_map, List.getElem?_range hk, hxk, Option.map_some, Option.some.injEq] at this
      exact this.symm
    rw [hxk] at h1
    obtain ⟨zs, m2, _, hz, hcl, hzl, hf⟩ := DataW.trod_struct Tryd.underlying85 h1
    rw [hz] at hy
    unfold rowD at hy
    simp only [DataW.agg.injEq] at hy
    match zs, hzl with
    | [z0, z1, z2, z3, z4], _ =>
      have f0 : DataW.trod (fun _ => ()) Tryd.prog W 0 (fun _ => true) false m2 9 (List.take (Tryd.prog.cellsOf 9) (List.drop 0 (List.take 8 (List.drop (k * 8) cs.toList)))) = some z0 := hf 0 _ rfl
      have f1 : DataW.trod (fun _ => ()) Tryd.prog W 0 (fun _ => true) false m2 83 (List.take (Tryd.prog.cellsOf 83) (List.drop 1 (List.take 8 (List.drop (k * 8) cs.toList)))) = some z1 := hf 1 _ rfl
      have f2 : DataW.trod (fun _ => ()) Tryd.prog W 0 (fun _ => true) false m2 83 (List.take (Tryd.prog.cellsOf 83) (List.drop 3 (List.take 8 (List.drop (k * 8) cs.toList)))) = some z2 := hf 2 _ rfl
      have f3 : DataW.trod (fun _ => ()) Tryd.prog W 0 (fun _ => true) false m2 83 (List.take (Tryd.prog.cellsOf 83) (List.drop 5 (List.take 8 (List.drop (k * 8) cs.toList)))) = some z3 := hf 3 _ rfl
      have f4 : DataW.trod (fun _ => ()) Tryd.prog W 0 (fun _ => true) false m2 4 (List.take (Tryd.prog.cellsOf 4) (List.drop 7 (List.take 8 (List.drop (k * 8) cs.toList)))) = some z4 := hf 4 _ rfl
      simp only [List.map_cons, List.map_nil, List.cons.injEq, and_true] at hy
      obtain ⟨y0, y1, y2, y3, y4⟩ := hy
      have s0 := str_cell (off := 0) (row := List.take 8 (List.drop (k * 8) cs.toList)) (by rw [cells_str] at f0; exact f0) y0
      have s1 := span_cell (off := 1) (row := List.take 8 (List.drop (k * 8) cs.toList)) (by rw [cells_span] at f1; exact f1) y1
      have s2 := span_cell (off := 3) (row := List.take 8 (List.drop (k * 8) cs.toList)) (by rw [cells_span] at f2; exact f2) y2
      have s3 := span_cell (off := 5) (row := List.take 8 (List.drop (k * 8) cs.toList)) (by rw [cells_span] at f3; exact f3) y3
      have s4 := bool_cell (off := 7) (row := List.take 8 (List.drop (k * 8) cs.toList)) (by rw [cells_bool] at f4; exact f4) y4
      have lift : ∀ j v, (List.take 8 (List.drop (k * 8) cs.toList))[j]? = some v → cs[k * 8 + j]? = some v := fun j v hv => by
        by_cases hj : j < 8
        · rw [List.getElem?_take_of_lt hj, List.getElem?_drop] at hv
          simpa using hv
        · rw [List.getElem?_eq_none (by rw [List.length_take]; omega)] at hv
          cases hv
      intro j v hv
      refine lift j v ?_
      unfold rowK at hv
      match j, hv with
      | 0, hv => cases hv; exact s0
      | 1, hv => cases hv; exact s1.1
      | 2, hv => cases hv; exact s1.2
      | 3, hv => cases hv; exact s2.1
      | 4, hv => cases hv; exact s2.2
      | 5, hv => cases hv; exact s3.1
      | 6, hv => cases hv; exact s3.2
      | 7, hv => cases hv; exact s4
      | n + 8, hv => simp at hv
  have cell : ∀ j v, cs[j]? = some v → W.cell? ⟨0, j, none⟩ = some v := fun j v hv => by
    rw [World.var?_cell tab_global hvar j]
    simpa using hv
  refine ⟨?_, fun k hk j v hv => cell _ _ (key k hk j v hv)⟩
  have h0 := cell (0 * 8 + 0) _ (key 0 (by decide) 0 _ rfl)
  apply Nat.lt_of_not_le
  intro hle
  simp [World.cell?, Array.getElem?_eq_none hle] at h0
end Go.Proofs.YtcffmdimfmpheaaDoor
