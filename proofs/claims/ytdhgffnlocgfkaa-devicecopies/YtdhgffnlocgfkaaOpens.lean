/- What arguments that are acts, slices of acts, of requests and of ints look like as values. -/
import Derived.Test.YtdhgffnlocgfkaaMem
import Derived.ProofKit
import Derived.OpenShut
import Derived.ChangeSlices
import Derived.Deep.Grids
import Derived.Deep.SlicePairs
namespace Go.Proofs.Ytdhgffnlocgfkaa
open Go Go.ChangeShapes Go.WideShapes Go.ChangeAt Go.RowKit
set_option maxRecDepth 100000

theorem cells3 : Try.prog.cellsOf 3 = 1 := by kernel_rfl
theorem cells29 : Try.prog.cellsOf 29 = 5 := by kernel_rfl
theorem cells31 : Try.prog.cellsOf 31 = 7 := by kernel_rfl

/-- An act: its kind, its number, its request. -/
abbrev Ac := Int × Int × Rq
def zA : Ac := (0, 0, z5)
def ac (xs : List Ac) (i : Nat) : Ac := xs.getD i zA
/-- Seven cells that are an act's. -/
def At7 (w : World) (b o : Nat) (x : Ac) : Prop := w.cell? ⟨b, o, none⟩ = some (.int .i64 x.1) ∧ w.cell? ⟨b, o + 1, none⟩ = some (.int .i64 x.2.1) ∧ w.cell? ⟨b, o + 2, none⟩ = some (.int .i64 x.2.2.1) ∧ w.cell? ⟨b, o + 3, none⟩ = some (.int .i64 x.2.2.2.1) ∧ w.cell? ⟨b, o + 4, none⟩ = some (.int .i64 x.2.2.2.2.1) ∧ w.cell? ⟨b, o + 5, none⟩ = some (.int .i64 x.2.2.2.2.2.1) ∧ w.cell? ⟨b, o + 6, none⟩ = some (.int .i64 x.2.2.2.2.2.2)
theorem At7.below {w w' : World} {b o : Nat} {x : Ac} (h : At7 w b o x) (hb : Below w.heap.size w w') : At7 w' b o x := ⟨cell_on hb h.1, cell_on hb h.2.1, cell_on hb h.2.2.1, cell_on hb h.2.2.2.1, cell_on hb h.2.2.2.2.1, cell_on hb h.2.2.2.2.2.1, cell_on hb h.2.2.2.2.2.2⟩
theorem At7.but {S : List Nat} {w w' : World} {b o : Nat} {x : Ac} (h : At7 w b o x) (hb : But S w w') (hS : b ∉ S) : At7 w' b o x := ⟨hb.cell' h.1 hS, hb.cell' h.2.1 hS, hb.cell' h.2.2.1 hS, hb.cell' h.2.2.2.1 hS, hb.cell' h.2.2.2.2.1 hS, hb.cell' h.2.2.2.2.2.1 hS, hb.cell' h.2.2.2.2.2.2 hS⟩
/-- A slice of acts lies in memory; one of ints. -/
def Acts (w : World) (a : Option Addr) (xs : List Ac) : Prop := ∀ j, j < xs.length → ∃ b o, a = some ⟨b, o, none⟩ ∧ At7 w b (o + j * 7) (ac xs j)
theorem Acts.below {w w' : World} {a : Option Addr} {xs : List Ac} (h : Acts w a xs) (hb : Below w.heap.size w w') : Acts w' a xs := fun j hj => by
  obtain ⟨b, o, e, h0⟩ := h j hj
  exact ⟨b, o, e, h0.below hb⟩
def ix (xs : List Int) (i : Nat) : Int := xs.getD i 0
def IX (w : World) (a : Option Addr) (xs : List Int) : Prop := ∀ j, j < xs.length → ∃ b o, a = some ⟨b, o, none⟩ ∧ w.cell? ⟨b, o + j, none⟩ = some (.int .i64 (ix xs j))
theorem IX.below {w w' : World} {a : Option Addr} {xs : List Int} (h : IX w a xs) (hb : Below w.heap.size w w') : IX w' a xs := fun j hj => by
  obtain ⟨b, o, e, h0⟩ := h j hj
  exact ⟨b, o, e, cell_on hb h0⟩

section
variable {H : Type} {enc : TypeId × Value → H} {W : World} {r : Reach} {b0 base : Nat} {held : Bool} {v : Value} {d : DataW H} {p : List MemPlace}

theorem open_act (hv : Value.okWide Try.prog W r b0 31 v) (h : DataW.Trod enc Try.prog W base (fun _ => true) held 31 v d p) :
    ∃ x0 x1 x2 x3 x4 x5 x6 : Int, v = .agg #[.int .i64 x0, .int .i64 x1, .int .i64 x2, .int .i64 x3, .int .i64 x4, .int .i64 x5, .int .i64 x6] := by
  obtain ⟨cs, rfl, hsz⟩ := okWide_struct Try.underlying31 hv
  rw [cells31] at hsz
  obtain ⟨fuel, hf⟩ := h
  obtain ⟨xs, m, _, _, _, hxs, hall⟩ := DataW.trod_struct Try.underlying31 hf
  obtain ⟨l⟩ := cs
  match l, hsz with
  | [c0, c1, c2, c3, c4, c5, c6], _ =>
    have g0 := hall 0 _ rfl
    have g1 := hall 1 _ rfl
    have g2 := hall 2 _ rfl
    match xs, hxs with
    | [y0, y1, y2], _ =>
      simp [Value.cells, cells3, cells29] at g0 g1 g2
      obtain ⟨n0, e0, _, _⟩ := DataW.trod_int Try.underlying3 g0
      obtain ⟨n1, e1, _, _⟩ := DataW.trod_int Try.underlying3 g1
      obtain ⟨zs, m2, _, _, _, hzs, hal2⟩ := DataW.trod_struct Try.underlying29 g2
      match zs, hzs with
      | [q0, q1, q2, q3, q4], _ =>
        have k0 := hal2 0 _ rfl
        have k1 := hal2 1 _ rfl
        have k2 := hal2 2 _ rfl
        have k3 := hal2 3 _ rfl
        have k4 := hal2 4 _ rfl
        simp [cells3] at k0 k1 k2 k3 k4
        obtain ⟨n2, e2, _, _⟩ := DataW.trod_int Try.underlying3 k0
        obtain ⟨n3, e3, _, _⟩ := DataW.trod_int Try.underlying3 k1
        obtain ⟨n4, e4, _, _⟩ := DataW.trod_int Try.underlying3 k2
        obtain ⟨n5, e5, _, _⟩ := DataW.trod_int Try.underlying3 k3
        obtain ⟨n6, e6, _, _⟩ := DataW.trod_int Try.underlying3 k4
        simp at e0 e1 e2 e3 e4 e5 e6
        subst e0 e1 e2 e3 e4 e5 e6
        exact ⟨n0, n1, n2, n3, n4, n5, n6, rfl⟩

theorem open_al (hv : Value.okWide Try.prog W r b0 22 v) (h : DataW.Trod enc Try.prog W base (fun _ => true) held 22 v d p) :
    ∃ (a : Option Addr) (c : Nat) (xs : List Ac), v = .slice a xs.length c ∧ Acts W a xs := by
  obtain ⟨a0, len, cap, rfl⟩ := okWide_slice Try.underlying22 hv
  obtain ⟨fuel, hf⟩ := h
  rcases Deep.open_slice Try.underlying22 hf with ⟨hcs, _⟩ | ⟨a, len', cap', m, n, D, Q, hcs, _, hl, hm, hmm, _, hcell⟩
  · simp [Value.cells] at hcs
    obtain ⟨rfl, rfl, rfl⟩ := hcs
    exact ⟨none, 0, [], rfl, fun j hj => by simp at hj⟩
  · simp [Value.cells] at hcs
    obtain ⟨rfl, rfl, rfl⟩ := hcs
    simp only [if_true] at hmm
    subst hmm
    obtain ⟨X, hX⟩ := Deep.choose_lt (α := Ac) (p := fun i x => W.cell? (a.add (i * 7)) = some (.int .i64 x.1) ∧ W.cell? (a.add (i * 7 + 1)) = some (.int .i64 x.2.1) ∧ W.cell? (a.add (i * 7 + 2)) = some (.int .i64 x.2.2.1) ∧ W.cell? (a.add (i * 7 + 3)) = some (.int .i64 x.2.2.2.1) ∧ W.cell? (a.add (i * 7 + 4)) = some (.int .i64 x.2.2.2.2.1) ∧ W.cell? (a.add (i * 7 + 5)) = some (.int .i64 x.2.2.2.2.2.1) ∧ W.cell? (a.add (i * 7 + 6)) = some (.int .i64 x.2.2.2.2.2.2)) (fun i hi => by
      obtain ⟨cs', h1, h2⟩ := hcell i hi
      rw [cells31] at h1
      obtain ⟨_, hlen, hc⟩ := World.cells?_some h1
      obtain ⟨xs, k, hk, hxy, _, hxl, hf⟩ := DataW.trod_struct Try.underlying31 h2
      match xs, hxl, cs', hlen with
      | [y0, y1, y2], _, [v0, v1, v2, v3, v4, v5, v6], _ =>
        have g0 := hf 0 _ rfl
        have g1 := hf 1 _ rfl
        have g2 := hf 2 _ rfl
        simp [cells3, cells29] at g0 g1 g2
        have e0 := hc 0 (by omega)
        have e1 := hc 1 (by omega)
        have e2 := hc 2 (by omega)
        have e3 := hc 3 (by omega)
        have e4 := hc 4 (by omega)
        have e5 := hc 5 (by omega)
        have e6 := hc 6 (by omega)
        rw [Deep.add_add] at e0 e1 e2 e3 e4 e5 e6
        obtain ⟨n0, k0, _, _⟩ := DataW.trod_int Try.underlying3 g0
        obtain ⟨n1, k1, _, _⟩ := DataW.trod_int Try.underlying3 g1
        obtain ⟨zs, m2, _, _, _, hzs, hal2⟩ := DataW.trod_struct Try.underlying29 g2
        match zs, hzs with
        | [q0, q1, q2, q3, q4], _ =>
          have t0 := hal2 0 _ rfl
          have t1 := hal2 1 _ rfl
          have t2 := hal2 2 _ rfl
          have t3 := hal2 3 _ rfl
          have t4 := hal2 4 _ rfl
          simp [cells3] at t0 t1 t2 t3 t4
          obtain ⟨n2, k2, _, _⟩ := DataW.trod_int Try.underlying3 t0
          obtain ⟨n3, k3, _, _⟩ := DataW.trod_int Try.underlying3 t1
          obtain ⟨n4, k4, _, _⟩ := DataW.trod_int Try.underlying3 t2
          obtain ⟨n5, k5, _, _⟩ := DataW.trod_int Try.underlying3 t3
          obtain ⟨n6, k6, _, _⟩ := DataW.trod_int Try.underlying3 t4
          simp at k0 k1 k2 k3 k4 k5 k6
          subst k0 k1 k2 k3 k4 k5 k6
          exact ⟨(n0, n1, n2, n3, n4, n5, n6), by simpa using e0, by simpa using e1, by simpa using e2, by simpa using e3, by simpa using e4, by simpa using e5, by simpa using e6⟩)
    refine ⟨some a, m, (List.range len).map X, by simp, fun j hj => ?_⟩
    have hj' : j < len := by simpa using hj
    obtain ⟨h0, h1, h2, h3, h4, h5, h6⟩ := hX j (by omega)
    obtain ⟨hc0, _⟩ := hX 0 (by omega)
    obtain ⟨b, off, spot⟩ := a
    have hspot : spot = none := by simpa [Addr.add] using World.cell?_spot hc0
    subst hspot
    refine ⟨b, off, rfl, ?_⟩
    have e : ac ((List.range len).map X) j = X j := by
      unfold ac
      rw [List.getD_eq_getElem?_getD]
      simp [hj']
    rw [add_plain] at h0 h1 h2 h3 h4 h5 h6
    rw [e]
    exact ⟨h0, h1, h2, h3, h4, h5, h6⟩

theorem open_rl (hv : Value.okWide Try.prog W r b0 39 v) (h : DataW.Trod enc Try.prog W base (fun _ => true) held 39 v d p) :
    ∃ (a : Option Addr) (c : Nat) (xs : List Rq), v = .slice a xs.length c ∧ RV W a xs := by
  obtain ⟨a0, len, cap, rfl⟩ := okWide_slice Try.underlying39 hv
  obtain ⟨fuel, hf⟩ := h
  rcases Deep.open_slice Try.underlying39 hf with ⟨hcs, _⟩ | ⟨a, len', cap', m, n, D, Q, hcs, _, hl, hm, hmm, _, hcell⟩
  · simp [Value.cells] at hcs
    obtain ⟨rfl, rfl, rfl⟩ := hcs
    exact ⟨none, 0, [], rfl, fun j hj => by simp at hj⟩
  · simp [Value.cells] at hcs
    obtain ⟨rfl, rfl, rfl⟩ := hcs
    simp only [if_true] at hmm
    subst hmm
    obtain ⟨X, hX⟩ := Deep.choose_lt (α := Rq) (p := fun i x => W.cell? (a.add (i * 5)) = some (.int .i64 x.1) ∧ W.cell? (a.add (i * 5 + 1)) = some (.int .i64 x.2.1) ∧ W.cell? (a.add (i * 5 + 2)) = some (.int .i64 x.2.2.1) ∧ W.cell? (a.add (i * 5 + 3)) = some (.int .i64 x.2.2.2.1) ∧ W.cell? (a.add (i * 5 + 4)) = some (.int .i64 x.2.2.2.2)) (fun i hi => by
      obtain ⟨cs', h1, h2⟩ := hcell i hi
      rw [cells29] at h1
      obtain ⟨_, hlen, hc⟩ := World.cells?_some h1
      obtain ⟨xs, k, hk, hxy, _, hxl, hf⟩ := DataW.trod_struct Try.underlying29 h2
      match xs, hxl, cs', hlen with
      | [y0, y1, y2, y3, y4], _, [v0, v1, v2, v3, v4], _ =>
        have g0 := hf 0 _ rfl
        have g1 := hf 1 _ rfl
        have g2 := hf 2 _ rfl
        have g3 := hf 3 _ rfl
        have g4 := hf 4 _ rfl
        simp [cells3] at g0 g1 g2 g3 g4
        have e0 := hc 0 (by omega)
        have e1 := hc 1 (by omega)
        have e2 := hc 2 (by omega)
        have e3 := hc 3 (by omega)
        have e4 := hc 4 (by omega)
        rw [Deep.add_add] at e0 e1 e2 e3 e4
        obtain ⟨n0, k0, _, _⟩ := DataW.trod_int Try.underlying3 g0
        obtain ⟨n1, k1, _, _⟩ := DataW.trod_int Try.underlying3 g1
        obtain ⟨n2, k2, _, _⟩ := DataW.trod_int Try.underlying3 g2
        obtain ⟨n3, k3, _, _⟩ := DataW.trod_int Try.underlying3 g3
        obtain ⟨n4, k4, _, _⟩ := DataW.trod_int Try.underlying3 g4
        simp at k0 k1 k2 k3 k4
        subst k0 k1 k2 k3 k4
        exact ⟨(n0, n1, n2, n3, n4), by simpa using e0, by simpa using e1, by simpa using e2, by simpa using e3, by simpa using e4⟩)
    refine ⟨some a, m, (List.range len).map X, by simp, fun j hj => ?_⟩
    have hj' : j < len := by simpa using hj
    obtain ⟨h0, h1, h2, h3, h4⟩ := hX j (by omega)
    obtain ⟨hc0, _⟩ := hX 0 (by omega)
    obtain ⟨b, off, spot⟩ := a
    have hspot : spot = none := by simpa [Addr.add] using World.cell?_spot hc0
    subst hspot
    refine ⟨b, off, rfl, ?_⟩
    have e : rq ((List.range len).map X) j = X j := by
      unfold rq
      rw [List.getD_eq_getElem?_getD]
      simp [hj']
    rw [add_plain] at h0 h1 h2 h3 h4
    rw [e]
    exact ⟨h0, h1, h2, h3, h4⟩

theorem open_sl (hv : Value.okWide Try.prog W r b0 42 v) (h : DataW.Trod enc Try.prog W base (fun _ => true) held 42 v d p) :
    ∃ (a : Option Addr) (c : Nat) (xs : List Int), v = .slice a xs.length c ∧ IX W a xs := by
  obtain ⟨a0, len, cap, rfl⟩ := okWide_slice Try.underlying42 hv
  obtain ⟨fuel, hf⟩ := h
  rcases open_ints Try.underlying42 Try.underlying3 cells3 hf with ⟨hcs, _⟩ | ⟨a, len', cap', zs, hcs, _, hl, hm, hz, _, hcell, hw⟩
  · simp [Value.cells] at hcs
    obtain ⟨rfl, rfl, rfl⟩ := hcs
    exact ⟨none, 0, [], rfl, (fun j hj => by simp at hj)⟩
  · simp [Value.cells] at hcs
    obtain ⟨rfl, rfl, rfl⟩ := hcs
    simp only [if_true] at hz
    have hlen : (zs.take len).length = len := by rw [List.length_take]; omega
    refine ⟨some a, cap, zs.take len, by rw [hlen], fun j hj => ?_⟩
    rw [hlen] at hj
    have hc := hcell j (by omega)
    have hc0 := hcell 0 (by omega)
    obtain ⟨b, off, spot⟩ := a
    have hspot : spot = none := by simpa [Addr.add] using World.cell?_spot hc0
    subst hspot
    refine ⟨b, off, rfl, ?_⟩
    rw [← add_plain, hc]
    unfold ix
    rw [List.getD_eq_getElem?_getD, List.getD_eq_getElem?_getD, List.getElem?_take_of_lt hj]
end
end Go.Proofs.Ytdhgffnlocgfkaa
