/- What arguments look like as values: asks, slices of asks, bytes, values that are put, slices of these. -/
import Derived.Test.YtdndpncbagjidaaMem
import Derived.ProofKit
import Derived.OpenShut
import Derived.ChangeSlices
import Derived.Deep.Grids
import Derived.Deep.SlicePairs
namespace Go.Proofs.Ytdndpncbagjidaa
open Go Go.ChangeShapes Go.WideShapes Go.ChangeAt Go.RowKit
set_option maxRecDepth 100000

theorem cells3 : Try.prog.cellsOf 3 = 1 := by kernel_rfl
theorem cells5 : Try.prog.cellsOf 5 = 1 := by kernel_rfl
theorem cells9 : Try.prog.cellsOf 9 = 1 := by kernel_rfl
theorem cells23 : Try.prog.cellsOf 23 = 1 := by kernel_rfl
theorem cells24 : Try.prog.cellsOf 24 = 1 := by kernel_rfl
theorem cells26 : Try.prog.cellsOf 26 = 5 := by kernel_rfl
theorem cells40 : Try.prog.cellsOf 40 = 5 := by kernel_rfl

/-- A number that is an int; one that is a uint64. -/
def I64 (x : Int) : Prop := -9223372036854775808 ≤ x ∧ x ≤ 9223372036854775807
def U64 (x : Int) : Prop := 0 ≤ x ∧ x ≤ 18446744073709551615

/-- What is asked: the kind, least, most, the number, the count. -/
structure Ak where
  k : Int
  l : Int
  m : Int
  n : Int
  c : Int
def Ak.ok (x : Ak) : Prop := I64 x.k ∧ I64 x.l ∧ I64 x.m ∧ U64 x.n ∧ I64 x.c
def Asks (w : World) (a : Option Addr) (xs : List Ak) : Prop := ∀ j x, xs[j]? = some x → ∃ b o, a = some ⟨b, o, none⟩ ∧ w.cell? ⟨b, o + j * 5, none⟩ = some (.int .i64 x.k) ∧ w.cell? ⟨b, o + j * 5 + 1, none⟩ = some (.int .i64 x.l) ∧ w.cell? ⟨b, o + j * 5 + 2, none⟩ = some (.int .i64 x.m) ∧ w.cell? ⟨b, o + j * 5 + 3, none⟩ = some (.int .u64 x.n) ∧ w.cell? ⟨b, o + j * 5 + 4, none⟩ = some (.int .i64 x.c)
theorem Asks.below {w w' : World} {a : Option Addr} {xs : List Ak} (h : Asks w a xs) (hb : Below w.heap.size w w') : Asks w' a xs := fun j x hx => by
  obtain ⟨b, o, e, h0, h1, h2, h3, h4⟩ := h j x hx
  exact ⟨b, o, e, cell_on hb h0, cell_on hb h1, cell_on hb h2, cell_on hb h3, cell_on hb h4⟩

/-- Ints that lie in memory. -/
def IntsAt (w : World) (a : Option Addr) (xs : List Int) : Prop := ∀ j x, xs[j]? = some x → ∃ G o, a = some ⟨G, o, none⟩ ∧ w.cell? ⟨G, o + j, none⟩ = some (.int .i64 x)
theorem IntsAt.below {w w' : World} {a : Option Addr} {xs : List Int} (h : IntsAt w a xs) (hb : Below w.heap.size w w') : IntsAt w' a xs := fun j x hx => by
  obtain ⟨b, o, e, h0⟩ := h j x hx
  exact ⟨b, o, e, cell_on hb h0⟩

/-- A value that is put: its kind, the number, the int, the text, the ints and where they lie. -/
structure Vl where
  k : Int
  n : Int
  i : Int
  s : ByteArray
  a : Option Addr
  c : Nat
  l : List Int
def Vl.ok (x : Vl) : Prop := I64 x.k ∧ U64 x.n ∧ I64 x.i ∧ ∀ y ∈ x.l, I64 y
def Vals (w : World) (a : Option Addr) (xs : List Vl) : Prop := ∀ j x, xs[j]? = some x → (∃ b o, a = some ⟨b, o, none⟩ ∧ w.cell? ⟨b, o + j * 5, none⟩ = some (.int .i64 x.k) ∧ w.cell? ⟨b, o + j * 5 + 1, none⟩ = some (.int .u64 x.n) ∧ w.cell? ⟨b, o + j * 5 + 2, none⟩ = some (.int .i64 x.i) ∧ w.cell? ⟨b, o + j * 5 + 3, none⟩ = some (.string x.s) ∧ w.cell? ⟨b, o + j * 5 + 4, none⟩ = some (.slice x.a x.l.length x.c)) ∧ IntsAt w x.a x.l
theorem Vals.below {w w' : World} {a : Option Addr} {xs : List Vl} (h : Vals w a xs) (hb : Below w.heap.size w w') : Vals w' a xs := fun j x hx => by
  obtain ⟨⟨b, o, e, h0, h1, h2, h3, h4⟩, h5⟩ := h j x hx
  exact ⟨⟨b, o, e, cell_on hb h0, cell_on hb h1, cell_on hb h2, cell_on hb h3, cell_on hb h4⟩, h5.below hb⟩

section
variable {H : Type} {enc : TypeId × Value → H} {W : World} {r : Reach} {b0 base : Nat} {held : Bool} {v : Value} {d : DataW H} {p : List MemPlace}

theorem open_byt (hv : Value.okWide Try.prog W r b0 22 v) (h : DataW.Trod enc Try.prog W base (fun _ => true) held 22 v d p) :
    ∃ (a : Option Addr) (c : Nat) (bs : List UInt8), v = .slice a bs.length c ∧ Byts W W.heap.size a c bs := by
  obtain ⟨a0, len, cap, rfl⟩ := okWide_slice Try.underlying22 hv
  obtain ⟨fuel, hf⟩ := h
  rcases open_ints Try.underlying22 Try.underlying5 cells5 hf with ⟨hcs, _⟩ | ⟨a, len', cap', zs, hcs, _, hl, hm, hz, _, hcell, hw⟩
  · simp [Value.cells] at hcs
    obtain ⟨rfl, rfl, rfl⟩ := hcs
    exact ⟨none, 0, [], rfl, .inl ⟨rfl, rfl⟩⟩
  · simp [Value.cells] at hcs
    obtain ⟨rfl, rfl, rfl⟩ := hcs
    simp only [if_true] at hz
    have hlen : ((zs.take len).map (fun x => UInt8.ofNat x.toNat)).length = len := by rw [List.length_map, List.length_take]; omega
    refine ⟨some a, cap, (zs.take len).map (fun x => UInt8.ofNat x.toNat), by rw [hlen], ?_⟩
    by_cases h0 : cap = 0
    · exact .inl ⟨h0, List.eq_nil_of_length_eq_zero (by rw [hlen]; omega)⟩
    · have hc0 := hcell 0 (by omega)
      obtain ⟨b, off, spot⟩ := a
      have hspot : spot = none := by simpa [Addr.add] using World.cell?_spot hc0
      subst hspot
      have hlt := World.block_lt_of_cell? W _ hc0
      rw [add_plain] at hlt
      refine .inr ⟨b, off, rfl, hlt, by rw [hlen]; exact hl, hm, fun j x hx => ?_⟩
      have hj : j < len := by have := (List.getElem?_eq_some_iff.1 hx).1; omega
      have hc := hcell j (by omega)
      rw [add_plain] at hc
      rw [hc]
      rw [List.getElem?_map, List.getElem?_take_of_lt hj] at hx
      obtain ⟨y, hy, rfl⟩ := Option.map_eq_some_iff.1 hx
      have hb := bounds_u8 (hw y (List.mem_of_getElem? hy))
      rw [List.getD_eq_getElem?_getD, hy, Option.getD_some, u8_small (by omega)]
      congr 2
      omega

theorem open_ask (hv : Value.okWide Try.prog W r b0 40 v) (h : DataW.Trod enc Try.prog W base (fun _ => true) held 40 v d p) :
    ∃ x0 x1 x2 x3 x4 : Int, v = .agg #[.int .i64 x0, .int .i64 x1, .int .i64 x2, .int .u64 x3, .int .i64 x4] ∧ I64 x0 ∧ I64 x1 ∧ I64 x2 ∧ U64 x3 ∧ I64 x4 := by
  obtain ⟨cs, rfl, hsz⟩ := okWide_struct Try.underlying40 hv
  rw [cells40] at hsz
  obtain ⟨fuel, hf⟩ := h
  obtain ⟨xs, m, _, _, _, hxs, hall⟩ := DataW.trod_struct Try.underlying40 hf
  obtain ⟨l⟩ := cs
  match l, hsz with
  | [c0, c1, c2, c3, c4], _ =>
    have g0 := hall 0 _ rfl
    have g1 := hall 1 _ rfl
    have g2 := hall 2 _ rfl
    have g3 := hall 3 _ rfl
    have g4 := hall 4 _ rfl
    match xs, hxs with
    | [y0, y1, y2, y3, y4], _ =>
      simp [Value.cells, cells3, cells23] at g0 g1 g2 g3 g4
      obtain ⟨n0, e0, _, w0⟩ := DataW.trod_int Try.underlying3 g0
      obtain ⟨n1, e1, _, w1⟩ := DataW.trod_int Try.underlying3 g1
      obtain ⟨n2, e2, _, w2⟩ := DataW.trod_int Try.underlying3 g2
      obtain ⟨n3, e3, _, w3⟩ := DataW.trod_int Try.underlying23 g3
      obtain ⟨n4, e4, _, w4⟩ := DataW.trod_int Try.underlying3 g4
      simp at e0 e1 e2 e3 e4
      subst e0 e1 e2 e3 e4
      exact ⟨n0, n1, n2, n3, n4, rfl, bounds_i64 w0, bounds_i64 w1, bounds_i64 w2, bounds_u64 w3, bounds_i64 w4⟩

theorem open_il {fuel : Nat} {cs : List Value} {x : DataW H × List MemPlace} (hf : DataW.trod enc Try.prog W base (fun _ => true) held fuel 24 cs = some x) :
    ∃ (a : Option Addr) (c : Nat) (xs : List Int), cs = [.slice a xs.length c] ∧ IntsAt W a xs ∧ ∀ x ∈ xs, I64 x := by
  rcases open_ints Try.underlying24 Try.underlying3 cells3 hf with ⟨hcs, _⟩ | ⟨a, len, cap, zs, hcs, _, hl, hm, hz, _, hcell, hw⟩
  · exact ⟨none, 0, [], hcs, fun j x hx => by simp at hx, fun x hx => by simp at hx⟩
  · simp only [if_true] at hz
    have hlen : (zs.take len).length = len := by rw [List.length_take]; omega
    refine ⟨some a, cap, zs.take len, by rw [hlen, hcs], fun j x hx => ?_, fun x hx => bounds_i64 (hw x (List.mem_of_mem_take hx))⟩
    have hj : j < len := by have := (List.getElem?_eq_some_iff.1 hx).1; omega
    have hc := hcell j (by omega)
    have hc0 := hcell 0 (by omega)
    obtain ⟨b, off, spot⟩ := a
    have hspot : spot = none := by simpa [Addr.add] using World.cell?_spot hc0
    subst hspot
    refine ⟨b, off, rfl, ?_⟩
    rw [← add_plain, hc]
    rw [List.getElem?_take_of_lt hj] at hx
    rw [List.getD_eq_getElem?_getD, hx]
    rfl

theorem open_val (hv : Value.okWide Try.prog W r b0 26 v) (h : DataW.Trod enc Try.prog W base (fun _ => true) held 26 v d p) :
    ∃ x : Vl, v = .agg #[.int .i64 x.k, .int .u64 x.n, .int .i64 x.i, .string x.s, .slice x.a x.l.length x.c] ∧ x.ok ∧ IntsAt W x.a x.l := by
  obtain ⟨cs, rfl, hsz⟩ := okWide_struct Try.underlying26 hv
  rw [cells26] at hsz
  obtain ⟨fuel, hf⟩ := h
  obtain ⟨xs, m, _, _, _, hxs, hall⟩ := DataW.trod_struct Try.underlying26 hf
  obtain ⟨l⟩ := cs
  match l, hsz with
  | [c0, c1, c2, c3, c4], _ =>
    have g0 := hall 0 _ rfl
    have g1 := hall 1 _ rfl
    have g2 := hall 2 _ rfl
    have g3 := hall 3 _ rfl
    have g4 := hall 4 _ rfl
    match xs, hxs with
    | [y0, y1, y2, y3, y4], _ =>
      simp [Value.cells, cells3, cells23, cells9, cells24] at g0 g1 g2 g3 g4
      obtain ⟨n0, e0, _, w0⟩ := DataW.trod_int Try.underlying3 g0
      obtain ⟨n1, e1, _, w1⟩ := DataW.trod_int Try.underlying23 g1
      obtain ⟨n2, e2, _, w2⟩ := DataW.trod_int Try.underlying3 g2
      obtain ⟨s3, e3, _, w3⟩ := DataW.trod_string Try.underlying9 g3
      obtain ⟨a4, k4, l4, e4, i4, b4⟩ := open_il g4
      simp at e0 e1 e2 e3 e4
      subst e0 e1 e2 e3 e4
      exact ⟨⟨n0, n1, n2, s3, a4, k4, l4⟩, rfl, ⟨bounds_i64 w0, bounds_u64 w1, bounds_i64 w2, b4⟩, i4⟩

theorem open_asks (hv : Value.okWide Try.prog W r b0 34 v) (h : DataW.Trod enc Try.prog W base (fun _ => true) held 34 v d p) :
    ∃ (a : Option Addr) (c : Nat) (xs : List Ak), v = .slice a xs.length c ∧ Asks W a xs ∧ ∀ x ∈ xs, x.ok := by
  obtain ⟨a0, len, cap, rfl⟩ := okWide_slice Try.underlying34 hv
  obtain ⟨fuel, hf⟩ := h
  rcases Deep.open_slice Try.underlying34 hf with ⟨hcs, _⟩ | ⟨a, len', cap', m, n, D, Q, hcs, _, hl, hm, hmm, _, hcell⟩
  · simp [Value.cells] at hcs
    obtain ⟨rfl, rfl, rfl⟩ := hcs
    exact ⟨none, 0, [], rfl, (fun j x hx => by simp at hx), fun x hx => by simp at hx⟩
  · simp [Value.cells] at hcs
    obtain ⟨rfl, rfl, rfl⟩ := hcs
    simp only [if_true] at hmm
    subst hmm
    have hinh : Inhabited Ak := ⟨⟨0, 0, 0, 0, 0⟩⟩
    obtain ⟨X, hX⟩ := Deep.choose_lt (α := Ak) (p := fun i x => W.cell? (a.add (i * 5)) = some (.int .i64 x.k) ∧ W.cell? (a.add (i * 5 + 1)) = some (.int .i64 x.l) ∧ W.cell? (a.add (i * 5 + 2)) = some (.int .i64 x.m) ∧ W.cell? (a.add (i * 5 + 3)) = some (.int .u64 x.n) ∧ W.cell? (a.add (i * 5 + 4)) = some (.int .i64 x.c) ∧ x.ok) (fun i hi => by
      obtain ⟨cs', h1, h2⟩ := hcell i hi
      rw [cells40] at h1
      obtain ⟨_, hlen, hc⟩ := World.cells?_some h1
      obtain ⟨xs, k, hk, hxy, _, hxl, hf⟩ := DataW.trod_struct Try.underlying40 h2
      match xs, hxl, cs', hlen with
      | [y0, y1, y2, y3, y4], _, [v0, v1, v2, v3, v4], _ =>
        have g0 := hf 0 _ rfl
        have g1 := hf 1 _ rfl
        have g2 := hf 2 _ rfl
        have g3 := hf 3 _ rfl
        have g4 := hf 4 _ rfl
        simp [cells3, cells23] at g0 g1 g2 g3 g4
        have e0 := hc 0 (by omega)
        have e1 := hc 1 (by omega)
        have e2 := hc 2 (by omega)
        have e3 := hc 3 (by omega)
        have e4 := hc 4 (by omega)
        rw [Deep.add_add] at e0 e1 e2 e3 e4
        obtain ⟨n0, k0, _, w0⟩ := DataW.trod_int Try.underlying3 g0
        obtain ⟨n1, k1, _, w1⟩ := DataW.trod_int Try.underlying3 g1
        obtain ⟨n2, k2, _, w2⟩ := DataW.trod_int Try.underlying3 g2
        obtain ⟨n3, k3, _, w3⟩ := DataW.trod_int Try.underlying23 g3
        obtain ⟨n4, k4, _, w4⟩ := DataW.trod_int Try.underlying3 g4
        simp at k0 k1 k2 k3 k4
        subst k0 k1 k2 k3 k4
        exact ⟨⟨n0, n1, n2, n3, n4⟩, by simpa using e0, by simpa using e1, by simpa using e2, by simpa using e3, by simpa using e4, bounds_i64 w0, bounds_i64 w1, bounds_i64 w2, bounds_u64 w3, bounds_i64 w4⟩)
    refine ⟨some a, m, (List.range len).map X, by simp, fun j x hx => ?_, fun x hx => ?_⟩
    rotate_left
    · obtain ⟨j, hj, rfl⟩ := List.mem_map.1 hx
      exact (hX j (by have := List.mem_range.1 hj; omega)).2.2.2.2.2
    have hj : j < len := by have := (List.getElem?_eq_some_iff.1 hx).1; simpa using this
    obtain ⟨d0, d1, d2, d3, d4, _⟩ := hX j (by omega)
    obtain ⟨hc0, _⟩ := hX 0 (by omega)
    obtain ⟨b, off, spot⟩ := a
    have hspot : spot = none := by simpa [Addr.add] using World.cell?_spot hc0
    subst hspot
    refine ⟨b, off, rfl, ?_⟩
    simp [hj] at hx
    rw [← hx]
    rw [add_plain] at d0 d1 d2 d3 d4
    exact ⟨d0, d1, d2, d3, d4⟩

theorem open_vals (hv : Value.okWide Try.prog W r b0 48 v) (h : DataW.Trod enc Try.prog W base (fun _ => true) held 48 v d p) :
    ∃ (a : Option Addr) (c : Nat) (xs : List Vl), v = .slice a xs.length c ∧ Vals W a xs ∧ ∀ x ∈ xs, x.ok := by
  obtain ⟨a0, len, cap, rfl⟩ := okWide_slice Try.underlying48 hv
  obtain ⟨fuel, hf⟩ := h
  rcases Deep.open_slice Try.underlying48 hf with ⟨hcs, _⟩ | ⟨a, len', cap', m, n, D, Q, hcs, _, hl, hm, hmm, _, hcell⟩
  · simp [Value.cells] at hcs
    obtain ⟨rfl, rfl, rfl⟩ := hcs
    exact ⟨none, 0, [], rfl, (fun j x hx => by simp at hx), fun x hx => by simp at hx⟩
  · simp [Value.cells] at hcs
    obtain ⟨rfl, rfl, rfl⟩ := hcs
    simp only [if_true] at hmm
    subst hmm
    have hinh : Inhabited Vl := ⟨⟨0, 0, 0, ByteArray.empty, none, 0, []⟩⟩
    obtain ⟨X, hX⟩ := Deep.choose_lt (α := Vl) (p := fun i x => (W.cell? (a.add (i * 5)) = some (.int .i64 x.k) ∧ W.cell? (a.add (i * 5 + 1)) = some (.int .u64 x.n) ∧ W.cell? (a.add (i * 5 + 2)) = some (.int .i64 x.i) ∧ W.cell? (a.add (i * 5 + 3)) = some (.string x.s) ∧ W.cell? (a.add (i * 5 + 4)) = some (.slice x.a x.l.length x.c)) ∧ x.ok ∧ IntsAt W x.a x.l) (fun i hi => by
      obtain ⟨cs', h1, h2⟩ := hcell i hi
      rw [cells26] at h1
      obtain ⟨_, hlen, hc⟩ := World.cells?_some h1
      obtain ⟨xs, k, hk, hxy, _, hxl, hf⟩ := DataW.trod_struct Try.underlying26 h2
      match xs, hxl, cs', hlen with
      | [y0, y1, y2, y3, y4], _, [v0, v1, v2, v3, v4], _ =>
        have g0 := hf 0 _ rfl
        have g1 := hf 1 _ rfl
        have g2 := hf 2 _ rfl
        have g3 := hf 3 _ rfl
        have g4 := hf 4 _ rfl
        simp [cells3, cells23, cells9, cells24] at g0 g1 g2 g3 g4
        have e0 := hc 0 (by omega)
        have e1 := hc 1 (by omega)
        have e2 := hc 2 (by omega)
        have e3 := hc 3 (by omega)
        have e4 := hc 4 (by omega)
        rw [Deep.add_add] at e0 e1 e2 e3 e4
        obtain ⟨n0, k0, _, w0⟩ := DataW.trod_int Try.underlying3 g0
        obtain ⟨n1, k1, _, w1⟩ := DataW.trod_int Try.underlying23 g1
        obtain ⟨n2, k2, _, w2⟩ := DataW.trod_int Try.underlying3 g2
        obtain ⟨s3, k3, _, w3⟩ := DataW.trod_string Try.underlying9 g3
        obtain ⟨a4, q4, l4, k4, i4, b4⟩ := open_il g4
        simp at k0 k1 k2 k3 k4
        subst k0 k1 k2 k3 k4
        exact ⟨⟨n0, n1, n2, s3, a4, q4, l4⟩, ⟨by simpa using e0, by simpa using e1, by simpa using e2, by simpa using e3, by simpa using e4⟩, ⟨bounds_i64 w0, bounds_u64 w1, bounds_i64 w2, b4⟩, i4⟩)
    refine ⟨some a, m, (List.range len).map X, by simp, fun j x hx => ?_, fun x hx => ?_⟩
    rotate_left
    · obtain ⟨j, hj, rfl⟩ := List.mem_map.1 hx
      exact (hX j (by have := List.mem_range.1 hj; omega)).2.1
    have hj : j < len := by have := (List.getElem?_eq_some_iff.1 hx).1; simpa using this
    obtain ⟨⟨d0, d1, d2, d3, d4⟩, _, d5⟩ := hX j (by omega)
    obtain ⟨⟨hc0, _⟩, _⟩ := hX 0 (by omega)
    obtain ⟨b, off, spot⟩ := a
    have hspot : spot = none := by simpa [Addr.add] using World.cell?_spot hc0
    subst hspot
    simp [hj] at hx
    rw [← hx]
    rw [add_plain] at d0 d1 d2 d3 d4
    exact ⟨⟨b, off, rfl, d0, d1, d2, d3, d4⟩, d5⟩

end
end Go.Proofs.Ytdndpncbagjidaa
