/- Links as they lie in memory; what is kept beside them. -/
import Derived.Test.YtmbpmcgppnanpaaLkLks
import Derived.Test.YtmbpmcgppnanpaaBas
import Derived.ProofKit
import Derived.BigQuiet
import Derived.OwnWalk
import Derived.Below
import Derived.WalkSmall
namespace Go.Proofs.Ytmbpmcgppnanpaa.Lk
open Go.RowKit Go.Proofs.Ytmbpmcgppnanpaa.Bs

/-- Where Links lie: their own block, the blocks of next, prev, where and count, and the slices' room. -/
structure Pl where
  B : Nat
  n : Nat
  p : Nat
  w : Nat
  c : Nat
  k1 : Nat
  k2 : Nat
  k3 : Nat
  k4 : Nat

def iv (x : Nat) : Value := .int .i64 x
/-- Things as ints. -/
def ints (q : List Nat) : List Int := q.map (fun x : Nat => (x : Int))
theorem ints_iv (q : List Nat) : (ints q).map (Value.int .i64) = q.map iv := by simp [ints, iv, Function.comp_def]
theorem ints_len (q : List Nat) : (ints q).length = q.length := by simp [ints]
/-- The blocks that calls of Links turn. -/
def Pl.S (P : Pl) : List Nat := [P.n, P.p, P.w, P.c]

/-- Links of the program's, as numbers. -/
structure LM (w : World) (P : Pl) (N L : Nat) (nx pv : List Nat) (wh : List Int) (ct : List Nat) : Prop where
  b : w.heap[P.B]? = some (.cells #[.slice (some ⟨P.n, 0, none⟩) (N + L) P.k1, .slice (some ⟨P.p, 0, none⟩) (N + L) P.k2, .slice (some ⟨P.w, 0, none⟩) N P.k3, .slice (some ⟨P.c, 0, none⟩) L P.k4] 79 (0, 0))
  rn : Row w P.n 3 (nx.map iv)
  rp : Row w P.p 3 (pv.map iv)
  rw : Row w P.w 3 (wh.map (Value.int .i64))
  rc : Row w P.c 3 (ct.map iv)
  nd : [P.B, P.n, P.p, P.w, P.c].Nodup
  nl : nx.length = N + L
  pl : pv.length = N + L
  wl : wh.length = N
  cl : ct.length = L
  n1 : 1 ≤ N
  n2 : N ≤ 4096
  l1 : 1 ≤ L
  l2 : L ≤ 4096

section
variable {w w' : World} {P : Pl} {N L : Nat} {nx pv : List Nat} {wh : List Int} {ct : List Nat}
theorem LM.nes (h : LM w P N L nx pv wh ct) : (P.B ≠ P.n ∧ P.B ≠ P.p ∧ P.B ≠ P.w ∧ P.B ≠ P.c) ∧ (P.n ≠ P.p ∧ P.n ≠ P.w ∧ P.n ≠ P.c) ∧ (P.p ≠ P.w ∧ P.p ≠ P.c) ∧ P.w ≠ P.c := by
  have := h.nd
  simpa [and_assoc] using this
theorem LM.lts (h : LM w P N L nx pv wh ct) : P.B < w.heap.size ∧ P.n < w.heap.size ∧ P.p < w.heap.size ∧ P.w < w.heap.size ∧ P.c < w.heap.size :=
  ⟨(Array.getElem?_eq_some_iff.1 h.b).1, h.rn.lt, h.rp.lt, h.rw.lt, h.rc.lt⟩
theorem LM.c0 (h : LM w P N L nx pv wh ct) : w.cell? ⟨P.B, 0, none⟩ = some (.slice (some ⟨P.n, 0, none⟩) (N + L) P.k1) := by simp [World.cell?, h.b]
theorem LM.c1 (h : LM w P N L nx pv wh ct) : w.cell? ⟨P.B, 1, none⟩ = some (.slice (some ⟨P.p, 0, none⟩) (N + L) P.k2) := by simp [World.cell?, h.b]
theorem LM.c2 (h : LM w P N L nx pv wh ct) : w.cell? ⟨P.B, 2, none⟩ = some (.slice (some ⟨P.w, 0, none⟩) N P.k3) := by simp [World.cell?, h.b]
theorem LM.c3 (h : LM w P N L nx pv wh ct) : w.cell? ⟨P.B, 3, none⟩ = some (.slice (some ⟨P.c, 0, none⟩) L P.k4) := by simp [World.cell?, h.b]
theorem LM.xn (h : LM w P N L nx pv wh ct) {j x : Nat} (hx : nx[j]? = some x) : w.cell? ⟨P.n, j, none⟩ = some (.int .i64 x) := h.rn.cell (by rw [List.getElem?_map, hx]; rfl)
theorem LM.xp (h : LM w P N L nx pv wh ct) {j x : Nat} (hx : pv[j]? = some x) : w.cell? ⟨P.p, j, none⟩ = some (.int .i64 x) := h.rp.cell (by rw [List.getElem?_map, hx]; rfl)
theorem LM.xw (h : LM w P N L nx pv wh ct) {j : Nat} {x : Int} (hx : wh[j]? = some x) : w.cell? ⟨P.w, j, none⟩ = some (.int .i64 x) := h.rw.cell (by rw [List.getElem?_map, hx]; rfl)
theorem LM.xc (h : LM w P N L nx pv wh ct) {j x : Nat} (hx : ct[j]? = some x) : w.cell? ⟨P.c, j, none⟩ = some (.int .i64 x) := h.rc.cell (by rw [List.getElem?_map, hx]; rfl)
theorem LM.put (h : LM w P N L nx pv wh ct) (hb : ∀ k ∈ [P.B, P.n, P.p, P.w, P.c], w'.heap[k]? = w.heap[k]?) : LM w' P N L nx pv wh ct :=
  ⟨(hb P.B (by simp)).trans h.b, h.rn.put (hb _ (by simp)), h.rp.put (hb _ (by simp)), h.rw.put (hb _ (by simp)), h.rc.put (hb _ (by simp)), h.nd, h.nl, h.pl, h.wl, h.cl, h.n1, h.n2, h.l1, h.l2⟩
theorem LM.lt5 (h : LM w P N L nx pv wh ct) {k : Nat} (hk : k ∈ [P.B, P.n, P.p, P.w, P.c]) : k < w.heap.size := by
  obtain ⟨h1, h2, h3, h4, h5⟩ := h.lts
  simp at hk
  rcases hk with rfl | rfl | rfl | rfl | rfl <;> assumption
theorem LM.but {S : List Nat} (h : LM w P N L nx pv wh ct) (hb : But S w w') (hS : ∀ k ∈ [P.B, P.n, P.p, P.w, P.c], k ∉ S) : LM w' P N L nx pv wh ct :=
  h.put (fun k hk => hb.block k (h.lt5 hk) (hS k hk))
theorem LM.keep (h : LM w P N L nx pv wh ct) (hb : But [] w w') : LM w' P N L nx pv wh ct := h.but hb (by simp)
theorem LM.drawn (h : LM w P N L nx pv wh ct) (k : Drawn w w') : LM w' P N L nx pv wh ct := h.keep k.but
theorem LM.setN (h : LM w P N L nx pv wh ct) (j x : Nat) : LM (w.setCell ⟨P.n, j, none⟩ (.int .i64 x)) P N L (nx.set j x) pv wh ct := by
  obtain ⟨⟨h1, h2, h3, h4⟩, ⟨h5, h6, h7⟩, ⟨h8, h9⟩, h10⟩ := h.nes
  refine ⟨(Below.heap_setCell w ⟨P.n, j, none⟩ _ P.B h1).trans h.b, ?_, h.rp.other h5.symm _ _, h.rw.other h6.symm _ _, h.rc.other h7.symm _ _, h.nd, by simpa using h.nl, h.pl, h.wl, h.cl, h.n1, h.n2, h.l1, h.l2⟩
  rw [List.map_set]
  exact h.rn.set j _
theorem LM.setP (h : LM w P N L nx pv wh ct) (j x : Nat) : LM (w.setCell ⟨P.p, j, none⟩ (.int .i64 x)) P N L nx (pv.set j x) wh ct := by
  obtain ⟨⟨h1, h2, h3, h4⟩, ⟨h5, h6, h7⟩, ⟨h8, h9⟩, h10⟩ := h.nes
  refine ⟨(Below.heap_setCell w ⟨P.p, j, none⟩ _ P.B h2).trans h.b, h.rn.other h5 _ _, ?_, h.rw.other h8.symm _ _, h.rc.other h9.symm _ _, h.nd, h.nl, by simpa using h.pl, h.wl, h.cl, h.n1, h.n2, h.l1, h.l2⟩
  rw [List.map_set]
  exact h.rp.set j _
theorem LM.setW (h : LM w P N L nx pv wh ct) (j : Nat) (x : Int) : LM (w.setCell ⟨P.w, j, none⟩ (.int .i64 x)) P N L nx pv (wh.set j x) ct := by
  obtain ⟨⟨h1, h2, h3, h4⟩, ⟨h5, h6, h7⟩, ⟨h8, h9⟩, h10⟩ := h.nes
  refine ⟨(Below.heap_setCell w ⟨P.w, j, none⟩ _ P.B h3).trans h.b, h.rn.other h6 _ _, h.rp.other h8 _ _, ?_, h.rc.other h10.symm _ _, h.nd, h.nl, h.pl, by simpa using h.wl, h.cl, h.n1, h.n2, h.l1, h.l2⟩
  rw [List.map_set]
  exact h.rw.set j _
theorem LM.setC (h : LM w P N L nx pv wh ct) (j x : Nat) : LM (w.setCell ⟨P.c, j, none⟩ (.int .i64 x)) P N L nx pv wh (ct.set j x) := by
  obtain ⟨⟨h1, h2, h3, h4⟩, ⟨h5, h6, h7⟩, ⟨h8, h9⟩, h10⟩ := h.nes
  refine ⟨(Below.heap_setCell w ⟨P.c, j, none⟩ _ P.B h4).trans h.b, h.rn.other h7 _ _, h.rp.other h9 _ _, h.rw.other h10 _ _, ?_, h.nd, h.nl, h.pl, h.wl, by simpa using h.cl, h.n1, h.n2, h.l1, h.l2⟩
  rw [List.map_set]
  exact h.rc.set j _
end

/-- Links with these lists. -/
def LQ (w : World) (P : Pl) (N L : Nat) (ls : List (List Nat)) : Prop := ∃ nx pv, LM w P N L nx pv (whL N ls) (ctL ls) ∧ Rep N L nx pv ls

section
variable {w w' : World} {P : Pl} {N L : Nat} {ls : List (List Nat)}
theorem LQ.but {S : List Nat} (h : LQ w P N L ls) (hb : But S w w') (hS : ∀ k ∈ [P.B, P.n, P.p, P.w, P.c], k ∉ S) : LQ w' P N L ls := by
  obtain ⟨nx, pv, h, k⟩ := h
  exact ⟨nx, pv, h.but hb hS, k⟩
theorem LQ.keep (h : LQ w P N L ls) (hb : But [] w w') : LQ w' P N L ls := h.but hb (by simp)
theorem LQ.below (h : LQ w P N L ls) (hb : Below w.heap.size w w') : LQ w' P N L ls := h.keep (.of_below hb)
theorem LQ.drawn (h : LQ w P N L ls) (k : Drawn w w') : LQ w' P N L ls := h.keep k.but
theorem LQ.ok (h : LQ w P N L ls) : Ok N L ls := by
  obtain ⟨nx, pv, h, k⟩ := h
  exact k.ok
theorem LQ.sizes (h : LQ w P N L ls) : 1 ≤ N ∧ N ≤ 4096 ∧ 1 ≤ L ∧ L ≤ 4096 := by
  obtain ⟨nx, pv, h, k⟩ := h
  exact ⟨h.n1, h.n2, h.l1, h.l2⟩
theorem LQ.lt5 (h : LQ w P N L ls) {k : Nat} (hk : k ∈ [P.B, P.n, P.p, P.w, P.c]) : k < w.heap.size := by
  obtain ⟨nx, pv, h, _⟩ := h
  exact h.lt5 hk
end

/-- Whether there is such a thing, or list. -/
def inN (n : Nat) (i : Int) : Bool := decide (0 ≤ i ∧ i < (n : Int))
theorem inN_out {n : Nat} {i : Int} (h : inN n i = true) : ∃ k : Nat, i = k ∧ k < n := by
  unfold inN at h
  simp at h
  exact ⟨i.toNat, by omega, by omega⟩
theorem inN_of {n k : Nat} (h : k < n) : inN n (k : Int) = true := by
  unfold inN
  simp
  exact h

end Go.Proofs.Ytmbpmcgppnanpaa.Lk
