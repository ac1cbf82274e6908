/- What is kept beside what turns; bytes in memory; a source as it lies in memory. -/
import Derived.Test.YtjgclehghnmhnaaDoorCByt
import Derived.ProofKit
import Derived.BigQuiet
import Derived.OwnWalk
import Derived.Below
import Derived.WalkSmall
import Derived.WalkLawsBesides
import Derived.Maps.AppendAt
import Derived.Laws.BytesArg
import Derived.Laws.IdiomStrings
import Derived.Lib.AppendStr
namespace Go.Proofs.YtjgclehghnmhnaaDoor
open Go.RowKit

/-- All blocks but those of S are as they were. -/
structure But (S : List Nat) (w w' : World) : Prop where
  os : w'.os = w.os
  tape : w'.tape = w.tape
  output : w'.output = w.output
  size : w.heap.size ≤ w'.heap.size
  block : ∀ k, k < w.heap.size → k ∉ S → w'.heap[k]? = w.heap[k]?

theorem But.refl (S : List Nat) (w : World) : But S w w := ⟨rfl, rfl, rfl, Nat.le_refl _, fun _ _ _ => rfl⟩
theorem But.trans {S : List Nat} {a b c : World} (h : But S a b) (k : But S b c) : But S a c :=
  ⟨k.os.trans h.os, k.tape.trans h.tape, k.output.trans h.output, Nat.le_trans h.size k.size, fun i hi hs => (k.block i (Nat.lt_of_lt_of_le hi h.size) hs).trans (h.block i hi hs)⟩
theorem But.mono {S T : List Nat} {a b : World} (h : But S a b) (hs : ∀ x ∈ S, x ∈ T) : But T a b :=
  ⟨h.os, h.tape, h.output, h.size, fun i hi ht => h.block i hi (fun e => ht (hs i e))⟩
theorem But.wide {S : List Nat} {a b : World} (h : But [] a b) : But S a b := h.mono (by simp)
theorem But.drew {S : List Nat} {a b : World} (h : But S a b) : But S a b.drew := h.trans ⟨rfl, rfl, rfl, Nat.le_refl _, fun _ _ _ => rfl⟩
theorem But.drewN {S : List Nat} {a b : World} (h : But S a b) (n : Nat) : But S a (b.drewN n) := h.trans ⟨rfl, rfl, rfl, Nat.le_refl _, fun _ _ _ => rfl⟩
theorem But.set {S : List Nat} {a b : World} (h : But S a b) {p : Addr} (hp : p.block ∈ S) (u : Value) : But S a (b.setCell p u) :=
  h.trans ⟨rfl, rfl, rfl, by simp [World.setCell], fun k _ hk => Below.heap_setCell _ _ _ _ (fun e => hk (e ▸ hp))⟩
theorem But.alloc {S : List Nat} {a b : World} (h : But S a b) (o : Obj) : But S a (b.alloc o) :=
  h.trans ⟨rfl, rfl, rfl, by simp, fun k hk _ => Below.heap_alloc _ _ _ hk⟩
/-- What is new, and turned, is no block of old. -/
theorem But.below {S : List Nat} {a b : World} (h : But S a b) {n : Nat} (hn : n ≤ a.heap.size) (hS : ∀ x ∈ S, n ≤ x) : Below n a b :=
  ⟨h.os, h.tape, h.output, h.size, fun k hk => h.block k (by omega) (fun e => by have := hS k e; omega)⟩
theorem But.of_below {S : List Nat} {a b : World} (h : Below a.heap.size a b) : But S a b := ⟨h.os, h.tape, h.output, h.size, fun k hk _ => h.block k hk⟩
theorem But.to_below {a b : World} (h : But [] a b) : Below a.heap.size a b := h.below (Nat.le_refl _) (by simp)
/-- Beyond what was there then, any block may turn. -/
theorem But.trans_new {S T : List Nat} {a b c : World} (h : But S a b) (k : But T b c) (hT : ∀ x ∈ T, x ∈ S ∨ a.heap.size ≤ x) : But S a c :=
  ⟨k.os.trans h.os, k.tape.trans h.tape, k.output.trans h.output, Nat.le_trans h.size k.size, fun i hi hs =>
    (k.block i (Nat.lt_of_lt_of_le hi h.size) (fun e => (hT i e).elim hs (fun l => by omega))).trans (h.block i hi hs)⟩
theorem But.cell {w w' : World} (h : But [] w w') {p : Addr} {v : Value} (hc : w.cell? p = some v) : w'.cell? p = some v :=
  (World.cell?_of_block (h.block p.block (World.block_lt_of_cell? w p hc) (by simp))).trans hc
theorem But.cell' {S : List Nat} {w w' : World} (h : But S w w') {p : Addr} {v : Value} (hc : w.cell? p = some v) (hp : p.block ∉ S) : w'.cell? p = some v :=
  (World.cell?_of_block (h.block p.block (World.block_lt_of_cell? w p hc) hp)).trans hc
theorem cell_on {w w' : World} (hb : Below w.heap.size w w') {p : Addr} {v : Value} (h : w.cell? p = some v) : w'.cell? p = some v :=
  (hb.cell (World.block_lt_of_cell? w p h)).trans h

/-- Nothing but a few draws lie between. -/
def Drawn (w w' : World) : Prop := ∃ k, w' = w.drewN k
theorem Drawn.trans {a b c : World} (h : Drawn a b) (k : ∃ k, c = b.drewN k) : Drawn a c := by
  obtain ⟨x, rfl⟩ := h
  obtain ⟨y, rfl⟩ := k
  exact ⟨x + y, by simp [World.drewN, Nat.add_assoc]⟩
theorem Drawn.refl (w : World) : Drawn w w := ⟨0, rfl⟩
theorem Drawn.drew {a b : World} (h : Drawn a b) : Drawn a b.drew := h.trans ⟨1, rfl⟩
theorem Drawn.but {S : List Nat} {a b : World} (h : Drawn a b) : But S a b := by
  obtain ⟨k, rfl⟩ := h
  exact (But.refl S a).drewN k

/-- Block G begins with these values. -/
def Row (w : World) (G : Nat) (t : TypeId) (vs : List Value) : Prop := ∃ cur : Array Value, w.heap[G]? = some (.cells cur t (0, 0)) ∧ ∀ (j : Nat) (v : Value), vs[j]? = some v → cur[j]? = some v

section
variable {w w' : World} {G : Nat} {t : TypeId} {vs : List Value}
theorem Row.lt (h : Row w G t vs) : G < w.heap.size := by
  obtain ⟨cur, h, _⟩ := h
  exact (Array.getElem?_eq_some_iff.1 h).1
theorem Row.cell (h : Row w G t vs) {j : Nat} {v : Value} (hv : vs[j]? = some v) : w.cell? ⟨G, j, none⟩ = some v := by
  obtain ⟨cur, h, k⟩ := h
  simp [World.cell?, h, k j v hv]
theorem Row.fz (h : Row w G t vs) (j : Nat) : w.frozen? ⟨G, j, none⟩ = false := by
  obtain ⟨cur, h, _⟩ := h
  simp [World.frozen?, h]
theorem Row.put (h : Row w G t vs) (e : w'.heap[G]? = w.heap[G]?) : Row w' G t vs := by
  obtain ⟨cur, h, k⟩ := h
  exact ⟨cur, e.trans h, k⟩
theorem Row.set (h : Row w G t vs) (j : Nat) (v : Value) : Row (w.setCell ⟨G, j, none⟩ v) G t (vs.set j v) := by
  obtain ⟨cur, h, k⟩ := h
  refine ⟨_, heap_setCell_same w G j _ t v h, fun i u hu => ?_⟩
  by_cases hij : j = i
  · subst hij
    rw [List.getElem?_set_self'] at hu
    cases hq : vs[j]? with
    | none => simp [hq] at hu
    | some q =>
      have hk := k j q hq
      have hlt := (Array.getElem?_eq_some_iff.1 hk).1
      simp [hq] at hu
      subst hu
      simp [hlt]
  · rw [List.getElem?_set_ne hij] at hu
    have hk := k i u hu
    simp [hij, hk]
theorem Row.other (h : Row w G t vs) {K : Nat} (hne : G ≠ K) (j : Nat) (v : Value) : Row (w.setCell ⟨K, j, none⟩ v) G t vs := h.put (Below.heap_setCell w ⟨K, j, none⟩ v G hne)
end

theorem ownsRow_put {w w' : World} {base : Nat} {e : TypeId} {size : Nat} {v : Value} {n : Nat} {xs : List Value} (h : w.ownsRow base e size v n xs) (hk : ∀ k, v.ownBlock = some k → w'.heap[k]? = w.heap[k]?) : w'.ownsRow base e size v n xs := by
  refine ⟨h.1, ?_⟩
  rcases h.2 with h | ⟨g, cap, cur, rfl, h2, h3, h4⟩
  · exact .inl h
  · exact .inr ⟨g, cap, cur, rfl, h2, (hk g rfl).trans h3, h4⟩

theorem Hid.mk {p : Prop} (h : p) : Hid p := h

/-- Bytes as cells. -/
def bc (bs : List UInt8) : List Value := bs.map (fun b => Value.int .u8 (b.toNat : Int))
theorem bc_len (bs : List UInt8) : (bc bs).length = bs.length := by simp [bc]
theorem bc_app (xs bs : List UInt8) : bc (xs ++ bs) = bc xs ++ bc bs := by simp [bc]
theorem bc_get {bs : List UInt8} {j : Nat} {b : UInt8} (h : bs[j]? = some b) : (bc bs)[j]? = some (.int .u8 (b.toNat : Int)) := by simp [bc, h]
theorem bc_out {bs : List UInt8} {j : Nat} {v : Value} (h : (bc bs)[j]? = some v) : ∃ b, bs[j]? = some b ∧ v = .int .u8 (b.toNat : Int) := by
  unfold bc at h
  rw [List.getElem?_map] at h
  obtain ⟨b, hb, rfl⟩ := Option.map_eq_some_iff.1 h
  exact ⟨b, hb, rfl⟩

/-- A slice of bytes, wherever it lies; no block of it is B. -/
def Byts (w : World) (B : Nat) (a : Option Addr) (c : Nat) (bs : List UInt8) : Prop :=
  (c = 0 ∧ bs = []) ∨ ∃ G o, a = some ⟨G, o, none⟩ ∧ G < B ∧ bs.length ≤ c ∧ c ≤ maxLen ∧ ∀ j b, bs[j]? = some b → w.cell? ⟨G, o + j, none⟩ = some (.int .u8 (b.toNat : Int))

section
variable {w w' : World} {B c : Nat} {a : Option Addr} {bs : List UInt8}
theorem Byts.but {S : List Nat} (h : Byts w B a c bs) (hb : But S w w') (hS : ∀ x ∈ S, B ≤ x) : Byts w' B a c bs := by
  rcases h with h | ⟨G, o, e, hG, hl, hm, hc⟩
  · exact .inl h
  · exact .inr ⟨G, o, e, hG, hl, hm, fun j b hj => hb.cell' (hc j b hj) (fun hx => by have := hS G hx; omega)⟩
theorem Byts.up {C : Nat} (h : Byts w B a c bs) (hC : B ≤ C) : Byts w C a c bs := by
  rcases h with h | ⟨G, o, e, hG, hl, hm, hc⟩
  · exact .inl h
  · exact .inr ⟨G, o, e, by omega, hl, hm, hc⟩
theorem Byts.len (h : Byts w B a c bs) : bs.length ≤ c := by
  rcases h with ⟨rfl, rfl⟩ | ⟨G, o, e, hG, hl, hm, hc⟩
  · simp
  · exact hl
theorem Byts.cap (h : Byts w B a c bs) : c ≤ maxLen := by
  rcases h with ⟨rfl, rfl⟩ | ⟨G, o, e, hG, hl, hm, hc⟩
  · exact Nat.zero_le _
  · exact hm
/-- A slice of bytes that the call made. -/
def Own (w : World) (lo : Nat) (v : Value) (bs : List UInt8) : Prop := w.ownsRow lo 5 1 v bs.length (bc bs)
theorem Own.byts {lo : Nat} {v : Value} (h : Own w lo v bs) : ∃ a c, v = .slice a bs.length c ∧ Byts w w.heap.size a c bs := by
  have h' := h
  rcases h.2 with ⟨rfl, h0⟩ | ⟨g, cap, cur, rfl, hg, hb, hc, hm, _⟩
  · exact ⟨none, 0, by rw [h0], .inl ⟨rfl, List.eq_nil_of_length_eq_zero h0⟩⟩
  · refine ⟨_, cap, rfl, .inr ⟨g, 0, rfl, (Array.getElem?_eq_some_iff.1 hb).1, hc, hm, fun j b hj => ?_⟩⟩
    have := h'.cells rfl j _ (bc_get hj)
    rwa [WideShapes.add_plain] at this
theorem Own.but {S : List Nat} {lo : Nat} {v : Value} (h : Own w lo v bs) (hb : But S w w') (hS : ∀ x ∈ S, x < lo) : Own w' lo v bs := by
  refine ⟨h.1, ?_⟩
  rcases h.2 with h | ⟨g, cap, cur, h1, h2, h3, h4⟩
  · exact .inl h
  · exact .inr ⟨g, cap, cur, h1, h2, (hb.block g (Array.getElem?_eq_some_iff.1 h3).1 (fun e => by have := hS g e; omega)).trans h3, h4⟩
theorem Own.lower {lo lo' : Nat} {v : Value} (h : Own w lo v bs) (hl : lo' ≤ lo) : Own w lo' v bs :=
  ⟨h.1, h.2.imp id (fun ⟨g, cap, cur, h1, h2, h3⟩ => ⟨g, cap, cur, h1, by omega, h3⟩)⟩
end

section
variable {w w' : World} {B x : Nat} {bs : List UInt8} {st : Nat × List UInt8}
end

end Go.Proofs.YtjgclehghnmhnaaDoor
