/- Instructions, plain: names, shapes, which numbers may be, which are used. -/
/- What is kept beside what turns; bytes in memory; a source as it lies in memory. -/
import Derived.Test.YteiidkojofaamaaDoorJ01Says
import Derived.ProofKit
import Derived.BigQuiet
import Derived.OwnWalk
import Derived.Below
import Derived.WalkSmall
import Derived.WalkLawsBesides
import Derived.Maps.AppendAt
import Derived.Laws.BytesArg
import Derived.Laws.IdiomStrings
import Derived.Lib.AppendStr
namespace Go.Proofs.YteiidkojofaamaaDoor

/-- An instruction: its operation and three numbers. -/
abbrev Ins := Int × Int × Int × Int
def z4 : Ins := (0, 0, 0, 0)
/-- An instruction by its place. -/
def ins (xs : List Ins) (i : Nat) : Ins := xs.getD i z4
theorem ins_get {xs : List Ins} {i : Nat} (h : i < xs.length) : xs[i]? = some (ins xs i) := by
  unfold ins
  rw [List.getD_eq_getElem?_getD, List.getElem?_eq_getElem h, Option.getD_some]
theorem ins_at {xs : List Ins} {i : Nat} {x : Ins} (h : xs[i]? = some x) : ins xs i = x := by
  unfold ins
  rw [List.getD_eq_getElem?_getD, h, Option.getD_some]

/-- Names and shapes. -/
def nmT : List (List UInt8) := [[110, 111, 112], [115, 101, 116], [97, 100, 100], [115, 117, 98], [99, 111, 112, 121], [108, 101, 115, 115], [106, 117, 109, 112], [122, 101, 114, 111], [108, 111, 111, 112], [101, 110, 116, 101, 114], [108, 101, 97, 118, 101], [101, 120, 105, 116], [121, 105, 101, 108, 100], [115, 112, 97, 119, 110], [106, 111, 105, 110], [108, 111, 99, 107], [117, 110, 108, 111, 99, 107], [119, 97, 105, 116], [115, 105, 103, 110, 97, 108], [99, 97, 115, 116], [100, 111, 119, 110], [117, 112], [115, 108, 101, 101, 112], [114, 101, 97, 100], [119, 114, 105, 116, 101], [115, 101, 108, 102], [116, 105, 109, 101]]
def shT : List (List UInt8) := [[45, 45, 45], [114, 118, 45], [114, 114, 45], [114, 114, 45], [114, 114, 45], [114, 114, 114], [116, 45, 45], [114, 116, 45], [114, 116, 45], [45, 45, 45], [45, 45, 45], [114, 45, 45], [45, 45, 45], [112, 107, 114], [114, 45, 114], [111, 45, 45], [111, 45, 45], [111, 111, 45], [111, 45, 45], [111, 45, 45], [111, 45, 45], [111, 45, 45], [110, 45, 45], [115, 45, 114], [115, 45, 114], [45, 45, 114], [45, 45, 114]]
/-- Is it an operation? -/
def opB (op : Int) : Bool := decide (0 ≤ op) && decide (op ≤ 26)
def nmL (op : Int) : List UInt8 := if opB op then nmT.getD op.toNat [] else []
def shL (op : Int) : List UInt8 := if opB op then shT.getD op.toNat [] else []
/-- A letter of a shape. -/
def sc (op : Int) (k : Nat) : Nat := ((shL op).getD k 0).toNat
theorem opB_iff {op : Int} : opB op = true ↔ 0 ≤ op ∧ op ≤ 26 := by simp [opB]
theorem opB_not {op : Int} : opB op = false ↔ op < 0 ∨ 26 < op := by
  have := @opB_iff op
  cases h : opB op with
  | true => simp [h] at this; simp; omega
  | false => simp [h] at this; simp; omega
theorem opB_nat {op : Int} (h : opB op = true) : ∃ k : Nat, op = (k : Int) ∧ k < 27 := ⟨op.toNat, by have := opB_iff.1 h; omega, by have := opB_iff.1 h; omega⟩
theorem nmL_nat {k : Nat} (h : k < 27) : nmL (k : Int) = nmT.getD k [] := by
  unfold nmL
  rw [if_pos (opB_iff.2 (by omega))]
  simp
theorem shL_nat {k : Nat} (h : k < 27) : shL (k : Int) = shT.getD k [] := by
  unfold shL
  rw [if_pos (opB_iff.2 (by omega))]
  simp
theorem nmL_out {op : Int} (h : opB op = false) : nmL op = [] := by unfold nmL; rw [h]; rfl
theorem shL_out {op : Int} (h : opB op = false) : shL op = [] := by unfold shL; rw [h]; rfl
theorem three_of : ∀ k : Fin 27, (shT.getD k.1 []).length = 3 := by decide
theorem shL_len {op : Int} (h : opB op = true) : (shL op).length = 3 := by
  obtain ⟨k, rfl, hk⟩ := opB_nat h
  rw [shL_nat hk]
  exact three_of ⟨k, hk⟩
theorem shL_three {op : Int} (h : opB op = true) : ∃ c0 c1 c2, shL op = [c0, c1, c2] := by
  have := shL_len h
  match hs : shL op, this with
  | [c0, c1, c2], _ => exact ⟨c0, c1, c2, rfl⟩
theorem sc_lt (op : Int) (k : Nat) : sc op k < 256 := by unfold sc; exact UInt8.toNat_lt _

/-- What a letter allows, in a program of n instructions. -/
def bdL (c : Nat) (n : Int) : Int × Int :=
  if c = 114 then (0, 7) else if c = 118 then (-1099511627776, 1099511627776) else if c = 116 then (0, n) else if c = 112 then (0, 7) else if c = 107 then (1, 65536) else if c = 111 then (0, 3) else if c = 110 then (1, 1000) else if c = 115 then (0, 1000) else (0, 0)
def mayB (c : Nat) (v n : Int) : Bool := decide ((bdL c n).1 ≤ v) && decide (v ≤ (bdL c n).2)
/-- The k-th number. -/
def nk (x : Ins) : Nat → Int
  | 0 => x.2.1
  | 1 => x.2.2.1
  | _ => x.2.2.2
/-- May it stand in a program of n instructions? -/
def goodB (n : Int) (x : Ins) : Bool := opB x.1 && (mayB (sc x.1 0) (nk x 0) n && (mayB (sc x.1 1) (nk x 1) n && mayB (sc x.1 2) (nk x 2) n))
def goodAt (p : List Ins) (i : Int) : Bool := decide (0 ≤ i) && (decide (i < (p.length : Int)) && goodB p.length (ins p i.toNat))
def wholeB (p : List Ins) : Bool := decide (p.length ≤ 64) && p.all (goodB p.length)

theorem goodAt_nat {p : List Ins} {i : Nat} (h : i < p.length) : goodAt p (i : Int) = goodB p.length (ins p i) := by
  unfold goodAt
  have h1 : (0 : Int) ≤ (i : Int) := by omega
  have h2 : (i : Int) < (p.length : Int) := by omega
  simp [h1, h2]
theorem wholeB_iff {p : List Ins} : wholeB p = true ↔ p.length ≤ 64 ∧ ∀ i, i < p.length → goodB p.length (ins p i) = true := by
  unfold wholeB
  simp only [Bool.and_eq_true, decide_eq_true_eq, List.all_eq_true]
  refine and_congr Iff.rfl ⟨fun h i hi => h _ ?_, fun h x hx => ?_⟩
  · exact List.mem_of_getElem? (ins_get hi)
  · obtain ⟨i, hi⟩ := List.getElem?_of_mem hx
    have := h i (List.getElem?_eq_some_iff.1 hi).1
    rw [ins_at hi] at this
    exact this

/-- The places of an operation's numbers, and of those that are used. -/
def numQ (op : Int) : List Nat := if opB op then [0, 1, 2] else []
def usQ (op : Int) : List Nat := (numQ op).filter (fun k => sc op k != 45)
/-- The numbers that are used. -/
def usedL (x : Ins) : List Int := (usQ x.1).map (nk x)
theorem numQ_lt {op : Int} {k : Nat} (h : k ∈ numQ op) : k < 3 := by
  unfold numQ at h
  split at h
  · simp at h; omega
  · simp at h
theorem usQ_mem {op : Int} {k : Nat} (h : k ∈ usQ op) : k < 3 ∧ sc op k ≠ 45 ∧ opB op = true := by
  unfold usQ at h
  obtain ⟨h1, h2⟩ := List.mem_filter.1 h
  refine ⟨numQ_lt h1, by simpa using h2, ?_⟩
  unfold numQ at h1
  split at h1
  · assumption
  · simp at h1
theorem usQ_len (op : Int) : (usQ op).length ≤ 3 := by
  unfold usQ
  refine Nat.le_trans (List.length_filter_le _ _) ?_
  unfold numQ
  split <;> simp

end Go.Proofs.YteiidkojofaamaaDoor
namespace Go.Proofs.YteiidkojofaamaaDoor
open Go.RowKit

/-- All blocks but those of S are as they were. -/
structure But (S : List Nat) (w w' : World) : Prop where
  os : w'.os = w.os
  tape : w'.tape = w.tape
  output : w'.output = w.output
  size : w.heap.size ≤ w'.heap.size
  block : ∀ k, k < w.heap.size → k ∉ S → w'.heap[k]? = w.heap[k]?

theorem But.refl (S : List Nat) (w : World) : But S w w := ⟨rfl, rfl, rfl, Nat.le_refl _, fun _ _ _ => rfl⟩
theorem But.trans {S : List Nat} {a b c : World} (h : But S a b) (k : But S b c) : But S a c :=
  ⟨k.os.trans h.os, k.tape.trans h.tape, k.output.trans h.output, Nat.le_trans h.size k.size, fun i hi hs => (k.block i (Nat.lt_of_lt_of_le hi h.size) hs).trans (h.block i hi hs)⟩
theorem But.mono {S T : List Nat} {a b : World} (h : But S a b) (hs : ∀ x ∈ S, x ∈ T) : But T a b :=
  ⟨h.os, h.tape, h.output, h.size, fun i hi ht => h.block i hi (fun e => ht (hs i e))⟩
theorem But.wide {S : List Nat} {a b : World} (h : But [] a b) : But S a b := h.mono (by simp)
theorem But.drew {S : List Nat} {a b : World} (h : But S a b) : But S a b.drew := h.trans ⟨rfl, rfl, rfl, Nat.le_refl _, fun _ _ _ => rfl⟩
theorem But.drewN {S : List Nat} {a b : World} (h : But S a b) (n : Nat) : But S a (b.drewN n) := h.trans ⟨rfl, rfl, rfl, Nat.le_refl _, fun _ _ _ => rfl⟩
theorem But.set {S : List Nat} {a b : World} (h : But S a b) {p : Addr} (hp : p.block ∈ S) (u : Value) : But S a (b.setCell p u) :=
  h.trans ⟨rfl, rfl, rfl, by simp [World.setCell], fun k _ hk => Below.heap_setCell _ _ _ _ (fun e => hk (e ▸ hp))⟩
theorem But.alloc {S : List Nat} {a b : World} (h : But S a b) (o : Obj) : But S a (b.alloc o) :=
  h.trans ⟨rfl, rfl, rfl, by simp, fun k hk _ => Below.heap_alloc _ _ _ hk⟩
/-- What is new, and turned, is no block of old. -/
theorem But.below {S : List Nat} {a b : World} (h : But S a b) {n : Nat} (hn : n ≤ a.heap.size) (hS : ∀ x ∈ S, n ≤ x) : Below n a b :=
  ⟨h.os, h.tape, h.output, h.size, fun k hk => h.block k (by omega) (fun e => by have := hS k e; omega)⟩
theorem But.of_below {S : List Nat} {a b : World} (h : Below a.heap.size a b) : But S a b := ⟨h.os, h.tape, h.output, h.size, fun k hk _ => h.block k hk⟩
theorem But.to_below {a b : World} (h : But [] a b) : Below a.heap.size a b := h.below (Nat.le_refl _) (by simp)
/-- Beyond what was there then, any block may turn. -/
theorem But.trans_new {S T : List Nat} {a b c : World} (h : But S a b) (k : But T b c) (hT : ∀ x ∈ T, x ∈ S ∨ a.heap.size ≤ x) : But S a c :=
  ⟨k.os.trans h.os, k.tape.trans h.tape, k.output.trans h.output, Nat.le_trans h.size k.size, fun i hi hs =>
    (k.block i (Nat.lt_of_lt_of_le hi h.size) (fun e => (hT i e).elim hs (fun l => by omega))).trans (h.block i hi hs)⟩
theorem But.cell {w w' : World} (h : But [] w w') {p : Addr} {v : Value} (hc : w.cell? p = some v) : w'.cell? p = some v :=
  (World.cell?_of_block (h.block p.block (World.block_lt_of_cell? w p hc) (by simp))).trans hc
theorem But.cell' {S : List Nat} {w w' : World} (h : But S w w') {p : Addr} {v : Value} (hc : w.cell? p = some v) (hp : p.block ∉ S) : w'.cell? p = some v :=
  (World.cell?_of_block (h.block p.block (World.block_lt_of_cell? w p hc) hp)).trans hc
theorem cell_on {w w' : World} (hb : Below w.heap.size w w') {p : Addr} {v : Value} (h : w.cell? p = some v) : w'.cell? p = some v :=
  (hb.cell (World.block_lt_of_cell? w p h)).trans h

/-- Nothing but a few draws lie between. -/
def Drawn (w w' : World) : Prop := ∃ k, w' = w.drewN k
theorem Drawn.trans {a b c : World} (h : Drawn a b) (k : ∃ k, c = b.drewN k) : Drawn a c := by
  obtain ⟨x, rfl⟩ := h
  obtain ⟨y, rfl⟩ := k
  exact ⟨x + y, by simp [World.drewN, Nat.add_assoc]⟩
theorem Drawn.refl (w : World) : Drawn w w := ⟨0, rfl⟩
theorem Drawn.drew {a b : World} (h : Drawn a b) : Drawn a b.drew := h.trans ⟨1, rfl⟩
theorem Drawn.but {S : List Nat} {a b : World} (h : Drawn a b) : But S a b := by
  obtain ⟨k, rfl⟩ := h
  exact (But.refl S a).drewN k

/-- Block G begins with these values. -/
def Row (w : World) (G : Nat) (t : TypeId) (vs : List Value) : Prop := ∃ cur : Array Value, w.heap[G]? = some (.cells cur t (0, 0)) ∧ ∀ (j : Nat) (v : Value), vs[j]? = some v → cur[j]? = some v

section
variable {w w' : World} {G : Nat} {t : TypeId} {vs : List Value}
theorem Row.lt (h : Row w G t vs) : G < w.heap.size := by
  obtain ⟨cur, h, _⟩ := h
  exact (Array.getElem?_eq_some_iff.1 h).1
theorem Row.cell (h : Row w G t vs) {j : Nat} {v : Value} (hv : vs[j]? = some v) : w.cell? ⟨G, j, none⟩ = some v := by
  obtain ⟨cur, h, k⟩ := h
  simp [World.cell?, h, k j v hv]
theorem Row.fz (h : Row w G t vs) (j : Nat) : w.frozen? ⟨G, j, none⟩ = false := by
  obtain ⟨cur, h, _⟩ := h
  simp [World.frozen?, h]
theorem Row.put (h : Row w G t vs) (e : w'.heap[G]? = w.heap[G]?) : Row w' G t vs := by
  obtain ⟨cur, h, k⟩ := h
  exact ⟨cur, e.trans h, k⟩
theorem Row.set (h : Row w G t vs) (j : Nat) (v : Value) : Row (w.setCell ⟨G, j, none⟩ v) G t (vs.set j v) := by
  obtain ⟨cur, h, k⟩ := h
  refine ⟨_, heap_setCell_same w G j _ t v h, fun i u hu => ?_⟩
  by_cases hij : j = i
  · subst hij
    rw [List.getElem?_set_self'] at hu
    cases hq : vs[j]? with
    | none => simp [hq] at hu
    | some q =>
      have hk := k j q hq
      have hlt := (Array.getElem?_eq_some_iff.1 hk).1
      simp [hq] at hu
      subst hu
      simp [hlt]
  · rw [List.getElem?_set_ne hij] at hu
    have hk := k i u hu
    simp [hij, hk]
theorem Row.other (h : Row w G t vs) {K : Nat} (hne : G ≠ K) (j : Nat) (v : Value) : Row (w.setCell ⟨K, j, none⟩ v) G t vs := h.put (Below.heap_setCell w ⟨K, j, none⟩ v G hne)
end

theorem ownsRow_put {w w' : World} {base : Nat} {e : TypeId} {size : Nat} {v : Value} {n : Nat} {xs : List Value} (h : w.ownsRow base e size v n xs) (hk : ∀ k, v.ownBlock = some k → w'.heap[k]? = w.heap[k]?) : w'.ownsRow base e size v n xs := by
  refine ⟨h.1, ?_⟩
  rcases h.2 with h | ⟨g, cap, cur, rfl, h2, h3, h4⟩
  · exact .inl h
  · exact .inr ⟨g, cap, cur, rfl, h2, (hk g rfl).trans h3, h4⟩

theorem Hid.mk {p : Prop} (h : p) : Hid p := h

/-- Bytes as cells. -/
def bc (bs : List UInt8) : List Value := bs.map (fun b => Value.int .u8 (b.toNat : Int))
theorem bc_len (bs : List UInt8) : (bc bs).length = bs.length := by simp [bc]
theorem bc_app (xs bs : List UInt8) : bc (xs ++ bs) = bc xs ++ bc bs := by simp [bc]
theorem bc_get {bs : List UInt8} {j : Nat} {b : UInt8} (h : bs[j]? = some b) : (bc bs)[j]? = some (.int .u8 (b.toNat : Int)) := by simp [bc, h]
theorem bc_out {bs : List UInt8} {j : Nat} {v : Value} (h : (bc bs)[j]? = some v) : ∃ b, bs[j]? = some b ∧ v = .int .u8 (b.toNat : Int) := by
  unfold bc at h
  rw [List.getElem?_map] at h
  obtain ⟨b, hb, rfl⟩ := Option.map_eq_some_iff.1 h
  exact ⟨b, hb, rfl⟩

/-- A slice of bytes, wherever it lies; no block of it is B. -/
def Byts (w : World) (B : Nat) (a : Option Addr) (c : Nat) (bs : List UInt8) : Prop :=
  (c = 0 ∧ bs = []) ∨ ∃ G o, a = some ⟨G, o, none⟩ ∧ G < B ∧ bs.length ≤ c ∧ c ≤ maxLen ∧ ∀ j b, bs[j]? = some b → w.cell? ⟨G, o + j, none⟩ = some (.int .u8 (b.toNat : Int))

section
variable {w w' : World} {B c : Nat} {a : Option Addr} {bs : List UInt8}
theorem Byts.but {S : List Nat} (h : Byts w B a c bs) (hb : But S w w') (hS : ∀ x ∈ S, B ≤ x) : Byts w' B a c bs := by
  rcases h with h | ⟨G, o, e, hG, hl, hm, hc⟩
  · exact .inl h
  · exact .inr ⟨G, o, e, hG, hl, hm, fun j b hj => hb.cell' (hc j b hj) (fun hx => by have := hS G hx; omega)⟩
theorem Byts.up {C : Nat} (h : Byts w B a c bs) (hC : B ≤ C) : Byts w C a c bs := by
  rcases h with h | ⟨G, o, e, hG, hl, hm, hc⟩
  · exact .inl h
  · exact .inr ⟨G, o, e, by omega, hl, hm, hc⟩
theorem Byts.len (h : Byts w B a c bs) : bs.length ≤ c := by
  rcases h with ⟨rfl, rfl⟩ | ⟨G, o, e, hG, hl, hm, hc⟩
  · simp
  · exact hl
theorem Byts.cap (h : Byts w B a c bs) : c ≤ maxLen := by
  rcases h with ⟨rfl, rfl⟩ | ⟨G, o, e, hG, hl, hm, hc⟩
  · exact Nat.zero_le _
  · exact hm
/-- A slice of bytes that the call made. -/
def Own (w : World) (lo : Nat) (v : Value) (bs : List UInt8) : Prop := w.ownsRow lo 5 1 v bs.length (bc bs)
theorem Own.byts {lo : Nat} {v : Value} (h : Own w lo v bs) : ∃ a c, v = .slice a bs.length c ∧ Byts w w.heap.size a c bs := by
  have h' := h
  rcases h.2 with ⟨rfl, h0⟩ | ⟨g, cap, cur, rfl, hg, hb, hc, hm, _⟩
  · exact ⟨none, 0, by rw [h0], .inl ⟨rfl, List.eq_nil_of_length_eq_zero h0⟩⟩
  · refine ⟨_, cap, rfl, .inr ⟨g, 0, rfl, (Array.getElem?_eq_some_iff.1 hb).1, hc, hm, fun j b hj => ?_⟩⟩
    have := h'.cells rfl j _ (bc_get hj)
    rwa [WideShapes.add_plain] at this
theorem Own.but {S : List Nat} {lo : Nat} {v : Value} (h : Own w lo v bs) (hb : But S w w') (hS : ∀ x ∈ S, x < lo) : Own w' lo v bs := by
  refine ⟨h.1, ?_⟩
  rcases h.2 with h | ⟨g, cap, cur, h1, h2, h3, h4⟩
  · exact .inl h
  · exact .inr ⟨g, cap, cur, h1, h2, (hb.block g (Array.getElem?_eq_some_iff.1 h3).1 (fun e => by have := hS g e; omega)).trans h3, h4⟩
theorem Own.lower {lo lo' : Nat} {v : Value} (h : Own w lo v bs) (hl : lo' ≤ lo) : Own w lo' v bs :=
  ⟨h.1, h.2.imp id (fun ⟨g, cap, cur, h1, h2, h3⟩ => ⟨g, cap, cur, h1, by omega, h3⟩)⟩
end

/-- A source of the program's at B: the error x, the bytes bs left. -/
def SR (w : World) (B x : Nat) (bs : List UInt8) : Prop := ∃ a c, w.heap[B]? = some (.cells #[.bool true, .slice a bs.length c, .int .i64 (x : Int)] 88 (0, 0)) ∧ Byts w B a c bs
/-- The same, where behind an error whatever bytes are left count for none. -/
def SQ (w : World) (B : Nat) (st : Nat × List UInt8) : Prop := ∃ bs, SR w B st.1 bs ∧ (st.1 = 0 → bs = st.2) ∧ (st.1 ≠ 0 → st.2 = [])

section
variable {w w' : World} {B x : Nat} {bs : List UInt8} {st : Nat × List UInt8}
theorem SR.lt (h : SR w B x bs) : B < w.heap.size := by
  obtain ⟨a, c, h, _⟩ := h
  exact (Array.getElem?_eq_some_iff.1 h).1
theorem SR.but {S : List Nat} (h : SR w B x bs) (hb : But S w w') (hS : ∀ y ∈ S, B < y) : SR w' B x bs := by
  have hl := h.lt
  obtain ⟨a, c, h, k⟩ := h
  exact ⟨a, c, (hb.block B hl (fun e => by have := hS B e; omega)).trans h, k.but hb (fun y hy => by have := hS y hy; omega)⟩
theorem SR.keep (h : SR w B x bs) (hb : But [] w w') : SR w' B x bs := h.but hb (by simp)
theorem SQ.lt (h : SQ w B st) : B < w.heap.size := by
  obtain ⟨bs, h, _⟩ := h
  exact h.lt
theorem SQ.but {S : List Nat} (h : SQ w B st) (hb : But S w w') (hS : ∀ y ∈ S, B < y) : SQ w' B st := by
  obtain ⟨bs, h, k⟩ := h
  exact ⟨bs, h.but hb hS, k⟩
theorem SQ.keep (h : SQ w B st) (hb : But [] w w') : SQ w' B st := h.but hb (by simp)
end

/-- What goes up where the bytes are wrong. -/
def flt (x : Nat) : PanicEntry := { v := .iface 98 (.int .i64 (x : Int)), recovered := false }

/-- What a step tells: a value, and what is left; or what goes up. -/
def Told (B : Nat) (w w' : World) (e : Ending) (v : Value) (x : Nat) (t : List UInt8) : Prop :=
  But [B] w w' ∧ ((x = 0 ∧ e = .returned v ∧ SR w' B 0 t) ∨ (x ≠ 0 ∧ e = .panicked [flt x] ∧ ∃ t', SR w' B 0 t'))

end Go.Proofs.YteiidkojofaamaaDoor
