/- What is kept beside what turns; claims and ints as they lie in memory. -/
import Derived.Test.YtkeoccjobcdldaaShr
import Derived.Test.YtkeoccjobcdldaaBigFns
import Derived.ProofKit
import Derived.BigQuiet
import Derived.OwnWalk
import Derived.Below
import Derived.WalkSmall
namespace Go.Proofs.Ytkeoccjobcdldaa
open Go.RowKit

/-- All blocks but those of S are as they were. -/
structure But (S : List Nat) (w w' : World) : Prop where
  os : w'.os = w.os
  tape : w'.tape = w.tape
  output : w'.output = w.output
  size : w.heap.size ≤ w'.heap.size
  block : ∀ k, k < w.heap.size → k ∉ S → w'.heap[k]? = w.heap[k]?

theorem But.refl (S : List Nat) (w : World) : But S w w := ⟨rfl, rfl, rfl, Nat.le_refl _, fun _ _ _ => rfl⟩
theorem But.trans {S : List Nat} {a b c : World} (h : But S a b) (k : But S b c) : But S a c :=
  ⟨k.os.trans h.os, k.tape.trans h.tape, k.output.trans h.output, Nat.le_trans h.size k.size, fun i hi hs => (k.block i (Nat.lt_of_lt_of_le hi h.size) hs).trans (h.block i hi hs)⟩
theorem But.mono {S T : List Nat} {a b : World} (h : But S a b) (hs : ∀ x ∈ S, x ∈ T) : But T a b :=
  ⟨h.os, h.tape, h.output, h.size, fun i hi ht => h.block i hi (fun e => ht (hs i e))⟩
theorem But.wide {S : List Nat} {a b : World} (h : But [] a b) : But S a b := h.mono (by simp)
theorem But.drew {S : List Nat} {a b : World} (h : But S a b) : But S a b.drew := h.trans ⟨rfl, rfl, rfl, Nat.le_refl _, fun _ _ _ => rfl⟩
theorem But.drewN {S : List Nat} {a b : World} (h : But S a b) (n : Nat) : But S a (b.drewN n) := h.trans ⟨rfl, rfl, rfl, Nat.le_refl _, fun _ _ _ => rfl⟩
theorem But.set {S : List Nat} {a b : World} (h : But S a b) {p : Addr} (hp : p.block ∈ S) (u : Value) : But S a (b.setCell p u) :=
  h.trans ⟨rfl, rfl, rfl, by simp [World.setCell], fun k _ hk => Below.heap_setCell _ _ _ _ (fun e => hk (e ▸ hp))⟩
theorem But.alloc {S : List Nat} {a b : World} (h : But S a b) (o : Obj) : But S a (b.alloc o) :=
  h.trans ⟨rfl, rfl, rfl, by simp, fun k hk _ => Below.heap_alloc _ _ _ hk⟩
/-- What is new, and turned, is no block of old. -/
theorem But.below {S : List Nat} {a b : World} (h : But S a b) {n : Nat} (hn : n ≤ a.heap.size) (hS : ∀ x ∈ S, n ≤ x) : Below n a b :=
  ⟨h.os, h.tape, h.output, h.size, fun k hk => h.block k (by omega) (fun e => by have := hS k e; omega)⟩
theorem But.of_below {S : List Nat} {a b : World} (h : Below a.heap.size a b) : But S a b := ⟨h.os, h.tape, h.output, h.size, fun k hk _ => h.block k hk⟩
theorem But.to_below {a b : World} (h : But [] a b) : Below a.heap.size a b := h.below (Nat.le_refl _) (by simp)
/-- Beyond what was there then, any block may turn. -/
theorem But.trans_new {S T : List Nat} {a b c : World} (h : But S a b) (k : But T b c) (hT : ∀ x ∈ T, x ∈ S ∨ a.heap.size ≤ x) : But S a c :=
  ⟨k.os.trans h.os, k.tape.trans h.tape, k.output.trans h.output, Nat.le_trans h.size k.size, fun i hi hs =>
    (k.block i (Nat.lt_of_lt_of_le hi h.size) (fun e => (hT i e).elim hs (fun l => by omega))).trans (h.block i hi hs)⟩
theorem But.cell {w w' : World} (h : But [] w w') {p : Addr} {v : Value} (hc : w.cell? p = some v) : w'.cell? p = some v :=
  (World.cell?_of_block (h.block p.block (World.block_lt_of_cell? w p hc) (by simp))).trans hc
theorem But.cell' {S : List Nat} {w w' : World} (h : But S w w') {p : Addr} {v : Value} (hc : w.cell? p = some v) (hp : p.block ∉ S) : w'.cell? p = some v :=
  (World.cell?_of_block (h.block p.block (World.block_lt_of_cell? w p hc) hp)).trans hc
theorem cell_on {w w' : World} (hb : Below w.heap.size w w') {p : Addr} {v : Value} (h : w.cell? p = some v) : w'.cell? p = some v :=
  (hb.cell (World.block_lt_of_cell? w p h)).trans h

/-- Nothing but a few draws lie between. -/
def Drawn (w w' : World) : Prop := ∃ k, w' = w.drewN k
theorem Drawn.trans {a b c : World} (h : Drawn a b) (k : ∃ k, c = b.drewN k) : Drawn a c := by
  obtain ⟨x, rfl⟩ := h
  obtain ⟨y, rfl⟩ := k
  exact ⟨x + y, by simp [World.drewN, Nat.add_assoc]⟩
theorem Drawn.refl (w : World) : Drawn w w := ⟨0, rfl⟩
theorem Drawn.drew {a b : World} (h : Drawn a b) : Drawn a b.drew := h.trans ⟨1, rfl⟩
theorem Drawn.but {S : List Nat} {a b : World} (h : Drawn a b) : But S a b := by
  obtain ⟨k, rfl⟩ := h
  exact (But.refl S a).drewN k

/-- Block G begins with these values. -/
def Row (w : World) (G : Nat) (t : TypeId) (vs : List Value) : Prop := ∃ cur : Array Value, w.heap[G]? = some (.cells cur t (0, 0)) ∧ ∀ (j : Nat) (v : Value), vs[j]? = some v → cur[j]? = some v

section
variable {w w' : World} {G : Nat} {t : TypeId} {vs : List Value}
theorem Row.lt (h : Row w G t vs) : G < w.heap.size := by
  obtain ⟨cur, h, _⟩ := h
  exact (Array.getElem?_eq_some_iff.1 h).1
theorem Row.cell (h : Row w G t vs) {j : Nat} {v : Value} (hv : vs[j]? = some v) : w.cell? ⟨G, j, none⟩ = some v := by
  obtain ⟨cur, h, k⟩ := h
  simp [World.cell?, h, k j v hv]
theorem Row.fz (h : Row w G t vs) (j : Nat) : w.frozen? ⟨G, j, none⟩ = false := by
  obtain ⟨cur, h, _⟩ := h
  simp [World.frozen?, h]
theorem Row.put (h : Row w G t vs) (e : w'.heap[G]? = w.heap[G]?) : Row w' G t vs := by
  obtain ⟨cur, h, k⟩ := h
  exact ⟨cur, e.trans h, k⟩
theorem Row.set (h : Row w G t vs) (j : Nat) (v : Value) : Row (w.setCell ⟨G, j, none⟩ v) G t (vs.set j v) := by
  obtain ⟨cur, h, k⟩ := h
  refine ⟨_, heap_setCell_same w G j _ t v h, fun i u hu => ?_⟩
  by_cases hij : j = i
  · subst hij
    rw [List.getElem?_set_self'] at hu
    cases hq : vs[j]? with
    | none => simp [hq] at hu
    | some q =>
      have hk := k j q hq
      have hlt := (Array.getElem?_eq_some_iff.1 hk).1
      simp [hq] at hu
      subst hu
      simp [hlt]
  · rw [List.getElem?_set_ne hij] at hu
    have hk := k i u hu
    simp [hij, hk]
theorem Row.other (h : Row w G t vs) {K : Nat} (hne : G ≠ K) (j : Nat) (v : Value) : Row (w.setCell ⟨K, j, none⟩ v) G t vs := h.put (Below.heap_setCell w ⟨K, j, none⟩ v G hne)
end


theorem ownsRow_put {w w' : World} {base : Nat} {e : TypeId} {size : Nat} {v : Value} {n : Nat} {xs : List Value} (h : w.ownsRow base e size v n xs) (hk : ∀ k, v.ownBlock = some k → w'.heap[k]? = w.heap[k]?) : w'.ownsRow base e size v n xs := by
  refine ⟨h.1, ?_⟩
  rcases h.2 with h | ⟨g, cap, cur, rfl, h2, h3, h4⟩
  · exact .inl h
  · exact .inr ⟨g, cap, cur, rfl, h2, (hk g rfl).trans h3, h4⟩


/-- A number that is an int. -/
def I64 (x : Int) : Prop := -9223372036854775808 ≤ x ∧ x ≤ 9223372036854775807
/-- Claims in memory; ints in memory. -/
def CL (w : World) (a : Option Addr) (cs : List (Int × Int)) : Prop := ∀ j, j < cs.length → ∃ b o, a = some ⟨b, o, none⟩ ∧ w.cell? ⟨b, o + j * 2, none⟩ = some (.int .i64 (wt cs j)) ∧ w.cell? ⟨b, o + j * 2 + 1, none⟩ = some (.int .i64 (dm cs j))
def IX (w : World) (a : Option Addr) (xs : List Int) : Prop := ∀ j, j < xs.length → ∃ b o, a = some ⟨b, o, none⟩ ∧ w.cell? ⟨b, o + j, none⟩ = some (.int .i64 (ix xs j))
theorem CL.below {w w' : World} {a : Option Addr} {cs : List (Int × Int)} (h : CL w a cs) (hb : Below w.heap.size w w') : CL w' a cs := fun j hj => by
  obtain ⟨b, o, e, h0, h1⟩ := h j hj
  exact ⟨b, o, e, cell_on hb h0, cell_on hb h1⟩
theorem IX.below {w w' : World} {a : Option Addr} {xs : List Int} (h : IX w a xs) (hb : Below w.heap.size w w') : IX w' a xs := fun j hj => by
  obtain ⟨b, o, e, h0⟩ := h j hj
  exact ⟨b, o, e, cell_on hb h0⟩
theorem CL.alloc {w : World} {a : Option Addr} {cs : List (Int × Int)} (h : CL w a cs) (o : Obj) : CL (w.alloc o) a cs := h.below ((Below.refl _ _).alloc (Nat.le_refl _) _)
theorem IX.alloc {w : World} {a : Option Addr} {xs : List Int} (h : IX w a xs) (o : Obj) : IX (w.alloc o) a xs := h.below ((Below.refl _ _).alloc (Nat.le_refl _) _)
theorem CL.nil (w : World) (a : Option Addr) : CL w a [] := fun j hj => by simp at hj
theorem IX.nil (w : World) (a : Option Addr) : IX w a [] := fun j hj => by simp at hj
/-- Claims, ints that are ints. -/
def OkL (ls : List (Int × Int)) : Prop := ∀ i, i < ls.length → I64 (wt ls i) ∧ I64 (dm ls i)
def OkX (xs : List Int) : Prop := ∀ i, i < xs.length → I64 (ix xs i)
theorem below2 {B : Nat} {w W w1 : World} (k : Below B w W) (m : B ≤ W.heap.size) (hb : Below W.heap.size W w1) : Below B w w1 := k.trans (hb.mono m)
theorem below_drewN {B : Nat} {w W : World} (h : Below B w W) (k : Nat) : Below B w (W.drewN k) := h.trans ⟨rfl, rfl, rfl, Nat.le_refl _, fun _ _ => rfl⟩
/-- Cells that are kept, and nothing of old has turned. -/
def Held (w : World) (cs : List (Addr × Value)) (w' : World) : Prop := (∀ c ∈ cs, w'.cell? c.1 = some c.2) ∧ Below w.heap.size w w' ∧ w.heap.size ≤ w'.heap.size
theorem Held.drew {w W : World} {cs : List (Addr × Value)} (h : Held w cs W) : Held w cs W.drew := ⟨h.1, h.2.1.drew, h.2.2⟩
theorem Held.step {w W w1 : World} {cs : List (Addr × Value)} (h : Held w cs W) (hb : Below W.heap.size W w1) : Held w cs w1 := ⟨fun c hc => cell_on hb (h.1 c hc), below2 h.2.1 h.2.2 hb, Nat.le_trans h.2.2 hb.size⟩
end Go.Proofs.Ytkeoccjobcdldaa
