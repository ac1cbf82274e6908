/- Queues as they lie in memory: the program's, in two blocks; what is kept beside them. -/
import Derived.Test.YtfobfkidpdlkeaaRows
import Derived.ProofKit
import Derived.BigQuiet
import Derived.OwnWalk
import Derived.Below
import Derived.WalkSmall
namespace Go.Proofs.Ytfobfkidpdlkeaa
open Go.RowKit

/-- All blocks but those of S are as they were. -/
structure But (S : List Nat) (w w' : World) : Prop where
  os : w'.os = w.os
  tape : w'.tape = w.tape
  output : w'.output = w.output
  size : w.heap.size ≤ w'.heap.size
  block : ∀ k, k < w.heap.size → k ∉ S → w'.heap[k]? = w.heap[k]?

theorem But.refl (S : List Nat) (w : World) : But S w w := ⟨rfl, rfl, rfl, Nat.le_refl _, fun _ _ _ => rfl⟩
theorem But.trans {S : List Nat} {a b c : World} (h : But S a b) (k : But S b c) : But S a c :=
  ⟨k.os.trans h.os, k.tape.trans h.tape, k.output.trans h.output, Nat.le_trans h.size k.size, fun i hi hs => (k.block i (Nat.lt_of_lt_of_le hi h.size) hs).trans (h.block i hi hs)⟩
theorem But.mono {S T : List Nat} {a b : World} (h : But S a b) (hs : ∀ x ∈ S, x ∈ T) : But T a b :=
  ⟨h.os, h.tape, h.output, h.size, fun i hi ht => h.block i hi (fun e => ht (hs i e))⟩
theorem But.drew {S : List Nat} {a b : World} (h : But S a b) : But S a b.drew := h.trans ⟨rfl, rfl, rfl, Nat.le_refl _, fun _ _ _ => rfl⟩
theorem But.drewN {S : List Nat} {a b : World} (h : But S a b) (n : Nat) : But S a (b.drewN n) := h.trans ⟨rfl, rfl, rfl, Nat.le_refl _, fun _ _ _ => rfl⟩
theorem But.set {S : List Nat} {a b : World} (h : But S a b) {p : Addr} (hp : p.block ∈ S) (u : Value) : But S a (b.setCell p u) :=
  h.trans ⟨rfl, rfl, rfl, by simp [World.setCell], fun k _ hk => Below.heap_setCell _ _ _ _ (fun e => hk (e ▸ hp))⟩
theorem But.setB {B G : Nat} {a b : World} (h : But [B, G] a b) (o : Nat) (u : Value) : But [B, G] a (b.setCell ⟨B, o, none⟩ u) := h.set (p := ⟨B, o, none⟩) (by simp) u
theorem But.setG {B G : Nat} {a b : World} (h : But [B, G] a b) (o : Nat) (u : Value) : But [B, G] a (b.setCell ⟨G, o, none⟩ u) := h.set (p := ⟨G, o, none⟩) (by simp) u
theorem But.alloc {S : List Nat} {a b : World} (h : But S a b) (o : Obj) : But S a (b.alloc o) :=
  h.trans ⟨rfl, rfl, rfl, by simp, fun k hk _ => Below.heap_alloc _ _ _ hk⟩
/-- What is new, and turned, is no block of old. -/
theorem But.below {S : List Nat} {a b : World} (h : But S a b) {n : Nat} (hn : n ≤ a.heap.size) (hS : ∀ x ∈ S, n ≤ x) : Below n a b :=
  ⟨h.os, h.tape, h.output, h.size, fun k hk => h.block k (by omega) (fun e => by have := hS k e; omega)⟩
theorem But.of_below {S : List Nat} {a b : World} (h : Below a.heap.size a b) : But S a b := ⟨h.os, h.tape, h.output, h.size, fun k hk _ => h.block k hk⟩
/-- Beyond what was there then, any block may turn. -/
theorem But.trans_new {S T : List Nat} {a b c : World} (h : But S a b) (k : But T b c) (hT : ∀ x ∈ T, x ∈ S ∨ a.heap.size ≤ x) : But S a c :=
  ⟨k.os.trans h.os, k.tape.trans h.tape, k.output.trans h.output, Nat.le_trans h.size k.size, fun i hi hs =>
    (k.block i (Nat.lt_of_lt_of_le hi h.size) (fun e => (hT i e).elim hs (fun l => by omega))).trans (h.block i hi hs)⟩

/-- A queue of the program's: block B has slots, first, count; block G the slots' numbers. -/
structure RM (w : World) (B G n f c : Nat) (xs : List Int) : Prop where
  b : w.heap[B]? = some (.cells #[.slice (some ⟨G, 0, none⟩) n n, .int .i64 f, .int .i64 c] 50 (0, 0))
  g : w.heap[G]? = some (.cells (xs.map (Value.int .i64)).toArray 3 (0, 0))
  ne : B ≠ G
  len : xs.length = n
  pos : 1 ≤ n
  le : n ≤ 4096
  fn : f < n
  cn : c ≤ n

section
variable {w w' : World} {B G n f c : Nat} {xs : List Int}
theorem RM.ltB (h : RM w B G n f c xs) : B < w.heap.size := (Array.getElem?_eq_some_iff.1 h.b).1
theorem RM.ltG (h : RM w B G n f c xs) : G < w.heap.size := (Array.getElem?_eq_some_iff.1 h.g).1
theorem RM.c0 (h : RM w B G n f c xs) : w.cell? ⟨B, 0, none⟩ = some (.slice (some ⟨G, 0, none⟩) n n) := by simp [World.cell?, h.b]
theorem RM.c1 (h : RM w B G n f c xs) : w.cell? ⟨B, 1, none⟩ = some (.int .i64 f) := by simp [World.cell?, h.b]
theorem RM.c2 (h : RM w B G n f c xs) : w.cell? ⟨B, 2, none⟩ = some (.int .i64 c) := by simp [World.cell?, h.b]
theorem RM.fB (h : RM w B G n f c xs) (j : Nat) : w.frozen? ⟨B, j, none⟩ = false := by simp [World.frozen?, h.b]
theorem RM.fG (h : RM w B G n f c xs) (j : Nat) : w.frozen? ⟨G, j, none⟩ = false := by simp [World.frozen?, h.g]
theorem RM.x (h : RM w B G n f c xs) {j : Nat} {x : Int} (hx : xs[j]? = some x) : w.cell? ⟨G, j, none⟩ = some (.int .i64 x) := by
  simp [World.cell?, h.g, hx]
theorem RM.put (h : RM w B G n f c xs) (hb : w'.heap[B]? = w.heap[B]?) (hg : w'.heap[G]? = w.heap[G]?) : RM w' B G n f c xs :=
  ⟨hb.trans h.b, hg.trans h.g, h.ne, h.len, h.pos, h.le, h.fn, h.cn⟩
theorem RM.drew (h : RM w B G n f c xs) : RM w.drew B G n f c xs := h.put rfl rfl
theorem RM.drewN (h : RM w B G n f c xs) (k : Nat) : RM (w.drewN k) B G n f c xs := h.put rfl rfl
theorem RM.but {S : List Nat} (h : RM w B G n f c xs) (hb : But S w w') (h1 : B ∉ S) (h2 : G ∉ S) : RM w' B G n f c xs :=
  h.put (hb.block B h.ltB h1) (hb.block G h.ltG h2)
theorem RM.below {N : Nat} (h : RM w B G n f c xs) (hb : Below N w w') (h1 : B < N) (h2 : G < N) : RM w' B G n f c xs :=
  h.put (hb.block B h1) (hb.block G h2)
theorem RM.setF (h : RM w B G n f c xs) {f' : Nat} (hf : f' < n) : RM (w.setCell ⟨B, 1, none⟩ (.int .i64 f')) B G n f' c xs := by
  refine ⟨?_, (Below.heap_setCell w ⟨B, 1, none⟩ _ G (Ne.symm h.ne)).trans h.g, h.ne, h.len, h.pos, h.le, hf, h.cn⟩
  have := heap_setCell_same w B 1 _ 50 (.int .i64 f') h.b
  rw [this]
  rfl
theorem RM.setC (h : RM w B G n f c xs) {c' : Nat} (hc : c' ≤ n) : RM (w.setCell ⟨B, 2, none⟩ (.int .i64 c')) B G n f c' xs := by
  refine ⟨?_, (Below.heap_setCell w ⟨B, 2, none⟩ _ G (Ne.symm h.ne)).trans h.g, h.ne, h.len, h.pos, h.le, h.fn, hc⟩
  have := heap_setCell_same w B 2 _ 50 (.int .i64 c') h.b
  rw [this]
  rfl
theorem RM.setX (h : RM w B G n f c xs) (j : Nat) (x : Int) : RM (w.setCell ⟨G, j, none⟩ (.int .i64 x)) B G n f c (xs.set j x) := by
  refine ⟨(Below.heap_setCell w ⟨G, j, none⟩ _ B h.ne).trans h.b, ?_, h.ne, by simpa using h.len, h.pos, h.le, h.fn, h.cn⟩
  have := heap_setCell_same w G j _ 3 (.int .i64 x) h.g
  rw [this]
  simp [List.map_set]
end

/-- The slots hold these numbers, from place f on, gone round. -/
def Holds (xs : List Int) (n f : Nat) (q : List Int) : Prop := ∀ i x, q[i]? = some x → xs[(f + i) % n]? = some x

/-- The queue at B (slots in G) for n numbers has just q. -/
def RQ (w : World) (B G n : Nat) (q : List Int) : Prop := ∃ f xs, RM w B G n f q.length xs ∧ Holds xs n f q

theorem RQ.but {w w' : World} {B G n : Nat} {q : List Int} {S : List Nat} (h : RQ w B G n q) (hb : But S w w') (h1 : B ∉ S) (h2 : G ∉ S) : RQ w' B G n q := by
  obtain ⟨f, xs, h, k⟩ := h
  exact ⟨f, xs, h.but hb h1 h2, k⟩
theorem RQ.below {w w' : World} {B G n : Nat} {q : List Int} (h : RQ w B G n q) (hb : Below w.heap.size w w') : RQ w' B G n q := by
  obtain ⟨f, xs, h, k⟩ := h
  exact ⟨f, xs, h.below hb h.ltB h.ltG, k⟩

end Go.Proofs.Ytfobfkidpdlkeaa
