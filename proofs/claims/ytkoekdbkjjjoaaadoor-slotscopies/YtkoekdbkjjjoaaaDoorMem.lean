/- Slots as they lie in memory; what is kept beside them. -/
import Derived.Test.YtkoekdbkjjjoaaaDoorBits
import Derived.Test.YtkoekdbkjjjoaaaDoorRows
import Derived.ProofKit
import Derived.BigQuiet
import Derived.OwnWalk
import Derived.Below
import Derived.WalkSmall
namespace Go.Proofs.YtkoekdbkjjjoaaaDoor
open Go.RowKit

/-- All blocks but those of S are as they were. -/
structure But (S : List Nat) (w w' : World) : Prop where
  os : w'.os = w.os
  tape : w'.tape = w.tape
  output : w'.output = w.output
  size : w.heap.size ≤ w'.heap.size
  block : ∀ k, k < w.heap.size → k ∉ S → w'.heap[k]? = w.heap[k]?

theorem But.refl (S : List Nat) (w : World) : But S w w := ⟨rfl, rfl, rfl, Nat.le_refl _, fun _ _ _ => rfl⟩
theorem But.trans {S : List Nat} {a b c : World} (h : But S a b) (k : But S b c) : But S a c :=
  ⟨k.os.trans h.os, k.tape.trans h.tape, k.output.trans h.output, Nat.le_trans h.size k.size, fun i hi hs => (k.block i (Nat.lt_of_lt_of_le hi h.size) hs).trans (h.block i hi hs)⟩
theorem But.mono {S T : List Nat} {a b : World} (h : But S a b) (hs : ∀ x ∈ S, x ∈ T) : But T a b :=
  ⟨h.os, h.tape, h.output, h.size, fun i hi ht => h.block i hi (fun e => ht (hs i e))⟩
theorem But.wide {S : List Nat} {a b : World} (h : But [] a b) : But S a b := h.mono (by simp)
theorem But.drew {S : List Nat} {a b : World} (h : But S a b) : But S a b.drew := h.trans ⟨rfl, rfl, rfl, Nat.le_refl _, fun _ _ _ => rfl⟩
theorem But.drewN {S : List Nat} {a b : World} (h : But S a b) (n : Nat) : But S a (b.drewN n) := h.trans ⟨rfl, rfl, rfl, Nat.le_refl _, fun _ _ _ => rfl⟩
theorem But.set {S : List Nat} {a b : World} (h : But S a b) {p : Addr} (hp : p.block ∈ S) (u : Value) : But S a (b.setCell p u) :=
  h.trans ⟨rfl, rfl, rfl, by simp [World.setCell], fun k _ hk => Below.heap_setCell _ _ _ _ (fun e => hk (e ▸ hp))⟩
theorem But.alloc {S : List Nat} {a b : World} (h : But S a b) (o : Obj) : But S a (b.alloc o) :=
  h.trans ⟨rfl, rfl, rfl, by simp, fun k hk _ => Below.heap_alloc _ _ _ hk⟩
/-- What is new, and turned, is no block of old. -/
theorem But.below {S : List Nat} {a b : World} (h : But S a b) {n : Nat} (hn : n ≤ a.heap.size) (hS : ∀ x ∈ S, n ≤ x) : Below n a b :=
  ⟨h.os, h.tape, h.output, h.size, fun k hk => h.block k (by omega) (fun e => by have := hS k e; omega)⟩
theorem But.of_below {S : List Nat} {a b : World} (h : Below a.heap.size a b) : But S a b := ⟨h.os, h.tape, h.output, h.size, fun k hk _ => h.block k hk⟩
/-- Beyond what was there then, any block may turn. -/
theorem But.trans_new {S T : List Nat} {a b c : World} (h : But S a b) (k : But T b c) (hT : ∀ x ∈ T, x ∈ S ∨ a.heap.size ≤ x) : But S a c :=
  ⟨k.os.trans h.os, k.tape.trans h.tape, k.output.trans h.output, Nat.le_trans h.size k.size, fun i hi hs =>
    (k.block i (Nat.lt_of_lt_of_le hi h.size) (fun e => (hT i e).elim hs (fun l => by omega))).trans (h.block i hi hs)⟩
theorem Tab.but {S : List Nat} {a b : World} (h : Tab a) (k : But S a b) (hS : 0 ∉ S) : Tab b :=
  ⟨Nat.lt_of_lt_of_le h.1 k.size, fun j hj => by
    have e := k.block 0 h.1 hS
    have h2 := h.2 j hj
    simp only [World.cell?] at h2 ⊢
    rw [e]
    exact h2⟩

/-- Block G begins with these values. -/
def Row (w : World) (G : Nat) (t : TypeId) (vs : List Value) : Prop := ∃ cur : Array Value, w.heap[G]? = some (.cells cur t (0, 0)) ∧ ∀ (j : Nat) (v : Value), vs[j]? = some v → cur[j]? = some v

section
variable {w w' : World} {G : Nat} {t : TypeId} {vs : List Value}
theorem Row.lt (h : Row w G t vs) : G < w.heap.size := by
  obtain ⟨cur, h, _⟩ := h
  exact (Array.getElem?_eq_some_iff.1 h).1
theorem Row.cell (h : Row w G t vs) {j : Nat} {v : Value} (hv : vs[j]? = some v) : w.cell? ⟨G, j, none⟩ = some v := by
  obtain ⟨cur, h, k⟩ := h
  simp [World.cell?, h, k j v hv]
theorem Row.fz (h : Row w G t vs) (j : Nat) : w.frozen? ⟨G, j, none⟩ = false := by
  obtain ⟨cur, h, _⟩ := h
  simp [World.frozen?, h]
theorem Row.put (h : Row w G t vs) (e : w'.heap[G]? = w.heap[G]?) : Row w' G t vs := by
  obtain ⟨cur, h, k⟩ := h
  exact ⟨cur, e.trans h, k⟩
theorem Row.set (h : Row w G t vs) (j : Nat) (v : Value) : Row (w.setCell ⟨G, j, none⟩ v) G t (vs.set j v) := by
  obtain ⟨cur, h, k⟩ := h
  refine ⟨_, heap_setCell_same w G j _ t v h, fun i u hu => ?_⟩
  by_cases hij : j = i
  · subst hij
    rw [List.getElem?_set_self'] at hu
    cases hq : vs[j]? with
    | none => simp [hq] at hu
    | some q =>
      have hk := k j q hq
      have hlt := (Array.getElem?_eq_some_iff.1 hk).1
      simp [hq] at hu
      subst hu
      simp [hlt]
  · rw [List.getElem?_set_ne hij] at hu
    have hk := k i u hu
    simp [hij, hk]
end

/-- Whether the words have bit i. -/
def bitF (fs : List Nat) (i : Nat) : Bool := (fs.getD (i / 64) 0).testBit (i % 64)

/-- Slots of the program's: block B has 64 words and the ages' slice; block G the ages. -/
structure SM (w : World) (B G n c : Nat) (fs ag : List Nat) : Prop where
  b : w.heap[B]? = some (.cells (fs.map (fun x : Nat => Value.int .u64 x) ++ [Value.slice (some ⟨G, 0, none⟩) n c]).toArray 53 (0, 0))
  g : Row w G 3 (ag.map (fun x : Nat => Value.int .i64 x))
  ne : B ≠ G
  flen : fs.length = 64
  alen : ag.length = n
  pos : 1 ≤ n
  le : n ≤ 4096
  cap : n ≤ c
  fb : ∀ x ∈ fs, x < 18446744073709551616
  ab : ∀ x ∈ ag, x ≤ 2147483647

section
variable {w w' : World} {B G n c : Nat} {fs ag : List Nat}
theorem SM.ltB (h : SM w B G n c fs ag) : B < w.heap.size := (Array.getElem?_eq_some_iff.1 h.b).1
theorem SM.ltG (h : SM w B G n c fs ag) : G < w.heap.size := h.g.lt
theorem SM.c64 (h : SM w B G n c fs ag) : w.cell? ⟨B, 64, none⟩ = some (.slice (some ⟨G, 0, none⟩) n c) := by
  have e := h.flen
  simp [World.cell?, h.b, e]
theorem SM.fB (h : SM w B G n c fs ag) (j : Nat) : w.frozen? ⟨B, j, none⟩ = false := by simp [World.frozen?, h.b]
theorem SM.fG (h : SM w B G n c fs ag) (j : Nat) : w.frozen? ⟨G, j, none⟩ = false := h.g.fz j
theorem SM.f (h : SM w B G n c fs ag) {j x : Nat} (hx : fs[j]? = some x) : w.cell? ⟨B, j, none⟩ = some (.int .u64 x) := by
  have hj := (List.getElem?_eq_some_iff.1 hx).1
  have e := (List.getElem?_eq_some_iff.1 hx).2
  simp [World.cell?, h.b, List.getElem?_append_left, hj, e]
theorem SM.a (h : SM w B G n c fs ag) {j x : Nat} (hx : ag[j]? = some x) : w.cell? ⟨G, j, none⟩ = some (.int .i64 x) :=
  h.g.cell (by rw [List.getElem?_map, hx]; rfl)
theorem SM.put (h : SM w B G n c fs ag) (hb : w'.heap[B]? = w.heap[B]?) (hg : w'.heap[G]? = w.heap[G]?) : SM w' B G n c fs ag :=
  ⟨hb.trans h.b, h.g.put hg, h.ne, h.flen, h.alen, h.pos, h.le, h.cap, h.fb, h.ab⟩
theorem SM.but {S : List Nat} (h : SM w B G n c fs ag) (hb : But S w w') (h1 : B ∉ S) (h2 : G ∉ S) : SM w' B G n c fs ag :=
  h.put (hb.block B h.ltB h1) (hb.block G h.ltG h2)
theorem SM.setF (h : SM w B G n c fs ag) {j x : Nat} (hj : j < 64) (hx : x < 18446744073709551616) : SM (w.setCell ⟨B, j, none⟩ (.int .u64 x)) B G n c (fs.set j x) ag := by
  have hl := h.flen
  refine ⟨?_, h.g.put (Below.heap_setCell w ⟨B, j, none⟩ _ G (Ne.symm h.ne)), h.ne, by simpa using hl, h.alen, h.pos, h.le, h.cap, ?_, h.ab⟩
  · have := heap_setCell_same w B j _ 53 (.int .u64 x) h.b
    rw [this]
    congr 2
    rw [List.setIfInBounds_toArray, List.set_append_left _ _ (by simp [hl, hj]), List.map_set]
  · intro y hy
    rcases List.mem_or_eq_of_mem_set hy with hy | rfl
    · exact h.fb y hy
    · exact hx
theorem SM.setA (h : SM w B G n c fs ag) (j : Nat) {x : Nat} (hx : x ≤ 2147483647) : SM (w.setCell ⟨G, j, none⟩ (.int .i64 x)) B G n c fs (ag.set j x) := by
  refine ⟨(Below.heap_setCell w ⟨G, j, none⟩ _ B h.ne).trans h.b, ?_, h.ne, h.flen, by simpa using h.alen, h.pos, h.le, h.cap, h.fb, ?_⟩
  · rw [List.map_set]
    exact h.g.set j _
  · intro y hy
    rcases List.mem_or_eq_of_mem_set hy with hy | rfl
    · exact h.ab y hy
    · exact hx
end

/-- The slots at B (ages in G): ages, and who is taken. -/
def SQ (w : World) (B G n : Nat) (ag : List Nat) (tk : List Bool) : Prop := ∃ c fs, SM w B G n c fs ag ∧ tk.length = n ∧ ∀ i, bitF fs i = (tk[i]? == some false)

theorem SQ.but {w w' : World} {B G n : Nat} {ag : List Nat} {tk : List Bool} {S : List Nat} (h : SQ w B G n ag tk) (hb : But S w w') (h1 : B ∉ S) (h2 : G ∉ S) : SQ w' B G n ag tk := by
  obtain ⟨c, fs, h, k⟩ := h
  exact ⟨c, fs, h.but hb h1 h2, k⟩
theorem SQ.keep {w w' : World} {B G n : Nat} {ag : List Nat} {tk : List Bool} (h : SQ w B G n ag tk) (hb : But [] w w') : SQ w' B G n ag tk := h.but hb (by simp) (by simp)
theorem SQ.below {w w' : World} {B G n : Nat} {ag : List Nat} {tk : List Bool} (h : SQ w B G n ag tk) (hb : Below w.heap.size w w') : SQ w' B G n ag tk := h.keep (.of_below hb)
theorem SQ.lts {w : World} {B G n : Nat} {ag : List Nat} {tk : List Bool} (h : SQ w B G n ag tk) : B < w.heap.size ∧ G < w.heap.size ∧ B ≠ G := by
  obtain ⟨c, fs, h, k⟩ := h
  exact ⟨h.ltB, h.ltG, h.ne⟩

/-- Nothing but a few draws lie between. -/
def Drawn (w w' : World) : Prop := ∃ k, w' = w.drewN k
theorem Drawn.trans {a b c : World} (h : Drawn a b) (k : ∃ k, c = b.drewN k) : Drawn a c := by
  obtain ⟨x, rfl⟩ := h
  obtain ⟨y, rfl⟩ := k
  exact ⟨x + y, by simp [World.drewN, Nat.add_assoc]⟩
theorem Drawn.refl (w : World) : Drawn w w := ⟨0, rfl⟩
theorem Drawn.drew {a b : World} (h : Drawn a b) : Drawn a b.drew := h.trans ⟨1, rfl⟩
theorem Drawn.but {S : List Nat} {a b : World} (h : Drawn a b) : But S a b := by
  obtain ⟨k, rfl⟩ := h
  exact (But.refl S a).drewN k
theorem Drawn.tab {a b : World} (h : Drawn a b) (k : Tab a) : Tab b := k.but (h.but (S := [])) (by simp)
theorem SM.drawn {w w' : World} {B G n c : Nat} {fs ag : List Nat} (h : SM w B G n c fs ag) (k : Drawn w w') : SM w' B G n c fs ag := h.but (k.but (S := [])) (by simp) (by simp)
theorem SQ.drawn {w w' : World} {B G n : Nat} {ag : List Nat} {tk : List Bool} (h : SQ w B G n ag tk) (k : Drawn w w') : SQ w' B G n ag tk := h.keep k.but

/-- Turning a bit. -/
theorem bitF_turn (fs : List Nat) (i k : Nat) (hi : i / 64 < fs.length) : bitF (fs.set (i / 64) (fs.getD (i / 64) 0 ^^^ 2 ^ (i % 64))) k = (if k = i then !bitF fs i else bitF fs k) := by
  unfold bitF
  by_cases h : i / 64 = k / 64
  · rw [← h]
    have e : (fs.set (i / 64) (fs.getD (i / 64) 0 ^^^ 2 ^ (i % 64))).getD (i / 64) 0 = fs.getD (i / 64) 0 ^^^ 2 ^ (i % 64) := by
      simp [List.getD_eq_getElem?_getD, hi]
    rw [e, Nat.testBit_xor, Nat.testBit_two_pow]
    by_cases h2 : k = i
    · subst h2; simp
    · have : i % 64 ≠ k % 64 := by omega
      simp [h2, this]
  · have e : (fs.set (i / 64) (fs.getD (i / 64) 0 ^^^ 2 ^ (i % 64))).getD (k / 64) 0 = fs.getD (k / 64) 0 := by
      simp [List.getD_eq_getElem?_getD, List.getElem?_set_ne h]
    rw [e, if_neg (by rintro rfl; exact h rfl)]

end Go.Proofs.YtkoekdbkjjjoaaaDoor
