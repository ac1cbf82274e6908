/- Slots as they lie in memory; what is kept beside them. -/
import Derived.Test.YtjgclehghnmhnaaDoorSBits
import Derived.Test.YtjgclehghnmhnaaDoorCell
import Derived.Test.YtjgclehghnmhnaaDoorRows
import Derived.ProofKit
import Derived.BigQuiet
import Derived.OwnWalk
import Derived.Below
import Derived.WalkSmall
namespace Go.Proofs.YtjgclehghnmhnaaDoor
open Go.RowKit

theorem Tab.but {S : List Nat} {a b : World} (h : Tab a) (k : But S a b) (hS : 1 ∉ S) : Tab b :=
  ⟨Nat.lt_of_lt_of_le h.1 k.size, fun j hj => by
    have e := k.block 1 h.1 hS
    have h2 := h.2 j hj
    simp only [World.cell?] at h2 ⊢
    rw [e]
    exact h2⟩

section
variable {w w' : World} {G : Nat} {t : TypeId} {vs : List Value}
end

/-- Whether the words have bit i. -/
def bitF (fs : List Nat) (i : Nat) : Bool := (fs.getD (i / 64) 0).testBit (i % 64)

/-- Slots of the program's: block B has 64 words and the ages' slice; block G the ages. -/
structure SlM (w : World) (B G n c : Nat) (fs ag : List Nat) : Prop where
  b : w.heap[B]? = some (.cells (fs.map (fun x : Nat => Value.int .u64 x) ++ [Value.slice (some ⟨G, 0, none⟩) n c]).toArray 95 (0, 0))
  g : Row w G 3 (ag.map (fun x : Nat => Value.int .i64 x))
  ne : B ≠ G
  flen : fs.length = 64
  alen : ag.length = n
  pos : 1 ≤ n
  le : n ≤ 4096
  cap : n ≤ c
  fb : ∀ x ∈ fs, x < 18446744073709551616
  ab : ∀ x ∈ ag, x ≤ 2147483647

section
variable {w w' : World} {B G n c : Nat} {fs ag : List Nat}
theorem SlM.ltB (h : SlM w B G n c fs ag) : B < w.heap.size := (Array.getElem?_eq_some_iff.1 h.b).1
theorem SlM.ltG (h : SlM w B G n c fs ag) : G < w.heap.size := h.g.lt
theorem SlM.c64 (h : SlM w B G n c fs ag) : w.cell? ⟨B, 64, none⟩ = some (.slice (some ⟨G, 0, none⟩) n c) := by
  have e := h.flen
  simp [World.cell?, h.b, e]
theorem SlM.fB (h : SlM w B G n c fs ag) (j : Nat) : w.frozen? ⟨B, j, none⟩ = false := by simp [World.frozen?, h.b]
theorem SlM.fG (h : SlM w B G n c fs ag) (j : Nat) : w.frozen? ⟨G, j, none⟩ = false := h.g.fz j
theorem SlM.f (h : SlM w B G n c fs ag) {j x : Nat} (hx : fs[j]? = some x) : w.cell? ⟨B, j, none⟩ = some (.int .u64 x) := by
  have hj := (List.getElem?_eq_some_iff.1 hx).1
  have e := (List.getElem?_eq_some_iff.1 hx).2
  simp [World.cell?, h.b, List.getElem?_append_left, hj, e]
theorem SlM.a (h : SlM w B G n c fs ag) {j x : Nat} (hx : ag[j]? = some x) : w.cell? ⟨G, j, none⟩ = some (.int .i64 x) :=
  h.g.cell (by rw [List.getElem?_map, hx]; rfl)
theorem SlM.put (h : SlM w B G n c fs ag) (hb : w'.heap[B]? = w.heap[B]?) (hg : w'.heap[G]? = w.heap[G]?) : SlM w' B G n c fs ag :=
  ⟨hb.trans h.b, h.g.put hg, h.ne, h.flen, h.alen, h.pos, h.le, h.cap, h.fb, h.ab⟩
theorem SlM.but {S : List Nat} (h : SlM w B G n c fs ag) (hb : But S w w') (h1 : B ∉ S) (h2 : G ∉ S) : SlM w' B G n c fs ag :=
  h.put (hb.block B h.ltB h1) (hb.block G h.ltG h2)
theorem SlM.setF (h : SlM w B G n c fs ag) {j x : Nat} (hj : j < 64) (hx : x < 18446744073709551616) : SlM (w.setCell ⟨B, j, none⟩ (.int .u64 x)) B G n c (fs.set j x) ag := by
  have hl := h.flen
  refine ⟨?_, h.g.put (Below.heap_setCell w ⟨B, j, none⟩ _ G (Ne.symm h.ne)), h.ne, by simpa using hl, h.alen, h.pos, h.le, h.cap, ?_, h.ab⟩
  · have := heap_setCell_same w B j _ 95 (.int .u64 x) h.b
    rw [this]
    congr 2
    rw [List.setIfInBounds_toArray, List.set_append_left _ _ (by simp [hl, hj]), List.map_set]
  · intro y hy
    rcases List.mem_or_eq_of_mem_set hy with hy | rfl
    · exact h.fb y hy
    · exact hx
theorem SlM.setA (h : SlM w B G n c fs ag) (j : Nat) {x : Nat} (hx : x ≤ 2147483647) : SlM (w.setCell ⟨G, j, none⟩ (.int .i64 x)) B G n c fs (ag.set j x) := by
  refine ⟨(Below.heap_setCell w ⟨G, j, none⟩ _ B h.ne).trans h.b, ?_, h.ne, h.flen, by simpa using h.alen, h.pos, h.le, h.cap, h.fb, ?_⟩
  · rw [List.map_set]
    exact h.g.set j _
  · intro y hy
    rcases List.mem_or_eq_of_mem_set hy with hy | rfl
    · exact h.ab y hy
    · exact hx
end

/-- The slots at B (ages in G): ages, and who is taken. -/
def SlQ (w : World) (B G n : Nat) (ag : List Nat) (tk : List Bool) : Prop := ∃ c fs, SlM w B G n c fs ag ∧ tk.length = n ∧ ∀ i, bitF fs i = (tk[i]? == some false)

theorem SlQ.but {w w' : World} {B G n : Nat} {ag : List Nat} {tk : List Bool} {S : List Nat} (h : SlQ w B G n ag tk) (hb : But S w w') (h1 : B ∉ S) (h2 : G ∉ S) : SlQ w' B G n ag tk := by
  obtain ⟨c, fs, h, k⟩ := h
  exact ⟨c, fs, h.but hb h1 h2, k⟩
theorem SlQ.keep {w w' : World} {B G n : Nat} {ag : List Nat} {tk : List Bool} (h : SlQ w B G n ag tk) (hb : But [] w w') : SlQ w' B G n ag tk := h.but hb (by simp) (by simp)
theorem SlQ.below {w w' : World} {B G n : Nat} {ag : List Nat} {tk : List Bool} (h : SlQ w B G n ag tk) (hb : Below w.heap.size w w') : SlQ w' B G n ag tk := h.keep (.of_below hb)
theorem SlQ.lts {w : World} {B G n : Nat} {ag : List Nat} {tk : List Bool} (h : SlQ w B G n ag tk) : B < w.heap.size ∧ G < w.heap.size ∧ B ≠ G := by
  obtain ⟨c, fs, h, k⟩ := h
  exact ⟨h.ltB, h.ltG, h.ne⟩

theorem Drawn.tab {a b : World} (h : Drawn a b) (k : Tab a) : Tab b := k.but (h.but (S := [])) (by simp)
theorem SlM.drawn {w w' : World} {B G n c : Nat} {fs ag : List Nat} (h : SlM w B G n c fs ag) (k : Drawn w w') : SlM w' B G n c fs ag := h.but (k.but (S := [])) (by simp) (by simp)
theorem SlQ.drawn {w w' : World} {B G n : Nat} {ag : List Nat} {tk : List Bool} (h : SlQ w B G n ag tk) (k : Drawn w w') : SlQ w' B G n ag tk := h.keep k.but

/-- Turning a bit. -/
theorem bitF_turn (fs : List Nat) (i k : Nat) (hi : i / 64 < fs.length) : bitF (fs.set (i / 64) (fs.getD (i / 64) 0 ^^^ 2 ^ (i % 64))) k = (if k = i then !bitF fs i else bitF fs k) := by
  unfold bitF
  by_cases h : i / 64 = k / 64
  · rw [← h]
    have e : (fs.set (i / 64) (fs.getD (i / 64) 0 ^^^ 2 ^ (i % 64))).getD (i / 64) 0 = fs.getD (i / 64) 0 ^^^ 2 ^ (i % 64) := by
      simp [List.getD_eq_getElem?_getD, hi]
    rw [e, Nat.testBit_xor, Nat.testBit_two_pow]
    by_cases h2 : k = i
    · subst h2; simp
    · have : i % 64 ≠ k % 64 := by omega
      simp [h2, this]
  · have e : (fs.set (i / 64) (fs.getD (i / 64) 0 ^^^ 2 ^ (i % 64))).getD (k / 64) 0 = fs.getD (k / 64) 0 := by
      simp [List.getD_eq_getElem?_getD, List.getElem?_set_ne h]
    rw [e, if_neg (by rintro rfl; exact h rfl)]

end Go.Proofs.YtjgclehghnmhnaaDoor
