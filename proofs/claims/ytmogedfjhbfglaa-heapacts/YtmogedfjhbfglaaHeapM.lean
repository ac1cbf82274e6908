/- Heaps as functions of places: what a step of sifting up, or down, keeps. -/
import Derived.ProofKit
namespace Go.Proofs.Ytmogedfjhbfglaa

section
variable {α : Type} {le : α → α → Prop}

/-- The place over place j. -/
def par (j : Nat) : Nat := (j - 1) / 2
/-- Two places' things changed for one another. -/
def sw (g : Nat → α) (i j : Nat) : Nat → α := fun k => if k = i then g j else if k = j then g i else g k

/-- Nobody stands below one that is greater. -/
def Hp (le : α → α → Prop) (g : Nat → α) (n : Nat) : Prop := ∀ j, 0 < j → j < n → le (g (par j)) (g j)
/-- But for place i, which may be too small for where it stands. -/
def HpU (le : α → α → Prop) (g : Nat → α) (n i : Nat) : Prop := (∀ j, 0 < j → j < n → j ≠ i → le (g (par j)) (g j)) ∧ ∀ j, 0 < j → j < n → par j = i → 0 < i → le (g (par i)) (g j)
/-- But for place i, which may be too great for where it stands. -/
def HpD (le : α → α → Prop) (g : Nat → α) (n i : Nat) : Prop := (∀ j, 0 < j → j < n → par j ≠ i → le (g (par j)) (g j)) ∧ ∀ j, 0 < j → j < n → par j = i → 0 < i → le (g (par i)) (g j)

theorem par_lt {j : Nat} (h : 0 < j) : par j < j := by unfold par; omega
theorem sw_i (g : Nat → α) (i j : Nat) : sw g i j i = g j := by simp [sw]
theorem sw_j (g : Nat → α) (i j : Nat) (h : i ≠ j) : sw g i j j = g i := by simp [sw, Ne.symm h]
theorem sw_o (g : Nat → α) {i j k : Nat} (h1 : k ≠ i) (h2 : k ≠ j) : sw g i j k = g k := by simp [sw, h1, h2]

theorem HpU.done {g : Nat → α} {n i : Nat} (h : HpU le g n i) (hi : i = 0 ∨ le (g (par i)) (g i)) : Hp le g n := fun j hj hn => by
  by_cases e : j = i
  · subst e
    rcases hi with rfl | hi
    · omega
    · exact hi
  · exact h.1 j hj hn e
theorem HpU.step {g : Nat → α} {n i : Nat} (tr : ∀ a b c, le a b → le b c → le a c) (h : HpU le g n i) (hi : 0 < i) (hn : i < n) (hl : le (g i) (g (par i))) : HpU le (sw g i (par i)) n (par i) := by
  have hp := par_lt hi
  refine ⟨fun j hj hjn hjp => ?_, fun j hj hjn hjp hp0 => ?_⟩
  · by_cases e : j = i
    · subst e
      rw [sw_i, sw_j g _ _ (by omega)]
      exact hl
    · rw [sw_o g e hjp]
      by_cases e1 : par j = i
      · rw [e1, sw_i]
        exact h.2 j hj hjn e1 hi
      · by_cases e2 : par j = par i
        · rw [e2, sw_j g _ _ (by omega)]
          have := h.1 j hj hjn e
          rw [e2] at this
          exact tr _ _ _ hl this
        · rw [sw_o g e1 e2]
          exact h.1 j hj hjn e
  · have hpp := par_lt hp0
    have hpi : par (par i) ≠ i := by omega
    rw [sw_o g hpi (by omega)]
    have h1 := h.1 (par i) hp0 (by omega) (by omega)
    by_cases e : j = i
    · subst e
      rw [sw_i]
      exact h1
    · have hjp2 : j ≠ par i := by have := par_lt hj; omega
      rw [sw_o g e hjp2]
      have h2 := h.1 j hj hjn e
      rw [hjp] at h2
      exact tr _ _ _ h1 h2

theorem HpD.done {g : Nat → α} {n i : Nat} (h : HpD le g n i) (hi : ∀ j, 0 < j → j < n → par j = i → le (g i) (g j)) : Hp le g n := fun j hj hn => by
  by_cases e : par j = i
  · rw [e]
    exact hi j hj hn e
  · exact h.1 j hj hn e
/-- c: the least one below i. -/
theorem HpD.step {g : Nat → α} {n i c : Nat} (h : HpD le g n i) (hc : 0 < c) (hn : c < n) (hpc : par c = i) (hl : le (g c) (g i)) (hm : ∀ j, 0 < j → j < n → par j = i → le (g c) (g j)) : HpD le (sw g i c) n c := by
  have hic : i < c := by have := par_lt hc; omega
  refine ⟨fun j hj hjn hjp => ?_, fun j hj hjn hjp _ => ?_⟩
  · by_cases e : par j = i
    · rw [e, sw_i]
      by_cases e1 : j = c
      · subst e1
        rw [sw_j g _ _ (by omega)]
        exact hl
      · have hji : j ≠ i := by have := par_lt hj; omega
        rw [sw_o g hji e1]
        exact hm j hj hjn e
    · by_cases e1 : j = i
      · subst e1
        rw [sw_i, sw_o g (by have := par_lt hj; omega) (by have := par_lt hj; omega)]
        exact h.2 c hc hn hpc hj
      · by_cases e2 : j = c
        · subst e2
          exact absurd hpc e
        · rw [sw_o g e hjp, sw_o g e1 e2]
          exact h.1 j hj hjn e
  · rw [hpc, sw_i]
    have hj1 : j ≠ i := by have := par_lt hj; omega
    have hj2 : j ≠ c := by have := par_lt hj; omega
    rw [sw_o g hj1 hj2]
    have := h.1 j hj hjn (by omega)
    rwa [hjp] at this
theorem Hp.least {g : Nat → α} {n : Nat} (rf : ∀ a, le a a) (tr : ∀ a b c, le a b → le b c → le a c) (h : Hp le g n) : ∀ j, j < n → le (g 0) (g j) := fun j => by
  induction j using Nat.strongRecOn with
  | ind j ih =>
    intro hj
    by_cases e : j = 0
    · rw [e]; exact rf _
    · have hp := par_lt (j := j) (by omega)
      exact tr _ _ _ (ih (par j) hp (by omega)) (h j (by omega) hj)
/-- What is a heap is one but for any place. -/
theorem Hp.up {g : Nat → α} {n i : Nat} (tr : ∀ a b c, le a b → le b c → le a c) (h : Hp le g n) (hi : i < n) : HpU le g n i :=
  ⟨fun j hj hn _ => h j hj hn, fun j hj hn e h0 => tr _ _ _ (h i h0 hi) (e ▸ h j hj hn)⟩
theorem Hp.down {g : Nat → α} {n i : Nat} (tr : ∀ a b c, le a b → le b c → le a c) (h : Hp le g n) (hi : i < n) : HpD le g n i :=
  ⟨fun j hj hn _ => h j hj hn, fun j hj hn e h0 => tr _ _ _ (h i h0 hi) (e ▸ h j hj hn)⟩
/-- Another thing at place i. -/
def put (g : Nat → α) (i : Nat) (x : α) : Nat → α := fun k => if k = i then x else g k
theorem put_i (g : Nat → α) (i : Nat) (x : α) : put g i x i = x := by simp [put]
theorem put_o (g : Nat → α) {i k : Nat} (x : α) (h : k ≠ i) : put g i x k = g k := by simp [put, h]
/-- A lesser one: it may only have to go up. -/
theorem Hp.lesser {g : Nat → α} {n i : Nat} {x : α} (tr : ∀ a b c, le a b → le b c → le a c) (h : Hp le g n) (hi : i < n) (hx : le x (g i)) : HpU le (put g i x) n i := by
  refine ⟨fun j hj hn hji => ?_, fun j hj hn e h0 => ?_⟩
  · rw [put_o g x hji]
    by_cases e : par j = i
    · rw [e, put_i]
      have := h j hj hn
      rw [e] at this
      exact tr _ _ _ hx this
    · rw [put_o g x e]
      exact h j hj hn
  · have hji : j ≠ i := by have := par_lt hj; omega
    rw [put_o g x hji, put_o g x (by have := par_lt h0; omega)]
    have := h j hj hn
    rw [e] at this
    exact tr _ _ _ (h i h0 hi) this
/-- A greater one: it may only have to go down. -/
theorem Hp.greater {g : Nat → α} {n i : Nat} {x : α} (tr : ∀ a b c, le a b → le b c → le a c) (h : Hp le g n) (hi : i < n) (hx : le (g i) x) : HpD le (put g i x) n i := by
  refine ⟨fun j hj hn hji => ?_, fun j hj hn e h0 => ?_⟩
  · rw [put_o g x hji]
    by_cases e : j = i
    · rw [e, put_i]
      have h1 := h i (by omega) hi
      exact tr _ _ _ h1 hx
    · rw [put_o g x e]
      exact h j hj hn
  · have hji : j ≠ i := by have := par_lt hj; omega
    rw [put_o g x hji, put_o g x (by have := par_lt h0; omega)]
    have := h j hj hn
    rw [e] at this
    exact tr _ _ _ (h i h0 hi) this
/-- With one less at the end. -/
theorem Hp.cut {g : Nat → α} {n m : Nat} (h : Hp le g n) (hm : m ≤ n) : Hp le g m := fun j hj hn => h j hj (by omega)
end

end Go.Proofs.Ytmogedfjhbfglaa
