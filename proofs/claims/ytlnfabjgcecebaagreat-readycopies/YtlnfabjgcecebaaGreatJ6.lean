/- Heaps as functions of places: what a step of sifting up, or down, keeps. -/
/- Heaps as lists of ids and keys: who comes ahead, one place that may be wrong, the places by ids, the sorted list. -/
/- The sorted list that a heap stands for: what is put in, taken out, asked. -/
import Derived.ProofKit
namespace Go.Proofs.YtlnfabjgcecebaaGreat.Hp

section
variable {α : Type} {le : α → α → Prop}

/-- The place over place j. -/
def par (j : Nat) : Nat := (j - 1) / 2
/-- Two places' things changed for one another. -/
def sw (g : Nat → α) (i j : Nat) : Nat → α := fun k => if k = i then g j else if k = j then g i else g k

/-- Nobody stands below one that is greater. -/
def Hp (le : α → α → Prop) (g : Nat → α) (n : Nat) : Prop := ∀ j, 0 < j → j < n → le (g (par j)) (g j)
/-- But for place i, which may be too small for where it stands. -/
def HpU (le : α → α → Prop) (g : Nat → α) (n i : Nat) : Prop := (∀ j, 0 < j → j < n → j ≠ i → le (g (par j)) (g j)) ∧ ∀ j, 0 < j → j < n → par j = i → 0 < i → le (g (par i)) (g j)
/-- But for place i, which may be too great for where it stands. -/
def HpD (le : α → α → Prop) (g : Nat → α) (n i : Nat) : Prop := (∀ j, 0 < j → j < n → par j ≠ i → le (g (par j)) (g j)) ∧ ∀ j, 0 < j → j < n → par j = i → 0 < i → le (g (par i)) (g j)

theorem par_lt {j : Nat} (h : 0 < j) : par j < j := by unfold par; omega
theorem sw_i (g : Nat → α) (i j : Nat) : sw g i j i = g j := by simp [sw]
theorem sw_j (g : Nat → α) (i j : Nat) (h : i ≠ j) : sw g i j j = g i := by simp [sw, Ne.symm h]
theorem sw_o (g : Nat → α) {i j k : Nat} (h1 : k ≠ i) (h2 : k ≠ j) : sw g i j k = g k := by simp [sw, h1, h2]

theorem HpU.done {g : Nat → α} {n i : Nat} (h : HpU le g n i) (hi : i = 0 ∨ le (g (par i)) (g i)) : Hp le g n := fun j hj hn => by
  by_cases e : j = i
  · subst e
    rcases hi with rfl | hi
    · omega
    · exact hi
  · exact h.1 j hj hn e
theorem HpU.step {g : Nat → α} {n i : Nat} (tr : ∀ a b c, le a b → le b c → le a c) (h : HpU le g n i) (hi : 0 < i) (hn : i < n) (hl : le (g i) (g (par i))) : HpU le (sw g i (par i)) n (par i) := by
  have hp := par_lt hi
  refine ⟨fun j hj hjn hjp => ?_, fun j hj hjn hjp hp0 => ?_⟩
  · by_cases e : j = i
    · subst e
      rw [sw_i, sw_j g _ _ (by omega)]
      exact hl
    · rw [sw_o g e hjp]
      by_cases e1 : par j = i
      · rw [e1, sw_i]
        exact h.2 j hj hjn e1 hi
      · by_cases e2 : par j = par i
        · rw [e2, sw_j g _ _ (by omega)]
          have := h.1 j hj hjn e
          rw [e2] at this
          exact tr _ _ _ hl this
        · rw [sw_o g e1 e2]
          exact h.1 j hj hjn e
  · have hpp := par_lt hp0
    have hpi : par (par i) ≠ i := by omega
    rw [sw_o g hpi (by omega)]
    have h1 := h.1 (par i) hp0 (by omega) (by omega)
    by_cases e : j = i
    · subst e
      rw [sw_i]
      exact h1
    · have hjp2 : j ≠ par i := by have := par_lt hj; omega
      rw [sw_o g e hjp2]
      have h2 := h.1 j hj hjn e
      rw [hjp] at h2
      exact tr _ _ _ h1 h2

theorem HpD.done {g : Nat → α} {n i : Nat} (h : HpD le g n i) (hi : ∀ j, 0 < j → j < n → par j = i → le (g i) (g j)) : Hp le g n := fun j hj hn => by
  by_cases e : par j = i
  · rw [e]
    exact hi j hj hn e
  · exact h.1 j hj hn e
/-- c: the least one below i. -/
theorem HpD.step {g : Nat → α} {n i c : Nat} (h : HpD le g n i) (hc : 0 < c) (hn : c < n) (hpc : par c = i) (hl : le (g c) (g i)) (hm : ∀ j, 0 < j → j < n → par j = i → le (g c) (g j)) : HpD le (sw g i c) n c := by
  have hic : i < c := by have := par_lt hc; omega
  refine ⟨fun j hj hjn hjp => ?_, fun j hj hjn hjp _ => ?_⟩
  · by_cases e : par j = i
    · rw [e, sw_i]
      by_cases e1 : j = c
      · subst e1
        rw [sw_j g _ _ (by omega)]
        exact hl
      · have hji : j ≠ i := by have := par_lt hj; omega
        rw [sw_o g hji e1]
        exact hm j hj hjn e
    · by_cases e1 : j = i
      · subst e1
        rw [sw_i, sw_o g (by have := par_lt hj; omega) (by have := par_lt hj; omega)]
        exact h.2 c hc hn hpc hj
      · by_cases e2 : j = c
        · subst e2
          exact absurd hpc e
        · rw [sw_o g e hjp, sw_o g e1 e2]
          exact h.1 j hj hjn e
  · rw [hpc, sw_i]
    have hj1 : j ≠ i := by have := par_lt hj; omega
    have hj2 : j ≠ c := by have := par_lt hj; omega
    rw [sw_o g hj1 hj2]
    have := h.1 j hj hjn (by omega)
    rwa [hjp] at this
theorem Hp.least {g : Nat → α} {n : Nat} (rf : ∀ a, le a a) (tr : ∀ a b c, le a b → le b c → le a c) (h : Hp le g n) : ∀ j, j < n → le (g 0) (g j) := fun j => by
  induction j using Nat.strongRecOn with
  | ind j ih =>
    intro hj
    by_cases e : j = 0
    · rw [e]; exact rf _
    · have hp := par_lt (j := j) (by omega)
      exact tr _ _ _ (ih (par j) hp (by omega)) (h j (by omega) hj)
/-- What is a heap is one but for any place. -/
theorem Hp.up {g : Nat → α} {n i : Nat} (tr : ∀ a b c, le a b → le b c → le a c) (h : Hp le g n) (hi : i < n) : HpU le g n i :=
  ⟨fun j hj hn _ => h j hj hn, fun j hj hn e h0 => tr _ _ _ (h i h0 hi) (e ▸ h j hj hn)⟩
theorem Hp.down {g : Nat → α} {n i : Nat} (tr : ∀ a b c, le a b → le b c → le a c) (h : Hp le g n) (hi : i < n) : HpD le g n i :=
  ⟨fun j hj hn _ => h j hj hn, fun j hj hn e h0 => tr _ _ _ (h i h0 hi) (e ▸ h j hj hn)⟩
/-- Another thing at place i. -/
def put (g : Nat → α) (i : Nat) (x : α) : Nat → α := fun k => if k = i then x else g k
theorem put_i (g : Nat → α) (i : Nat) (x : α) : put g i x i = x := by simp [put]
theorem put_o (g : Nat → α) {i k : Nat} (x : α) (h : k ≠ i) : put g i x k = g k := by simp [put, h]
/-- A lesser one: it may only have to go up. -/
theorem Hp.lesser {g : Nat → α} {n i : Nat} {x : α} (tr : ∀ a b c, le a b → le b c → le a c) (h : Hp le g n) (hi : i < n) (hx : le x (g i)) : HpU le (put g i x) n i := by
  refine ⟨fun j hj hn hji => ?_, fun j hj hn e h0 => ?_⟩
  · rw [put_o g x hji]
    by_cases e : par j = i
    · rw [e, put_i]
      have := h j hj hn
      rw [e] at this
      exact tr _ _ _ hx this
    · rw [put_o g x e]
      exact h j hj hn
  · have hji : j ≠ i := by have := par_lt hj; omega
    rw [put_o g x hji, put_o g x (by have := par_lt h0; omega)]
    have := h j hj hn
    rw [e] at this
    exact tr _ _ _ (h i h0 hi) this
/-- A greater one: it may only have to go down. -/
theorem Hp.greater {g : Nat → α} {n i : Nat} {x : α} (tr : ∀ a b c, le a b → le b c → le a c) (h : Hp le g n) (hi : i < n) (hx : le (g i) x) : HpD le (put g i x) n i := by
  refine ⟨fun j hj hn hji => ?_, fun j hj hn e h0 => ?_⟩
  · rw [put_o g x hji]
    by_cases e : j = i
    · rw [e, put_i]
      have h1 := h i (by omega) hi
      exact tr _ _ _ h1 hx
    · rw [put_o g x e]
      exact h j hj hn
  · have hji : j ≠ i := by have := par_lt hj; omega
    rw [put_o g x hji, put_o g x (by have := par_lt h0; omega)]
    have := h j hj hn
    rw [e] at this
    exact tr _ _ _ (h i h0 hi) this
/-- With one less at the end. -/
theorem Hp.cut {g : Nat → α} {n m : Nat} (h : Hp le g n) (hm : m ≤ n) : Hp le g m := fun j hj hn => h j hj (by omega)
end

end Go.Proofs.YtlnfabjgcecebaaGreat.Hp
namespace Go.Proofs.YtlnfabjgcecebaaGreat.Hp

/-- An id and its key. -/
abbrev Th := Nat × Int
/-- Whether a comes ahead of b. -/
def befB (a b : Th) : Bool := decide (a.2 < b.2) || (decide (a.2 = b.2) && decide (a.1 < b.1))
/-- b does not come ahead of a. -/
def le (a b : Th) : Prop := befB b a = false

theorem befB_iff {a b : Th} : befB a b = true ↔ a.2 < b.2 ∨ (a.2 = b.2 ∧ a.1 < b.1) := by simp [befB]
theorem le_iff {a b : Th} : le a b ↔ a.2 < b.2 ∨ (a.2 = b.2 ∧ a.1 ≤ b.1) := by
  simp [le, befB]
  constructor
  · rintro ⟨h1, h2⟩
    rcases Int.lt_or_eq_of_le h1 with h | h
    · exact .inl h
    · exact .inr ⟨h, h2 h.symm⟩
  · rintro (h | ⟨h1, h2⟩)
    · exact ⟨by omega, fun e => by omega⟩
    · exact ⟨by omega, fun _ => h2⟩
theorem le_rf (a : Th) : le a a := le_iff.2 (.inr ⟨rfl, Nat.le_refl _⟩)
theorem le_tr (a b c : Th) (h1 : le a b) (h2 : le b c) : le a c := by
  rw [le_iff] at *
  omega
theorem le_tot (a b : Th) : le a b ∨ le b a := by
  rw [le_iff, le_iff]
  omega
theorem le_anti {a b : Th} (h1 : le a b) (h2 : le b a) : a = b := by
  rw [le_iff] at *
  exact Prod.ext (by omega) (by omega)
theorem befB_le {a b : Th} (h : befB a b = true) : le a b := by
  rw [le_iff]
  rw [befB_iff] at h
  omega
theorem befB_rf (a : Th) : befB a a = false := le_rf a
theorem befB_of {a b : Th} (h : le a b) (hne : a ≠ b) : befB a b = true := by
  cases e : befB a b with
  | true => rfl
  | false => exact absurd (le_anti h e) hne
theorem befB_tr {a b c : Th} (h1 : befB a b = true) (h2 : befB b c = true) : befB a c = true := by
  rw [befB_iff] at *
  omega

section
variable {α : Type} {le : α → α → Prop}
/-- But for place i, which may be wrong for where it stands. -/
def HpX (le : α → α → Prop) (g : Nat → α) (n i : Nat) : Prop := (∀ j, 0 < j → j < n → j ≠ i → par j ≠ i → le (g (par j)) (g j)) ∧ ∀ j, 0 < j → j < n → par j = i → 0 < i → le (g (par i)) (g j)
theorem HpX.parts {g : Nat → α} {n i : Nat} (tr : ∀ a b c, le a b → le b c → le a c) (tot : ∀ a b, le a b ∨ le b a) (h : HpX le g n i) : HpU le g n i ∨ HpD le g n i := by
  by_cases h0 : 0 < i
  · rcases tot (g i) (g (par i)) with hl | hl
    · left
      refine ⟨fun j hj hn hji => ?_, h.2⟩
      by_cases e : par j = i
      · rw [e]
        exact tr _ _ _ hl (h.2 j hj hn e h0)
      · exact h.1 j hj hn hji e
    · right
      refine ⟨fun j hj hn e => ?_, h.2⟩
      by_cases hji : j = i
      · subst hji
        exact hl
      · exact h.1 j hj hn hji e
  · right
    exact ⟨fun j hj hn e => h.1 j hj hn (by omega) e, h.2⟩
/-- Another thing at place i. -/
theorem Hp.any {g f : Nat → α} {n m i : Nat} (tr : ∀ a b c, le a b → le b c → le a c) (h : Hp le g n) (hi : i < n) (hm : m ≤ n) (hf : ∀ k, k < m → k ≠ i → f k = g k) : HpX le f m i := by
  refine ⟨fun j hj hn hji e => ?_, fun j hj hn e h0 => ?_⟩
  · have hp := par_lt hj
    rw [hf j hn hji, hf (par j) (by omega) e]
    exact h j hj (by omega)
  · have hp := par_lt hj
    have hpi := par_lt h0
    have hjm := h j hj (by omega)
    rw [hf j hn (by omega), hf (par i) (by omega) (by omega)]
    rw [e] at hjm
    exact tr _ _ _ (h i h0 hi) hjm
/-- One more thing at the end. -/
theorem Hp.more {g f : Nat → α} {n : Nat} (h : Hp le g n) (hf : ∀ k, k < n → f k = g k) : HpX le f (n + 1) n := by
  refine ⟨fun j hj hn hji e => ?_, fun j hj hn e h0 => ?_⟩
  · have hp := par_lt hj
    rw [hf j (by omega), hf (par j) (by omega)]
    exact h j hj (by omega)
  · have hp := par_lt hj
    omega
theorem Hp.congr {g f : Nat → α} {n : Nat} (h : Hp le g n) (hf : ∀ k, k < n → f k = g k) : Hp le f n := fun j hj hn => by
  have hp := par_lt hj
  rw [hf j hn, hf (par j) (by omega)]
  exact h j hj hn
end

/-- The thing at a place. -/
def gx (xs : List Th) : Nat → Th := fun k => xs.getD k (0, 0)
theorem gx_of {xs : List Th} {i : Nat} {p : Th} (h : xs[i]? = some p) : gx xs i = p := by simp [gx, List.getD_eq_getElem?_getD, h]
theorem gx_get {xs : List Th} {i : Nat} (h : i < xs.length) : xs[i]? = some (gx xs i) := by
  rw [List.getElem?_eq_getElem h]
  simp [gx, List.getD_eq_getElem?_getD, List.getElem?_eq_getElem h]
/-- Two things changed for one another. -/
def swL (xs : List Th) (i j : Nat) : List Th := (xs.set i (gx xs j)).set j (gx xs i)
theorem swL_len (xs : List Th) (i j : Nat) : (swL xs i j).length = xs.length := by simp [swL]
theorem swL_get {xs : List Th} {i j : Nat} (hi : i < xs.length) (hj : j < xs.length) (k : Nat) : (swL xs i j)[k]? = if k = j then some (gx xs i) else if k = i then some (gx xs j) else xs[k]? := by
  unfold swL
  by_cases e : k = j
  · subst e
    rw [if_pos rfl, List.getElem?_set_self (by simpa using hj)]
  · rw [if_neg e, List.getElem?_set_ne (Ne.symm e)]
    by_cases e2 : k = i
    · subst e2
      rw [if_pos rfl, List.getElem?_set_self hi]
    · rw [if_neg e2, List.getElem?_set_ne (Ne.symm e2)]
theorem gx_swL {xs : List Th} {i j : Nat} (hi : i < xs.length) (hj : j < xs.length) : gx (swL xs i j) = sw (gx xs) i j := by
  funext k
  show (swL xs i j).getD k (0, 0) = _
  rw [List.getD_eq_getElem?_getD, swL_get hi hj]
  by_cases e : k = j
  · subst e
    rw [if_pos rfl]
    by_cases e2 : k = i
    · subst e2
      simp [sw]
    · simp [sw, e2]
  · rw [if_neg e]
    by_cases e2 : k = i
    · subst e2
      simp [sw]
    · simp [sw, e2, e, gx, List.getD_eq_getElem?_getD]
theorem swL_perm {xs : List Th} {i j : Nat} (hi : i < xs.length) (hj : j < xs.length) : (swL xs i j).Perm xs := by
  unfold swL
  have e1 : gx xs j = xs[j] := by simp [gx, List.getD_eq_getElem?_getD, List.getElem?_eq_getElem hj]
  have e2 : gx xs i = xs[i] := by simp [gx, List.getD_eq_getElem?_getD, List.getElem?_eq_getElem hi]
  rw [e1, e2]
  exact List.set_set_perm hi hj

/-- Where each id stands, by ids. -/
structure Pls (N : Nat) (xs : List Th) (pl : List Int) : Prop where
  len : pl.length = N
  at' : ∀ (i : Nat) (p : Th), xs[i]? = some p → pl[p.1]? = some (i : Int)
  no : ∀ (id : Nat) (x : Int), pl[id]? = some x → x = -1 ∨ ∃ (i : Nat) (k : Int), x = i ∧ xs[i]? = some (id, k)

section
variable {N : Nat} {xs : List Th} {pl : List Int}
theorem Pls.lt (h : Pls N xs pl) {i : Nat} {p : Th} (hp : xs[i]? = some p) : p.1 < N := by
  have := (List.getElem?_eq_some_iff.1 (h.at' i p hp)).1
  rwa [h.len] at this
theorem Pls.one (h : Pls N xs pl) {i j : Nat} {p r : Th} (hp : xs[i]? = some p) (hr : xs[j]? = some r) (e : p.1 = r.1) : i = j := by
  have h1 := h.at' i p hp
  have h2 := h.at' j r hr
  rw [e, h2] at h1
  simp at h1
  omega
theorem Pls.nodup (h : Pls N xs pl) : (xs.map (·.1)).Nodup := by
  rw [List.nodup_iff_pairwise_ne, List.pairwise_map, List.pairwise_iff_getElem]
  intro i j hi hj hij e
  have := h.one (List.getElem?_eq_getElem hi) (List.getElem?_eq_getElem hj) e
  omega
theorem Pls.short (h : Pls N xs pl) : xs.length ≤ N := by
  have h1 := h.nodup
  have := List.Nodup.length_le_of_subset h1 (l₂ := List.range N) (fun x hx => by
    obtain ⟨p, hp, rfl⟩ := List.mem_map.1 hx
    obtain ⟨i, hi, e⟩ := List.getElem_of_mem hp
    exact List.mem_range.2 (h.lt (p := p) (i := i) (by rw [List.getElem?_eq_getElem hi, e])))
  simpa using this
theorem Pls.swap (h : Pls N xs pl) {i j : Nat} (hi : i < xs.length) (hj : j < xs.length) : Pls N (swL xs i j) ((pl.set (gx xs j).1 i).set (gx xs i).1 j) := by
  have ai := h.lt (gx_get hi)
  have aj := h.lt (gx_get hj)
  have hl := h.len
  refine ⟨by simpa using hl, fun k p hk => ?_, fun id x hx => ?_⟩
  · rw [swL_get hi hj] at hk
    by_cases e : k = j
    · subst e
      rw [if_pos rfl] at hk
      cases hk
      exact List.getElem?_set_self (by simp; omega)
    · rw [if_neg e] at hk
      by_cases e2 : k = i
      · subst e2
        rw [if_pos rfl] at hk
        cases hk
        rw [List.getElem?_set_ne (fun e' => e (h.one (gx_get hi) (gx_get hj) e'))]
        exact List.getElem?_set_self (by omega)
      · rw [if_neg e2] at hk
        rw [List.getElem?_set_ne (fun e' => e2 (h.one hk (gx_get hi) e'.symm)), List.getElem?_set_ne (fun e' => e (h.one hk (gx_get hj) e'.symm))]
        exact h.at' k p hk
  · by_cases e : id = (gx xs i).1
    · subst e
      rw [List.getElem?_set_self (by simp; omega)] at hx
      cases hx
      exact .inr ⟨j, (gx xs i).2, rfl, by rw [swL_get hi hj, if_pos rfl]⟩
    · rw [List.getElem?_set_ne (Ne.symm e)] at hx
      by_cases e2 : id = (gx xs j).1
      · subst e2
        rw [List.getElem?_set_self (by omega)] at hx
        cases hx
        refine .inr ⟨i, (gx xs j).2, rfl, ?_⟩
        rw [swL_get hi hj]
        by_cases e3 : i = j
        · subst e3
          rw [if_pos rfl]
        · rw [if_neg e3, if_pos rfl]
      · rw [List.getElem?_set_ne (Ne.symm e2)] at hx
        rcases h.no id x hx with h' | ⟨m, k, rfl, hm⟩
        · exact .inl h'
        · refine .inr ⟨m, k, rfl, ?_⟩
          rw [swL_get hi hj, if_neg, if_neg]
          · exact hm
          · rintro rfl
            exact e (by rw [gx_of hm])
          · rintro rfl
            exact e2 (by rw [gx_of hm])
theorem Pls.push (h : Pls N xs pl) {id : Nat} (key : Int) (hp : pl[id]? = some (-1)) : Pls N (xs ++ [(id, key)]) (pl.set id xs.length) := by
  have hid := (List.getElem?_eq_some_iff.1 hp).1
  refine ⟨by simpa using h.len, fun k p hk => ?_, fun t x hx => ?_⟩
  · rcases Nat.lt_trichotomy k xs.length with hlt | rfl | hgt
    · rw [List.getElem?_append_left hlt] at hk
      have h1 := h.at' k p hk
      rw [List.getElem?_set_ne]
      · exact h1
      · rintro rfl
        rw [hp] at h1
        simp at h1
    · simp at hk
      subst hk
      exact List.getElem?_set_self hid
    · rw [List.getElem?_eq_none (by simp; omega)] at hk
      cases hk
  · by_cases e : t = id
    · subst e
      rw [List.getElem?_set_self hid] at hx
      cases hx
      exact .inr ⟨xs.length, key, rfl, by simp⟩
    · rw [List.getElem?_set_ne (Ne.symm e)] at hx
      rcases h.no t x hx with h' | ⟨i, k, rfl, hi⟩
      · exact .inl h'
      · refine .inr ⟨i, k, rfl, ?_⟩
        rw [List.getElem?_append_left (List.getElem?_eq_some_iff.1 hi).1]
        exact hi
theorem Pls.key (h : Pls N xs pl) {i id : Nat} {k : Int} (key : Int) (hp : xs[i]? = some (id, k)) : Pls N (xs.set i (id, key)) pl := by
  have hi := (List.getElem?_eq_some_iff.1 hp).1
  refine ⟨h.len, fun j p hj => ?_, fun t x hx => ?_⟩
  · by_cases e : i = j
    · subst e
      rw [List.getElem?_set_self hi] at hj
      cases hj
      exact h.at' i (id, k) hp
    · rw [List.getElem?_set_ne e] at hj
      exact h.at' j p hj
  · rcases h.no t x hx with h' | ⟨j, k', rfl, hj⟩
    · exact .inl h'
    · by_cases e : i = j
      · subst e
        rw [hp] at hj
        cases hj
        exact .inr ⟨i, key, rfl, List.getElem?_set_self hi⟩
      · exact .inr ⟨j, k', rfl, by rw [List.getElem?_set_ne e]; exact hj⟩
theorem Pls.pop {id : Nat} {k : Int} (h : Pls N (xs ++ [(id, k)]) pl) : Pls N xs (pl.set id (-1)) := by
  have hl : (xs ++ [(id, k)])[xs.length]? = some (id, k) := by simp
  have hid := h.lt hl
  rw [← h.len] at hid
  refine ⟨by simpa using h.len, fun j p hj => ?_, fun t x hx => ?_⟩
  · have hlt := (List.getElem?_eq_some_iff.1 hj).1
    have hj' : (xs ++ [(id, k)])[j]? = some p := by rw [List.getElem?_append_left hlt]; exact hj
    rw [List.getElem?_set_ne]
    · exact h.at' j p hj'
    · intro e
      have := h.one hj' hl e.symm
      omega
  · by_cases e : t = id
    · subst e
      rw [List.getElem?_set_self hid] at hx
      cases hx
      exact .inl rfl
    · rw [List.getElem?_set_ne (Ne.symm e)] at hx
      rcases h.no t x hx with h' | ⟨i, k', rfl, hi⟩
      · exact .inl h'
      · refine .inr ⟨i, k', rfl, ?_⟩
        rcases Nat.lt_trichotomy i xs.length with hlt | rfl | hgt
        · rwa [List.getElem?_append_left hlt] at hi
        · rw [hl] at hi
          cases hi
          exact absurd rfl e
        · rw [List.getElem?_eq_none (by simp; omega)] at hi
          cases hi
theorem Pls.map (h : Pls N xs pl) (f : Th → Int) : Pls N (xs.map (fun p => (p.1, f p))) pl := by
  refine ⟨h.len, fun j p hj => ?_, fun t x hx => ?_⟩
  · rw [List.getElem?_map] at hj
    obtain ⟨r, hr, rfl⟩ := Option.map_eq_some_iff.1 hj
    exact h.at' j r hr
  · rcases h.no t x hx with h' | ⟨i, k, rfl, hi⟩
    · exact .inl h'
    · exact .inr ⟨i, f (t, k), rfl, by rw [List.getElem?_map, hi]; rfl⟩
theorem Pls.nil (N : Nat) : Pls N [] (List.replicate N (-1)) := by
  refine ⟨by simp, fun j p hj => by simp at hj, fun t x hx => .inl ?_⟩
  have := List.mem_of_getElem? hx
  exact List.eq_of_mem_replicate this
end
end Go.Proofs.YtlnfabjgcecebaaGreat.Hp
namespace Go.Proofs.YtlnfabjgcecebaaGreat.Hp

/-- Each comes ahead of those behind it. -/
def Srt (q : List Th) : Prop := q.Pairwise (fun a b => befB a b = true)
theorem Srt.uniq : ∀ {a b : List Th}, Srt a → Srt b → a.Perm b → a = b
  | [], b, _, _, h => by simpa using h.symm.eq_nil.symm
  | x :: a, [], _, _, h => by simpa using h.eq_nil
  | x :: a, y :: b, ha, hb, h => by
    obtain ⟨ha1, ha2⟩ := List.pairwise_cons.1 ha
    obtain ⟨hb1, hb2⟩ := List.pairwise_cons.1 hb
    have e : x = y := by
      have h1 : x ∈ y :: b := h.subset (by simp)
      have h2 : y ∈ x :: a := h.symm.subset (by simp)
      rcases List.mem_cons.1 h1 with e | h1
      · exact e
      · rcases List.mem_cons.1 h2 with e | h2
        · exact e.symm
        · exact le_anti (befB_le (ha1 y h2)) (befB_le (hb1 x h1))
    subst e
    rw [Srt.uniq ha2 hb2 (List.Perm.cons_inv h)]

/-- Put where it belongs. -/
def insq (p : Th) : List Th → List Th
  | [] => [p]
  | a :: r => if befB a p then a :: insq p r else p :: a :: r
theorem insq_perm (p : Th) : ∀ q : List Th, (insq p q).Perm (p :: q)
  | [] => List.Perm.refl _
  | a :: r => by
    unfold insq
    split
    · exact ((insq_perm p r).cons a).trans (List.Perm.swap p a r)
    · exact List.Perm.refl _
theorem insq_srt (p : Th) : ∀ {q : List Th}, Srt q → (∀ a ∈ q, a.1 ≠ p.1) → Srt (insq p q)
  | [], _, _ => List.pairwise_singleton _ _
  | a :: r, h, hn => by
    obtain ⟨h1, h2⟩ := List.pairwise_cons.1 h
    unfold insq
    split
    · rename_i hb
      refine List.pairwise_cons.2 ⟨fun x hx => ?_, insq_srt p h2 (fun x hx => hn x (by simp [hx]))⟩
      rcases List.mem_cons.1 ((insq_perm p r).subset hx) with rfl | hx
      · exact hb
      · exact h1 x hx
    · rename_i hb
      have hpa : befB p a = true := befB_of (by simpa [le] using hb) (fun e => hn a (by simp) (by rw [e]))
      refine List.pairwise_cons.2 ⟨fun x hx => ?_, h⟩
      rcases List.mem_cons.1 hx with rfl | hx
      · exact hpa
      · exact befB_tr hpa (h1 x hx)
/-- Where it belongs, by places. -/
theorem insq_at {p : Th} : ∀ {q : List Th} {i : Nat}, (∀ j a, j < i → q[j]? = some a → befB a p = true) → (∀ a, q[i]? = some a → befB a p = false) → i ≤ q.length → insq p q = q.take i ++ p :: q.drop i
  | [], i, _, _, hi => by
    obtain rfl : i = 0 := by simpa using hi
    rfl
  | a :: r, 0, _, h2, _ => by
    have := h2 a rfl
    unfold insq
    rw [if_neg (by simp [this])]
    rfl
  | a :: r, i + 1, h1, h2, hi => by
    have := h1 0 a (by omega) rfl
    unfold insq
    rw [if_pos this, insq_at (i := i) (fun j b hj hb => h1 (j + 1) b (by omega) (by simpa using hb)) (fun b hb => h2 b (by simpa using hb)) (by simpa using hi)]
    rfl

/-- Without the id. -/
def remq (q : List Th) (t : Int) : List Th := q.filter (fun p => !((p.1 : Int) == t))
theorem remq_srt {q : List Th} (h : Srt q) (t : Int) : Srt (remq q t) := List.Pairwise.sublist List.filter_sublist h
theorem remq_not {q : List Th} {t : Int} {a : Th} (h : a ∈ remq q t) : a ∈ q ∧ (a.1 : Int) ≠ t := by
  unfold remq at h
  rw [List.mem_filter] at h
  exact ⟨h.1, by simpa using h.2⟩
theorem remq_self {q : List Th} {t : Int} (h : ∀ a ∈ q, (a.1 : Int) ≠ t) : remq q t = q := by
  unfold remq
  rw [List.filter_eq_self]
  intro a ha
  simpa using h a ha
/-- Whether the id is there, and its key. -/
def hasB (q : List Th) (t : Int) : Bool := q.any (fun p => (p.1 : Int) == t)
def keyV (q : List Th) (t : Int) : Int := ((q.find? (fun p => (p.1 : Int) == t)).map (·.2)).getD 0
theorem hasB_iff {q : List Th} {t : Int} : hasB q t = true ↔ ∃ p ∈ q, (p.1 : Int) = t := by
  unfold hasB
  rw [List.any_eq_true]
  simp
theorem hasB_not {q : List Th} {t : Int} : hasB q t = false ↔ ∀ p ∈ q, (p.1 : Int) ≠ t := by
  rw [← Bool.not_eq_true, hasB_iff]
  simp
theorem keyV_none {q : List Th} {t : Int} (h : hasB q t = false) : keyV q t = 0 := by
  unfold keyV
  rw [List.find?_eq_none.2]
  · rfl
  · intro p hp
    simpa using hasB_not.1 h p hp
theorem keyV_some {q : List Th} (hn : (q.map (·.1)).Nodup) {id : Nat} {k : Int} (h : (id, k) ∈ q) : keyV q (id : Int) = k := by
  unfold keyV
  cases e : q.find? (fun p => (p.1 : Int) == (id : Int)) with
  | none =>
    have := List.find?_eq_none.1 e (id, k) h
    simp at this
  | some r =>
    have h1 := List.mem_of_find?_eq_some e
    have h2 := List.find?_some e
    simp at h2
    have h3 : r.1 = id := by omega
    obtain ⟨i, hi, e1⟩ := List.getElem_of_mem h
    obtain ⟨j, hj, e2⟩ := List.getElem_of_mem h1
    have : i = j := by
      have hp := hn
      rw [List.nodup_iff_pairwise_ne, List.pairwise_map, List.pairwise_iff_getElem] at hp
      rcases Nat.lt_trichotomy i j with hlt | rfl | hgt
      · exact absurd (by rw [e1, e2, h3]) (hp i j hi hj hlt)
      · rfl
      · exact absurd (by rw [e1, e2, h3]) (hp j i hj hi hgt)
    subst this
    rw [e1] at e2
    rw [← e2]
    rfl

/-- A thing and those beside it. -/
theorem mid_of {xs : List Th} {i : Nat} {a : Th} (h : xs[i]? = some a) : ∃ u v, xs = u ++ a :: v ∧ u.length = i ∧ ∀ b, xs.set i b = u ++ b :: v := by
  obtain ⟨hi, e⟩ := List.getElem?_eq_some_iff.1 h
  have e0 : xs = xs.take i ++ a :: xs.drop (i + 1) := by
    rw [← e, ← List.drop_eq_getElem_cons hi, List.take_append_drop]
  have hl : (xs.take i).length = i := by rw [List.length_take]; omega
  refine ⟨xs.take i, xs.drop (i + 1), e0, hl, fun b => ?_⟩
  exact List.set_eq_take_append_cons_drop.trans (by rw [if_pos hi])

/-- A heap of the ids below N: its things, their places, the list that it stands for. -/
structure Rep (N : Nat) (xs : List Th) (pl : List Int) (q : List Th) : Prop where
  pls : Pls N xs pl
  hp : Hp le (gx xs) xs.length
  pm : xs.Perm q
  srt : Srt q

section
variable {N : Nat} {xs : List Th} {pl : List Int} {q : List Th}
theorem Rep.len (h : Rep N xs pl q) : xs.length = q.length := h.pm.length_eq
theorem Rep.short (h : Rep N xs pl q) : q.length ≤ N := h.len ▸ h.pls.short
theorem Rep.nd (h : Rep N xs pl q) : (q.map (·.1)).Nodup := (h.pm.map _).nodup_iff.1 h.pls.nodup
theorem Rep.lt (h : Rep N xs pl q) {p : Th} (hp : p ∈ q) : p.1 < N := by
  obtain ⟨i, hi⟩ := List.getElem?_of_mem (h.pm.symm.subset hp)
  exact h.pls.lt hi
/-- An id that is there has a place. -/
theorem Rep.at' (h : Rep N xs pl q) {t : Int} (ht : hasB q t = true) : ∃ (id i : Nat) (k : Int), t = id ∧ id < N ∧ xs[i]? = some (id, k) ∧ pl[id]? = some (i : Int) ∧ keyV q t = k := by
  obtain ⟨p, hp, rfl⟩ := hasB_iff.1 ht
  obtain ⟨i, hi⟩ := List.getElem?_of_mem (h.pm.symm.subset hp)
  exact ⟨p.1, i, p.2, rfl, h.lt hp, hi, h.pls.at' i p hi, keyV_some h.nd hp⟩
/-- One that isn't has none. -/
theorem Rep.no (h : Rep N xs pl q) {id : Nat} (hid : id < N) (ht : hasB q (id : Int) = false) : pl[id]? = some (-1) := by
  have e : pl[id]? = some (pl[id]'(by rw [h.pls.len]; exact hid)) := List.getElem?_eq_getElem _
  rcases h.pls.no id _ e with h' | ⟨i, k, _, hi⟩
  · rw [e, h']
  · have := hasB_not.1 ht (id, k) (h.pm.subset (List.mem_of_getElem? hi))
    simp at this
theorem Rep.first (h : Rep N xs pl q) {p : Th} {r : List Th} (e : q = p :: r) : xs[0]? = some p := by
  have hl : 0 < xs.length := by rw [h.len, e]; simp
  have hle := h.hp.least le_rf le_tr
  have hs := h.srt
  rw [e] at hs
  obtain ⟨h1, -⟩ := List.pairwise_cons.1 hs
  have h0 := gx_get hl
  obtain ⟨i, hi⟩ := List.getElem?_of_mem (h.pm.symm.subset (by rw [e]; simp : p ∈ q))
  have h2 := hle i (List.getElem?_eq_some_iff.1 hi).1
  rw [gx_of hi] at h2
  have h3 : gx xs 0 ∈ p :: r := by rw [← e]; exact h.pm.subset (List.mem_of_getElem? h0)
  rcases List.mem_cons.1 h3 with h3 | h3
  · rw [h0, h3]
  · rw [h0, le_anti h2 (befB_le (h1 _ h3))]
theorem Rep.insq {ys : List Th} {pl' : List Int} {id : Nat} {key : Int} (h : Rep N xs pl q) (hb : hasB q (id : Int) = false) (h1 : Pls N ys pl') (h2 : Hp le (gx ys) ys.length) (h3 : ys.Perm (xs ++ [(id, key)])) : Rep N ys pl' (insq (id, key) q) := by
  refine ⟨h1, h2, ?_, insq_srt _ h.srt (fun a ha e => hasB_not.1 hb a ha (by simp [e]))⟩
  exact h3.trans ((List.perm_append_comm.trans (h.pm.cons (id, key))).trans (insq_perm _ _).symm)
theorem Rep.rest {ys : List Th} {id : Nat} {k : Int} (h : Rep N xs pl q) (h3 : xs.Perm ((id, k) :: ys)) : ys.Perm (remq q (id : Int)) := by
  have h4 : (((id, k) :: ys).map (·.1)).Nodup := (h3.map _).nodup_iff.1 h.pls.nodup
  rw [List.map_cons, List.nodup_cons] at h4
  have h5 := ((h.pm.symm.trans h3).filter (fun p => !((p.1 : Int) == (id : Int)))).symm
  have h6 : ((id, k) :: ys).filter (fun p => !((p.1 : Int) == (id : Int))) = ys := by
    rw [List.filter_cons_of_neg (by simp)]
    refine List.filter_eq_self.2 (fun a ha => ?_)
    have : a.1 ≠ id := fun e => h4.1 (e ▸ List.mem_map.2 ⟨a, ha, rfl⟩)
    simp
    omega
  rw [h6] at h5
  exact h5
theorem Rep.remq {ys : List Th} {pl' : List Int} {id : Nat} {k : Int} (h : Rep N xs pl q) (h1 : Pls N ys pl') (h2 : Hp le (gx ys) ys.length) (h3 : xs.Perm ((id, k) :: ys)) : Rep N ys pl' (remq q (id : Int)) :=
  ⟨h1, h2, h.rest h3, remq_srt h.srt _⟩
theorem Rep.change {ys : List Th} {pl' : List Int} {id i : Nat} {k key : Int} (h : Rep N xs pl q) (hi : xs[i]? = some (id, k)) (h1 : Pls N ys pl') (h2 : Hp le (gx ys) ys.length) (h3 : ys.Perm (xs.set i (id, key))) : Rep N ys pl' (Go.Proofs.YtlnfabjgcecebaaGreat.Hp.insq (id, key) (Go.Proofs.YtlnfabjgcecebaaGreat.Hp.remq q (id : Int))) := by
  obtain ⟨u, v, e, _, hs⟩ := mid_of hi
  rw [hs] at h3
  have h4 : xs.Perm ((id, k) :: (u ++ v)) := by rw [e]; exact List.perm_middle
  have h5 := h.rest h4
  refine ⟨h1, h2, ?_, insq_srt _ (remq_srt h.srt _) (fun a ha e => (remq_not ha).2 (by simp [e]))⟩
  exact h3.trans ((List.perm_middle.trans (h5.cons _)).trans (insq_perm _ _).symm)
theorem Rep.tail {ys : List Th} {pl' : List Int} {p : Th} {r : List Th} (h : Rep N xs pl q) (e : q = p :: r) (h1 : Pls N ys pl') (h2 : Hp le (gx ys) ys.length) (h3 : xs.Perm (p :: ys)) : Rep N ys pl' r := by
  have hs := h.srt
  rw [e] at hs
  exact ⟨h1, h2, List.Perm.cons_inv (h3.symm.trans (e ▸ h.pm)), (List.pairwise_cons.1 hs).2⟩
theorem Rep.nil (N : Nat) : Rep N [] (List.replicate N (-1)) [] := ⟨Pls.nil N, fun j _ h => by simp at h, List.Perm.refl _, List.Pairwise.nil⟩
/-- Each key less by that. -/
def lowL (q : List Th) (c : Int) : List Th := q.map (fun p => (p.1, p.2 - c))
theorem befB_low (a b : Th) (c : Int) : befB (a.1, a.2 - c) (b.1, b.2 - c) = befB a b := by
  rw [Bool.eq_iff_iff, befB_iff, befB_iff]
  show a.2 - c < b.2 - c ∨ (a.2 - c = b.2 - c ∧ a.1 < b.1) ↔ _
  omega
theorem gx_map {xs : List Th} (f : Th → Th) {k : Nat} (hk : k < xs.length) : gx (xs.map f) k = f (gx xs k) := gx_of (by rw [List.getElem?_map, gx_get hk]; rfl)
theorem Rep.low (h : Rep N xs pl q) (c : Int) : Rep N (lowL xs c) pl (lowL q c) := by
  refine ⟨h.pls.map (fun p => p.2 - c), fun j hj hn => ?_, h.pm.map _, ?_⟩
  · have hn' : j < xs.length := by simpa [lowL] using hn
    have hp := par_lt hj
    have := h.hp j hj hn'
    unfold lowL
    rw [gx_map _ hn', gx_map _ (by omega)]
    show befB _ _ = false
    rw [befB_low]
    exact this
  · unfold Srt lowL
    rw [List.pairwise_map]
    refine h.srt.imp (fun {a b} hab => ?_)
    rw [befB_low]
    exact hab
end
end Go.Proofs.YtlnfabjgcecebaaGreat.Hp
