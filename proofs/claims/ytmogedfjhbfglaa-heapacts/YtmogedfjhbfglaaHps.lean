/- Heaps as lists of ids and keys: who comes ahead, one place that may be wrong, the places by ids, the sorted list. -/
import Derived.Test.YtmogedfjhbfglaaHeapM
namespace Go.Proofs.Ytmogedfjhbfglaa

/-- An id and its key. -/
abbrev Th := Nat × Int
/-- Whether a comes ahead of b. -/
def befB (a b : Th) : Bool := decide (a.2 < b.2) || (decide (a.2 = b.2) && decide (a.1 < b.1))
/-- b does not come ahead of a. -/
def le (a b : Th) : Prop := befB b a = false

theorem befB_iff {a b : Th} : befB a b = true ↔ a.2 < b.2 ∨ (a.2 = b.2 ∧ a.1 < b.1) := by simp [befB]
theorem le_iff {a b : Th} : le a b ↔ a.2 < b.2 ∨ (a.2 = b.2 ∧ a.1 ≤ b.1) := by
  simp [le, befB]
  constructor
  · rintro ⟨h1, h2⟩
    rcases Int.lt_or_eq_of_le h1 with h | h
    · exact .inl h
    · exact .inr ⟨h, h2 h.symm⟩
  · rintro (h | ⟨h1, h2⟩)
    · exact ⟨by omega, fun e => by omega⟩
    · exact ⟨by omega, fun _ => h2⟩
theorem le_rf (a : Th) : le a a := le_iff.2 (.inr ⟨rfl, Nat.le_refl _⟩)
theorem le_tr (a b c : Th) (h1 : le a b) (h2 : le b c) : le a c := by
  rw [le_iff] at *
  omega
theorem le_tot (a b : Th) : le a b ∨ le b a := by
  rw [le_iff, le_iff]
  omega
theorem le_anti {a b : Th} (h1 : le a b) (h2 : le b a) : a = b := by
  rw [le_iff] at *
  exact Prod.ext (by omega) (by omega)
theorem befB_le {a b : Th} (h : befB a b = true) : le a b := by
  rw [le_iff]
  rw [befB_iff] at h
  omega
theorem befB_rf (a : Th) : befB a a = false := le_rf a
theorem befB_of {a b : Th} (h : le a b) (hne : a ≠ b) : befB a b = true := by
  cases e : befB a b with
  | true => rfl
  | false => exact absurd (le_anti h e) hne
theorem befB_tr {a b c : Th} (h1 : befB a b = true) (h2 : befB b c = true) : befB a c = true := by
  rw [befB_iff] at *
  omega

section
variable {α : Type} {le : α → α → Prop}
/-- But for place i, which may be wrong for where it stands. -/
def HpX (le : α → α → Prop) (g : Nat → α) (n i : Nat) : Prop := (∀ j, 0 < j → j < n → j ≠ i → par j ≠ i → le (g (par j)) (g j)) ∧ ∀ j, 0 < j → j < n → par j = i → 0 < i → le (g (par i)) (g j)
theorem HpX.parts {g : Nat → α} {n i : Nat} (tr : ∀ a b c, le a b → le b c → le a c) (tot : ∀ a b, le a b ∨ le b a) (h : HpX le g n i) : HpU le g n i ∨ HpD le g n i := by
  by_cases h0 : 0 < i
  · rcases tot (g i) (g (par i)) with hl | hl
    · left
      refine ⟨fun j hj hn hji => ?_, h.2⟩
      by_cases e : par j = i
      · rw [e]
        exact tr _ _ _ hl (h.2 j hj hn e h0)
      · exact h.1 j hj hn hji e
    · right
      refine ⟨fun j hj hn e => ?_, h.2⟩
      by_cases hji : j = i
      · subst hji
        exact hl
      · exact h.1 j hj hn hji e
  · right
    exact ⟨fun j hj hn e => h.1 j hj hn (by omega) e, h.2⟩
/-- Another thing at place i. -/
theorem Hp.any {g f : Nat → α} {n m i : Nat} (tr : ∀ a b c, le a b → le b c → le a c) (h : Hp le g n) (hi : i < n) (hm : m ≤ n) (hf : ∀ k, k < m → k ≠ i → f k = g k) : HpX le f m i := by
  refine ⟨fun j hj hn hji e => ?_, fun j hj hn e h0 => ?_⟩
  · have hp := par_lt hj
    rw [hf j hn hji, hf (par j) (by omega) e]
    exact h j hj (by omega)
  · have hp := par_lt hj
    have hpi := par_lt h0
    have hjm := h j hj (by omega)
    rw [hf j hn (by omega), hf (par i) (by omega) (by omega)]
    rw [e] at hjm
    exact tr _ _ _ (h i h0 hi) hjm
/-- One more thing at the end. -/
theorem Hp.more {g f : Nat → α} {n : Nat} (h : Hp le g n) (hf : ∀ k, k < n → f k = g k) : HpX le f (n + 1) n := by
  refine ⟨fun j hj hn hji e => ?_, fun j hj hn e h0 => ?_⟩
  · have hp := par_lt hj
    rw [hf j (by omega), hf (par j) (by omega)]
    exact h j hj (by omega)
  · have hp := par_lt hj
    omega
theorem Hp.congr {g f : Nat → α} {n : Nat} (h : Hp le g n) (hf : ∀ k, k < n → f k = g k) : Hp le f n := fun j hj hn => by
  have hp := par_lt hj
  rw [hf j hn, hf (par j) (by omega)]
  exact h j hj hn
end

/-- The thing at a place. -/
def gx (xs : List Th) : Nat → Th := fun k => xs.getD k (0, 0)
theorem gx_of {xs : List Th} {i : Nat} {p : Th} (h : xs[i]? = some p) : gx xs i = p := by simp [gx, List.getD_eq_getElem?_getD, h]
theorem gx_get {xs : List Th} {i : Nat} (h : i < xs.length) : xs[i]? = some (gx xs i) := by
  rw [List.getElem?_eq_getElem h]
  simp [gx, List.getD_eq_getElem?_getD, List.getElem?_eq_getElem h]
/-- Two things changed for one another. -/
def swL (xs : List Th) (i j : Nat) : List Th := (xs.set i (gx xs j)).set j (gx xs i)
theorem swL_len (xs : List Th) (i j : Nat) : (swL xs i j).length = xs.length := by simp [swL]
theorem swL_get {xs : List Th} {i j : Nat} (hi : i < xs.length) (hj : j < xs.length) (k : Nat) : (swL xs i j)[k]? = if k = j then some (gx xs i) else if k = i then some (gx xs j) else xs[k]? := by
  unfold swL
  by_cases e : k = j
  · subst e
    rw [if_pos rfl, List.getElem?_set_self (by simpa using hj)]
  · rw [if_neg e, List.getElem?_set_ne (Ne.symm e)]
    by_cases e2 : k = i
    · subst e2
      rw [if_pos rfl, List.getElem?_set_self hi]
    · rw [if_neg e2, List.getElem?_set_ne (Ne.symm e2)]
theorem gx_swL {xs : List Th} {i j : Nat} (hi : i < xs.length) (hj : j < xs.length) : gx (swL xs i j) = sw (gx xs) i j := by
  funext k
  show (swL xs i j).getD k (0, 0) = _
  rw [List.getD_eq_getElem?_getD, swL_get hi hj]
  by_cases e : k = j
  · subst e
    rw [if_pos rfl]
    by_cases e2 : k = i
    · subst e2
      simp [sw]
    · simp [sw, e2]
  · rw [if_neg e]
    by_cases e2 : k = i
    · subst e2
      simp [sw]
    · simp [sw, e2, e, gx, List.getD_eq_getElem?_getD]
theorem swL_perm {xs : List Th} {i j : Nat} (hi : i < xs.length) (hj : j < xs.length) : (swL xs i j).Perm xs := by
  unfold swL
  have e1 : gx xs j = xs[j] := by simp [gx, List.getD_eq_getElem?_getD, List.getElem?_eq_getElem hj]
  have e2 : gx xs i = xs[i] := by simp [gx, List.getD_eq_getElem?_getD, List.getElem?_eq_getElem hi]
  rw [e1, e2]
  exact List.set_set_perm hi hj

/-- Where each id stands, by ids. -/
structure Pls (N : Nat) (xs : List Th) (pl : List Int) : Prop where
  len : pl.length = N
  at' : ∀ (i : Nat) (p : Th), xs[i]? = some p → pl[p.1]? = some (i : Int)
  no : ∀ (id : Nat) (x : Int), pl[id]? = some x → x = -1 ∨ ∃ (i : Nat) (k : Int), x = i ∧ xs[i]? = some (id, k)

section
variable {N : Nat} {xs : List Th} {pl : List Int}
theorem Pls.lt (h : Pls N xs pl) {i : Nat} {p : Th} (hp : xs[i]? = some p) : p.1 < N := by
  have := (List.getElem?_eq_some_iff.1 (h.at' i p hp)).1
  rwa [h.len] at this
theorem Pls.one (h : Pls N xs pl) {i j : Nat} {p r : Th} (hp : xs[i]? = some p) (hr : xs[j]? = some r) (e : p.1 = r.1) : i = j := by
  have h1 := h.at' i p hp
  have h2 := h.at' j r hr
  rw [e, h2] at h1
  simp at h1
  omega
theorem Pls.nodup (h : Pls N xs pl) : (xs.map (·.1)).Nodup := by
  rw [List.nodup_iff_pairwise_ne, List.pairwise_map, List.pairwise_iff_getElem]
  intro i j hi hj hij e
  have := h.one (List.getElem?_eq_getElem hi) (List.getElem?_eq_getElem hj) e
  omega
theorem Pls.short (h : Pls N xs pl) : xs.length ≤ N := by
  have h1 := h.nodup
  have := List.Nodup.length_le_of_subset h1 (l₂ := List.range N) (fun x hx => by
    obtain ⟨p, hp, rfl⟩ := List.mem_map.1 hx
    obtain ⟨i, hi, e⟩ := List.getElem_of_mem hp
    exact List.mem_range.2 (h.lt (p := p) (i := i) (by rw [List.getElem?_eq_getElem hi, e])))
  simpa using this
theorem Pls.swap (h : Pls N xs pl) {i j : Nat} (hi : i < xs.length) (hj : j < xs.length) : Pls N (swL xs i j) ((pl.set (gx xs j).1 i).set (gx xs i).1 j) := by
  have ai := h.lt (gx_get hi)
  have aj := h.lt (gx_get hj)
  have hl := h.len
  refine ⟨by simpa using hl, fun k p hk => ?_, fun id x hx => ?_⟩
  · rw [swL_get hi hj] at hk
    by_cases e : k = j
    · subst e
      rw [if_pos rfl] at hk
      cases hk
      exact List.getElem?_set_self (by simp; omega)
    · rw [if_neg e] at hk
      by_cases e2 : k = i
      · subst e2
        rw [if_pos rfl] at hk
        cases hk
        rw [List.getElem?_set_ne (fun e' => e (h.one (gx_get hi) (gx_get hj) e'))]
        exact List.getElem?_set_self (by omega)
      · rw [if_neg e2] at hk
        rw [List.getElem?_set_ne (fun e' => e2 (h.one hk (gx_get hi) e'.symm)), List.getElem?_set_ne (fun e' => e (h.one hk (gx_get hj) e'.symm))]
        exact h.at' k p hk
  · by_cases e : id = (gx xs i).1
    · subst e
      rw [List.getElem?_set_self (by simp; omega)] at hx
      cases hx
      exact .inr ⟨j, (gx xs i).2, rfl, by rw [swL_get hi hj, if_pos rfl]⟩
    · rw [List.getElem?_set_ne (Ne.symm e)] at hx
      by_cases e2 : id = (gx xs j).1
      · subst e2
        rw [List.getElem?_set_self (by omega)] at hx
        cases hx
        refine .inr ⟨i, (gx xs j).2, rfl, ?_⟩
        rw [swL_get hi hj]
        by_cases e3 : i = j
        · subst e3
          rw [if_pos rfl]
        · rw [if_neg e3, if_pos rfl]
      · rw [List.getElem?_set_ne (Ne.symm e2)] at hx
        rcases h.no id x hx with h' | ⟨m, k, rfl, hm⟩
        · exact .inl h'
        · refine .inr ⟨m, k, rfl, ?_⟩
          rw [swL_get hi hj, if_neg, if_neg]
          · exact hm
          · rintro rfl
            exact e (by rw [gx_of hm])
          · rintro rfl
            exact e2 (by rw [gx_of hm])
theorem Pls.push (h : Pls N xs pl) {id : Nat} (key : Int) (hp : pl[id]? = some (-1)) : Pls N (xs ++ [(id, key)]) (pl.set id xs.length) := by
  have hid := (List.getElem?_eq_some_iff.1 hp).1
  refine ⟨by simpa using h.len, fun k p hk => ?_, fun t x hx => ?_⟩
  · rcases Nat.lt_trichotomy k xs.length with hlt | rfl | hgt
    · rw [List.getElem?_append_left hlt] at hk
      have h1 := h.at' k p hk
      rw [List.getElem?_set_ne]
      · exact h1
      · rintro rfl
        rw [hp] at h1
        simp at h1
    · simp at hk
      subst hk
      exact List.getElem?_set_self hid
    · rw [List.getElem?_eq_none (by simp; omega)] at hk
      cases hk
  · by_cases e : t = id
    · subst e
      rw [List.getElem?_set_self hid] at hx
      cases hx
      exact .inr ⟨xs.length, key, rfl, by simp⟩
    · rw [List.getElem?_set_ne (Ne.symm e)] at hx
      rcases h.no t x hx with h' | ⟨i, k, rfl, hi⟩
      · exact .inl h'
      · refine .inr ⟨i, k, rfl, ?_⟩
        rw [List.getElem?_append_left (List.getElem?_eq_some_iff.1 hi).1]
        exact hi
theorem Pls.key (h : Pls N xs pl) {i id : Nat} {k : Int} (key : Int) (hp : xs[i]? = some (id, k)) : Pls N (xs.set i (id, key)) pl := by
  have hi := (List.getElem?_eq_some_iff.1 hp).1
  refine ⟨h.len, fun j p hj => ?_, fun t x hx => ?_⟩
  · by_cases e : i = j
    · subst e
      rw [List.getElem?_set_self hi] at hj
      cases hj
      exact h.at' i (id, k) hp
    · rw [List.getElem?_set_ne e] at hj
      exact h.at' j p hj
  · rcases h.no t x hx with h' | ⟨j, k', rfl, hj⟩
    · exact .inl h'
    · by_cases e : i = j
      · subst e
        rw [hp] at hj
        cases hj
        exact .inr ⟨i, key, rfl, List.getElem?_set_self hi⟩
      · exact .inr ⟨j, k', rfl, by rw [List.getElem?_set_ne e]; exact hj⟩
theorem Pls.pop {id : Nat} {k : Int} (h : Pls N (xs ++ [(id, k)]) pl) : Pls N xs (pl.set id (-1)) := by
  have hl : (xs ++ [(id, k)])[xs.length]? = some (id, k) := by simp
  have hid := h.lt hl
  rw [← h.len] at hid
  refine ⟨by simpa using h.len, fun j p hj => ?_, fun t x hx => ?_⟩
  · have hlt := (List.getElem?_eq_some_iff.1 hj).1
    have hj' : (xs ++ [(id, k)])[j]? = some p := by rw [List.getElem?_append_left hlt]; exact hj
    rw [List.getElem?_set_ne]
    · exact h.at' j p hj'
    · intro e
      have := h.one hj' hl e.symm
      omega
  · by_cases e : t = id
    · subst e
      rw [List.getElem?_set_self hid] at hx
      cases hx
      exact .inl rfl
    · rw [List.getElem?_set_ne (Ne.symm e)] at hx
      rcases h.no t x hx with h' | ⟨i, k', rfl, hi⟩
      · exact .inl h'
      · refine .inr ⟨i, k', rfl, ?_⟩
        rcases Nat.lt_trichotomy i xs.length with hlt | rfl | hgt
        · rwa [List.getElem?_append_left hlt] at hi
        · rw [hl] at hi
          cases hi
          exact absurd rfl e
        · rw [List.getElem?_eq_none (by simp; omega)] at hi
          cases hi
theorem Pls.map (h : Pls N xs pl) (f : Th → Int) : Pls N (xs.map (fun p => (p.1, f p))) pl := by
  refine ⟨h.len, fun j p hj => ?_, fun t x hx => ?_⟩
  · rw [List.getElem?_map] at hj
    obtain ⟨r, hr, rfl⟩ := Option.map_eq_some_iff.1 hj
    exact h.at' j r hr
  · rcases h.no t x hx with h' | ⟨i, k, rfl, hi⟩
    · exact .inl h'
    · exact .inr ⟨i, f (t, k), rfl, by rw [List.getElem?_map, hi]; rfl⟩
theorem Pls.nil (N : Nat) : Pls N [] (List.replicate N (-1)) := by
  refine ⟨by simp, fun j p hj => by simp at hj, fun t x hx => .inl ?_⟩
  have := List.mem_of_getElem? hx
  exact List.eq_of_mem_replicate this
end
end Go.Proofs.Ytmogedfjhbfglaa
