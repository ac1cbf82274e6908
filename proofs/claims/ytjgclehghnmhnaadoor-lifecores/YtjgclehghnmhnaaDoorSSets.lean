/- Sets of the numbers below 64 as numbers below 2^64: the list of members, and what the library's counts of bits are of it. -/
import Derived.Lib.BitFns
import Derived.Lib.TrailingZeros
namespace Go.Proofs.YtjgclehghnmhnaaDoor
open Go

/-- The members below f, rising. -/
def memF (f m : Nat) : List Nat := (List.range f).filter m.testBit
/-- The members of a set. -/
def mem (m : Nat) : List Nat := memF 64 m
/-- The first of a list; -1 of none. -/
def headI : List Nat → Int
  | [] => -1
  | x :: _ => x
/-- The last of a list; -1 of none. -/
def lastI : List Nat → Int
  | [] => -1
  | [x] => x
  | _ :: y :: l => lastI (y :: l)

theorem memF_zero (m : Nat) : memF 0 m = [] := rfl
theorem memF_succ (f m : Nat) : memF (f + 1) m = (if m % 2 = 1 then [0] else []) ++ (memF f (m / 2)).map Nat.succ := by
  unfold memF
  rw [List.range_succ_eq_map, List.filter_cons, List.filter_map]
  have h0 : m.testBit 0 = decide (m % 2 = 1) := Nat.testBit_zero m
  have h1 : (m.testBit ∘ Nat.succ) = (m / 2).testBit := by
    funext i
    simp [Function.comp, Nat.testBit_succ]
  rw [h0, h1]
  by_cases h : m % 2 = 1 <;> simp [h]

theorem mem_memF {f m i : Nat} : i ∈ memF f m ↔ i < f ∧ m.testBit i = true := by simp [memF]
theorem mem_mem {m i : Nat} : i ∈ mem m ↔ i < 64 ∧ m.testBit i = true := mem_memF
theorem memF_sorted (f m : Nat) : (memF f m).Pairwise (· < ·) := List.Pairwise.filter _ List.pairwise_lt_range
theorem mem_sorted (m : Nat) : (mem m).Pairwise (· < ·) := memF_sorted 64 m
theorem mem_length_le (m : Nat) : (mem m).length ≤ 64 := by
  have := List.length_filter_le m.testBit (List.range 64)
  simpa [mem, memF] using this

theorem memF_nil_zero : ∀ (f m : Nat), m < 2 ^ f → memF f m = [] → m = 0
  | 0, m, h, _ => by simp at h; exact h
  | f + 1, m, h, e => by
    rw [memF_succ] at e
    have h2 : m / 2 < 2 ^ f := by rw [Nat.pow_succ] at h; omega
    have e1 := List.append_eq_nil_iff.1 e
    have e2 := memF_nil_zero f (m / 2) h2 (List.map_eq_nil_iff.1 e1.2)
    by_cases hb : m % 2 = 1
    · simp [hb] at e1
    · omega

theorem mem_zero : mem 0 = [] := by simp [mem, memF]
theorem mem_eq_nil {m : Nat} (h : m < 18446744073709551616) : mem m = [] ↔ m = 0 :=
  ⟨fun e => memF_nil_zero 64 m (by simpa using h) e, fun e => by rw [e, mem_zero]⟩

theorem testBit_big {m i : Nat} (h : m < 18446744073709551616) (hi : 64 ≤ i) : m.testBit i = false :=
  Nat.testBit_lt_two_pow (Nat.lt_of_lt_of_le (by simpa using h : m < 2 ^ 64) (Nat.pow_le_pow_right (by decide) hi))

theorem eq_of_bits {a b : Nat} (ha : a < 18446744073709551616) (hb : b < 18446744073709551616) (h : ∀ i, i < 64 → a.testBit i = b.testBit i) : a = b := by
  apply Nat.eq_of_testBit_eq
  intro i
  by_cases hi : i < 64
  · exact h i hi
  · rw [testBit_big ha (by omega), testBit_big hb (by omega)]

theorem mem_inj {a b : Nat} (ha : a < 18446744073709551616) (hb : b < 18446744073709551616) (h : mem a = mem b) : a = b := by
  apply eq_of_bits ha hb
  intro i hi
  have h1 : i ∈ mem a ↔ i ∈ mem b := by rw [h]
  rw [mem_mem, mem_mem] at h1
  simp only [hi, true_and] at h1
  cases h2 : a.testBit i <;> cases h3 : b.testBit i <;> simp_all

theorem headI_map_succ : ∀ (l : List Nat), l ≠ [] → headI (l.map Nat.succ) = headI l + 1
  | [], h => (h rfl).elim
  | _ :: _, _ => by simp [headI]

theorem lastI_map_succ : ∀ (l : List Nat), l ≠ [] → lastI (l.map Nat.succ) = lastI l + 1
  | [], h => (h rfl).elim
  | [x], _ => by simp [lastI]
  | x :: y :: l, _ => by
    have := lastI_map_succ (y :: l) (by simp)
    simpa [lastI] using this

theorem lastI_cons (x : Nat) : ∀ (l : List Nat), l ≠ [] → lastI (x :: l) = lastI l
  | [], h => (h rfl).elim
  | _ :: _, _ => rfl

theorem ctzFrom_head : ∀ (f m : Nat), m < 2 ^ f → m ≠ 0 → ((Lib.ctzFrom f m : Nat) : Int) = headI (memF f m)
  | 0, m, h, h0 => by simp at h; omega
  | f + 1, m, h, h0 => by
    rw [memF_succ]
    unfold Lib.ctzFrom
    by_cases hb : m % 2 = 1
    · simp [hb, headI]
    · have h2 : m / 2 < 2 ^ f := by rw [Nat.pow_succ] at h; omega
      have h3 : m / 2 ≠ 0 := by omega
      have hne : memF f (m / 2) ≠ [] := fun e => h3 (memF_nil_zero f _ h2 e)
      simp only [hb, if_false, List.nil_append]
      rw [headI_map_succ _ hne, ← ctzFrom_head f (m / 2) h2 h3]
      omega

theorem ctz_head (m : Nat) (h : m < 18446744073709551616) (h0 : m ≠ 0) : ((Lib.ctz 64 m : Nat) : Int) = headI (mem m) := by
  unfold Lib.ctz
  rw [if_neg h0]
  exact ctzFrom_head 64 m (by simpa using h) h0

theorem bitLenAux_last : ∀ (f m : Nat), m < 2 ^ f → ((Lib.bitLenAux f m : Nat) : Int) = lastI (memF f m) + 1
  | 0, m, _ => rfl
  | f + 1, m, h => by
    rw [memF_succ]
    unfold Lib.bitLenAux
    have h2 : m / 2 < 2 ^ f := by rw [Nat.pow_succ] at h; omega
    have ih := bitLenAux_last f (m / 2) h2
    by_cases h0 : m = 0
    · subst h0
      have : memF f 0 = [] := by simp [memF]
      simp [this, lastI]
    · rw [if_neg h0]
      by_cases hn : memF f (m / 2) = []
      · have h3 := memF_nil_zero f _ h2 hn
        have hb : m % 2 = 1 := by omega
        rw [hn] at ih ⊢
        simp only [hb, if_true, List.map_nil, List.append_nil, lastI] at ih ⊢
        omega
      · have hs := lastI_map_succ _ hn
        have hn' : (memF f (m / 2)).map Nat.succ ≠ [] := fun e => hn (List.map_eq_nil_iff.1 e)
        by_cases hb : m % 2 = 1
        · simp only [hb, if_true, List.cons_append, List.nil_append]
          rw [lastI_cons _ _ hn', hs]
          omega
        · simp only [hb, if_false, List.nil_append]
          rw [hs]
          omega

theorem bitLen_last (m : Nat) (h : m < 18446744073709551616) : ((Lib.bitLen m : Nat) : Int) = lastI (mem m) + 1 :=
  bitLenAux_last 64 m (by simpa using h)

theorem popAux_length : ∀ (f m : Nat), Lib.popAux f m = (memF f m).length
  | 0, _ => rfl
  | f + 1, m => by
    rw [memF_succ]
    unfold Lib.popAux
    rw [popAux_length f (m / 2)]
    by_cases hb : m % 2 = 1
    · simp [hb]; omega
    · have : m % 2 = 0 := by omega
      simp [this]

theorem onesCount_length (m : Nat) : Lib.onesCount m = (mem m).length := popAux_length 64 m

/-- Those below n. -/
def belowN (n : Nat) : Nat := 2 ^ n - 1

theorem filter_pre : ∀ {l pre rest : List Nat} {x : Nat}, l.Pairwise (· < ·) → l = pre ++ x :: rest → l.filter (fun y => decide (x < y)) = rest := by
  intro l pre rest x h e
  subst e
  rw [List.pairwise_append] at h
  obtain ⟨_, h2, h3⟩ := h
  rw [List.filter_append, List.filter_cons]
  have e1 : pre.filter (fun y => decide (x < y)) = [] := by
    rw [List.filter_eq_nil_iff]
    intro a ha
    have := h3 a ha x (by simp)
    simp; omega
  have e2 : rest.filter (fun y => decide (x < y)) = rest := by
    rw [List.filter_eq_self]
    intro a ha
    have := (List.pairwise_cons.1 h2).1 a ha
    simpa using this
  simp [e1, e2]

theorem filter_lt_pre : ∀ {l pre rest : List Nat} {x : Nat}, l.Pairwise (· < ·) → l = pre ++ x :: rest → l.filter (fun y => decide (y < x)) = pre := by
  intro l pre rest x h e
  subst e
  rw [List.pairwise_append] at h
  obtain ⟨_, h2, h3⟩ := h
  rw [List.filter_append, List.filter_cons]
  have e1 : pre.filter (fun y => decide (y < x)) = pre := by
    rw [List.filter_eq_self]
    intro a ha
    have := h3 a ha x (by simp)
    simpa using this
  have e2 : rest.filter (fun y => decide (y < x)) = [] := by
    rw [List.filter_eq_nil_iff]
    intro a ha
    have := (List.pairwise_cons.1 h2).1 a ha
    simp; omega
  simp [e1, e2]

theorem mem_and (a b : Nat) : mem (a &&& b) = (mem a).filter b.testBit := by
  unfold mem memF
  rw [List.filter_filter]
  congr 1
  funext i
  rw [Nat.testBit_and, Bool.and_comm]

theorem testBit_below {n i : Nat} : (belowN n).testBit i = decide (i < n) := by
  unfold belowN
  exact Nat.testBit_two_pow_sub_one n i

theorem mem_and_below (a n : Nat) : mem (a &&& belowN n) = (mem a).filter (fun y => decide (y < n)) := by
  rw [mem_and]
  congr 1
  funext i
  exact testBit_below

theorem testBit_compl {a i : Nat} (hi : i < 64) : (18446744073709551615 - a).testBit i = !a.testBit i ∨ ¬ a < 18446744073709551616 := by
  by_cases h : a < 18446744073709551616
  · left
    have e : 18446744073709551615 - a = 2 ^ 64 - (a + 1) := by omega
    rw [e, Nat.testBit_two_pow_sub_succ (by simpa using h)]
    simp [hi]
  · exact .inr h

theorem mem_and_compl (a b : Nat) (hb : b < 18446744073709551616) : mem (a &&& (18446744073709551615 - b)) = (mem a).filter (fun y => !b.testBit y) := by
  rw [mem_and]
  unfold mem memF
  rw [List.filter_filter, List.filter_filter]
  apply List.filter_congr
  intro i hi
  have hi' : i < 64 := by simpa using hi
  rcases testBit_compl (a := b) hi' with e | e
  · rw [e]
  · exact (e hb).elim

theorem and_lt {a b : Nat} (h : a < 18446744073709551616) : a &&& b < 18446744073709551616 :=
  Nat.lt_of_le_of_lt Nat.and_le_left h

theorem below_lt {n : Nat} (h : n ≤ 64) : belowN n < 18446744073709551616 := by
  unfold belowN
  have : 2 ^ n ≤ 2 ^ 64 := Nat.pow_le_pow_right (by decide) h
  have h2 : 0 < 2 ^ n := Nat.pow_pos (by decide)
  have h3 : (2 : Nat) ^ 64 = 18446744073709551616 := by decide
  omega

end Go.Proofs.YtjgclehghnmhnaaDoor
