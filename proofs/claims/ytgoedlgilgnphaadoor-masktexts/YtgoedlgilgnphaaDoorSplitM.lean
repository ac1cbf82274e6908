/- A text's parts: what is between commas, and what each part means. -/
import Derived.Test.YtgoedlgilgnphaaDoorMember
namespace Go.Proofs.YtgoedlgilgnphaaDoor
open Go.RowKit Go.Shelf

def dd (a : Nat) : List UInt8 := if a < 10 then [UInt8.ofNat (48 + a)] else [UInt8.ofNat (48 + a / 10), UInt8.ofNat (48 + a % 10)]

theorem dd_eq {a : Nat} (h : a < 64) : Lib.decDigits a = dd a := by
  unfold dd
  split
  · exact Lib.decDigits_one ‹_›
  · exact Lib.decDigits_two ‹_› (by omega)

set_option maxRecDepth 100000 in
theorem dd_val : ∀ a : Fin 64, memV (dd a.1) = ((a.1 : Int), true) ∧ (dd a.1).all (fun c => decide (48 ≤ c.toNat)) = true ∧ dd a.1 ≠ [] := by decide

theorem dec_val {a : Nat} (h : a < 64) : memV (Lib.decDigits a) = ((a : Int), true) := by rw [dd_eq h]; exact (dd_val ⟨a, h⟩).1
theorem dec_dig {a : Nat} (h : a < 64) : ∀ c ∈ Lib.decDigits a, 48 ≤ c.toNat := by
  rw [dd_eq h]
  have := (dd_val ⟨a, h⟩).2.1
  rw [List.all_eq_true] at this
  exact fun c hc => by simpa using this c hc

theorem index_none : ∀ {l : List UInt8} {c : UInt8}, c ∉ l → Lib.indexByte l c = -1
  | [], _, _ => rfl
  | b :: l, c, h => by
    have h1 : b ≠ c := fun e => h (by simp [e])
    have h2 := index_none (l := l) (c := c) (fun e => h (by simp [e]))
    unfold Lib.indexByte
    rw [h2]
    simp [h1]

theorem index_app : ∀ {l r : List UInt8} {c : UInt8}, c ∉ l → Lib.indexByte (l ++ c :: r) c = l.length
  | [], r, c, _ => by simp [Lib.indexByte]
  | b :: l, r, c, h => by
    have h1 : b ≠ c := fun e => h (by simp [e])
    have h2 := index_app (l := l) (r := r) (c := c) (fun e => h (by simp [e]))
    rw [List.cons_append]
    unfold Lib.indexByte
    rw [h2]
    have h3 : ((l.length : Int) == -1) = false := by simp
    have h4 : (b == c) = false := by simpa using h1
    rw [h3, h4]
    simp

theorem splitL_app {p r : List UInt8} (h : (44 : UInt8) ∉ p) : splitL (p ++ 44 :: r) = p :: splitL r := by
  rw [splitL_some (index_app h)]
  simp

theorem splitL_join : ∀ (p : List UInt8) (ps : List (List UInt8)), (∀ q ∈ p :: ps, (44 : UInt8) ∉ q) → splitL (Lib.join (p :: ps) [44]) = p :: ps
  | p, [], h => by rw [Lib.join_one]; exact splitL_none (index_none (h p (by simp)))
  | p, q :: ps, h => by
    have e : Lib.join (p :: q :: ps) [44] = p ++ 44 :: Lib.join (q :: ps) [44] := by
      rw [Lib.join_cons, Lib.join_cons]
      simp [Lib.joinTail]
    rw [e, splitL_app (h p (by simp)), splitL_join q ps (fun r hr => h r (by simp [hr]))]

theorem partL_44 {a b : Nat} (ha : a < 64) (hb : b < 64) : (44 : UInt8) ∉ partL a b := by
  intro h
  have h1 : ∀ {n}, n < 64 → (44 : UInt8) ∉ Lib.decDigits n := fun hn hm => by
    have := dec_dig hn 44 hm
    simp at this
  unfold partL at h
  split at h
  · exact h1 ha h
  · rw [List.mem_append, List.mem_cons] at h
    rcases h with h | h | h
    · exact h1 ha h
    · simp at h
    · exact h1 hb h

/-- From a to b. -/
def runN (a b : Nat) : Nat := belowN (b + 1) &&& (18446744073709551615 - belowN a)

theorem clamp_nat {a : Nat} (h : a ≤ 64) : clampN (a : Int) = a := by
  unfold clampN
  split
  · omega
  · split <;> omega

theorem partV_partL {a b : Nat} (ha : a < 64) (hb : b < 64) : partV (partL a b) = (runN a b, true) := by
  have h45 : ∀ {n}, n < 64 → (45 : UInt8) ∉ Lib.decDigits n := fun hn hm => by
    have := dec_dig hn 45 hm
    simp at this
  have c1 : clampN ((b : Int) + 1) = b + 1 := by
    have := clamp_nat (a := b + 1) (by omega)
    simpa using this
  have c2 : clampN (a : Int) = a := clamp_nat (by omega)
  unfold partL
  split
  · rename_i hab
    subst hab
    have hc : cutL (Lib.decDigits a) 45 = (Lib.decDigits a, [], false) := by unfold cutL; rw [if_pos (index_none (h45 ha))]
    unfold partV
    rw [hc]
    simp only [dec_val ha, Bool.false_eq_true, if_false, and_self, if_true, c1, c2]
    rfl
  · have hi := index_app (r := Lib.decDigits b) (h45 ha)
    have hc : cutL (Lib.decDigits a ++ 45 :: Lib.decDigits b) 45 = (Lib.decDigits a, Lib.decDigits b, true) := by
      unfold cutL
      rw [if_neg (by rw [hi]; omega), hi]
      simp
    unfold partV
    rw [hc]
    simp only [dec_val ha, dec_val hb, and_self, if_true, c1, c2]
    rfl

theorem testBit_run {a b i : Nat} (ha : a < 64) (hb : b < 64) : (runN a b).testBit i = (decide (a ≤ i) && decide (i ≤ b)) := by
  unfold runN
  rw [Nat.testBit_and, testBit_below]
  have h1 := below_lt (n := a) (by omega)
  have h2 : (18446744073709551615 - belowN a).testBit i = (decide (i < 64) && !(belowN a).testBit i) := by
    have := Nat.testBit_two_pow_sub_succ (n := 64) (i := i) h1
    rw [show (18446744073709551615 - belowN a) = 2 ^ 64 - (belowN a + 1) by omega]
    exact this
  rw [h2, testBit_below]
  rw [Bool.eq_iff_iff]
  simp only [Bool.and_eq_true, Bool.not_eq_true', decide_eq_true_eq, decide_eq_false_iff_not]
  omega

def orRuns (l : List R64) : Nat := l.foldl (fun x p => x ||| runN p.1.1 p.1.2) 0

theorem testBit_orRuns (i : Nat) : ∀ (l : List R64) (x : Nat), (l.foldl (fun x p => x ||| runN p.1.1 p.1.2) x).testBit i = true ↔ x.testBit i = true ∨ ∃ p ∈ l, p.1.1 ≤ i ∧ i ≤ p.1.2
  | [], x => by simp
  | p :: l, x => by
    rw [List.foldl_cons, testBit_orRuns i l, Nat.testBit_or, testBit_run p.2.1 p.2.2]
    simp [or_assoc]

theorem start_of {m : Nat} (hm : m < 18446744073709551616) : ∀ i, m.testBit i = true → ∃ x ∈ starts m, x ≤ i ∧ i ≤ endN m x
  | 0, h => by
    have h0 : 0 ∈ mem m := mem_mem.2 ⟨by omega, h⟩
    exact ⟨0, mem_starts.2 ⟨h0, .inl rfl⟩, Nat.le_refl _, Nat.zero_le _⟩
  | i + 1, h => by
    have h64 : i + 1 < 64 := by
      apply Decidable.byContradiction
      intro hc
      rw [testBit_big hm (by omega)] at h
      exact Bool.noConfusion h
    have hi : i + 1 ∈ mem m := mem_mem.2 ⟨h64, h⟩
    cases hp : m.testBit i with
    | false => exact ⟨i + 1, mem_starts.2 ⟨hi, .inr hp⟩, Nat.le_refl _, (endN_spec hm hi).1⟩
    | true =>
      obtain ⟨x, hx, h1, h2⟩ := start_of hm i hp
      have hs := endN_spec hm (mem_starts.1 hx).1
      refine ⟨x, hx, by omega, ?_⟩
      have hlt := mem_lt64 _ hi
      rcases hs.2.2.2 with h3 | h3
      · omega
      · apply Decidable.byContradiction
        intro hc
        have : endN m x = i := by omega
        rw [this, h] at h3
        cases h3

theorem orRuns_runs {m : Nat} (hm : m < 18446744073709551616) : orRuns (runsS m) = m := by
  apply Nat.eq_of_testBit_eq
  intro i
  rw [Bool.eq_iff_iff]
  unfold orRuns
  rw [testBit_orRuns]
  simp only [Nat.zero_testBit, Bool.false_eq_true, false_or]
  constructor
  · rintro ⟨p, hp, h1, h2⟩
    have hx : p.1.1 ∈ starts m := by
      rw [← firsts_runsS]
      exact List.mem_map.2 ⟨p, hp, rfl⟩
    rw [runsS_end hp] at h2
    exact (endN_spec hm (mem_starts.1 hx).1).2.2.1 i h1 h2
  · intro h
    obtain ⟨x, hx, h1, h2⟩ := start_of hm i h
    rw [← firsts_runsS] at hx
    obtain ⟨p, hp, rfl⟩ := List.mem_map.1 hx
    exact ⟨p, hp, h1, by rw [runsS_end hp]; exact h2⟩

end Go.Proofs.YtgoedlgilgnphaaDoor
