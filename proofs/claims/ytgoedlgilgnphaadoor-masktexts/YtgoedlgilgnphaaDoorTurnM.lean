/- What a turned set has, and what follows. -/
import Derived.Test.YtgoedlgilgnphaaDoorTurn
namespace Go.Proofs.YtgoedlgilgnphaaDoor
open Go Go.RowKit

theorem sorted_ext : ∀ {a b : List Nat}, a.Pairwise (· < ·) → b.Pairwise (· < ·) → (∀ x, x ∈ a ↔ x ∈ b) → a = b
  | [], [], _, _, _ => rfl
  | [], y :: _, _, _, h => by have := (h y).2 (by simp); cases this
  | x :: _, [], _, _, h => by have := (h x).1 (by simp); cases this
  | x :: a, y :: b, ha, hb, h => by
    have ha' := List.pairwise_cons.1 ha
    have hb' := List.pairwise_cons.1 hb
    have hxy : x = y := by
      have h1 := (h x).1 (by simp)
      have h2 := (h y).2 (by simp)
      rcases List.mem_cons.1 h1 with e | e
      · exact e
      · rcases List.mem_cons.1 h2 with e2 | e2
        · exact e2.symm
        · have := hb'.1 x e
          have := ha'.1 y e2
          omega
    subst hxy
    congr 1
    refine sorted_ext ha'.2 hb'.2 (fun z => ⟨fun hz => ?_, fun hz => ?_⟩)
    · have h1 := (h z).1 (by simp [hz])
      rcases List.mem_cons.1 h1 with e | e
      · have := ha'.1 z hz; omega
      · exact e
    · have h1 := (h z).2 (by simp [hz])
      rcases List.mem_cons.1 h1 with e | e
      · have := hb'.1 z hz; omega
      · exact e

theorem filter_split (p : Nat → Bool) : ∀ (l : List Nat), (l.filter p).length + (l.filter (fun x => !p x)).length = l.length
  | [] => rfl
  | x :: l => by
    have := filter_split p l
    rw [List.filter_cons, List.filter_cons]
    cases p x <;> simp <;> omega

theorem testBit_orBits (f : Nat → Nat) (j : Nat) : ∀ (l : List Nat), (orBits f l).testBit j = true ↔ ∃ i ∈ l, f i = j := by
  intro l
  unfold orBits
  suffices h : ∀ (l : List Nat) (a : Nat), (l.foldl (fun a i => a ||| 2 ^ (f i)) a).testBit j = true ↔ a.testBit j = true ∨ ∃ i ∈ l, f i = j by
    rw [h l 0]; simp
  intro l
  induction l with
  | nil => intro a; simp
  | cons x l ih =>
    intro a
    rw [List.foldl_cons, ih, Nat.testBit_or, Nat.testBit_two_pow]
    simp only [Bool.or_eq_true, decide_eq_true_eq, List.mem_cons, exists_eq_or_imp]
    exact or_assoc

/-- The turn by s within k. -/
def turnS (m k s : Nat) : Nat := orBits (fun i => (i + s) % k) (mem (m &&& belowN k))

theorem turnN_eq (m k : Nat) (b : Int) (h1 : 1 ≤ k) (h2 : k ≤ 64) : turnN m (k : Int) b = turnS m k (b % (k : Int)).toNat := by
  unfold turnN turnS
  rw [if_neg (by omega)]
  have e : min ((k : Int).toNat) 64 = k := by omega
  rw [e]

theorem turnS_lt (m k s : Nat) (h1 : 1 ≤ k) (h2 : k ≤ 64) : turnS m k s < 18446744073709551616 :=
  orBits_lt _ (fun i => by have := Nat.mod_lt (i + s) (show 0 < k by omega); omega) _

theorem mod_one {a k : Nat} (h : a < 2 * k) : a % k = if a < k then a else a - k := by
  split
  · rename_i h1; exact Nat.mod_eq_of_lt h1
  · rename_i h1
    rw [Nat.mod_eq_sub_mod (by omega), Nat.mod_eq_of_lt (by omega)]

theorem testBit_turnS (m k s j : Nat) (hk : 1 ≤ k) (hk2 : k ≤ 64) (hs : s < k) : (turnS m k s).testBit j = true ↔ ∃ i, i < k ∧ m.testBit i = true ∧ (if i + s < k then i + s else i + s - k) = j := by
  unfold turnS
  rw [testBit_orBits]
  constructor
  · rintro ⟨i, hi, e⟩
    rw [mem_and_below, List.mem_filter] at hi
    have hik : i < k := by simpa using hi.2
    have e' : (i + s) % k = j := e
    rw [mod_one (by omega)] at e'
    exact ⟨i, hik, (mem_mem.1 hi.1).2, e'⟩
  · rintro ⟨i, hik, hb, e⟩
    refine ⟨i, ?_, ?_⟩
    · rw [mem_and_below, List.mem_filter]
      exact ⟨mem_mem.2 ⟨by omega, hb⟩, by simpa using hik⟩
    · show (i + s) % k = j
      rw [mod_one (by omega)]
      exact e

theorem turnS_back (m k s s' : Nat) (hk : 1 ≤ k) (hk2 : k ≤ 64) (hs : s < k) (hs' : s' < k) (h : s + s' = 0 ∨ s + s' = k) (hm : m < 18446744073709551616) : turnS (turnS m k s) k s' = m &&& belowN k := by
  apply eq_of_bits (turnS_lt _ _ _ hk hk2) (and_lt hm)
  intro j hj
  have h2 : (m &&& belowN k).testBit j = true ↔ m.testBit j = true ∧ j < k := by rw [Nat.testBit_and, testBit_below]; simp
  have h3 : (turnS (turnS m k s) k s').testBit j = true ↔ (m &&& belowN k).testBit j = true := by
    rw [testBit_turnS (turnS m k s) k s' j hk hk2 hs', h2]
    clear h2
    constructor
    · rintro ⟨i, hi, hb, e⟩
      obtain ⟨i2, hi2, hb2, e2⟩ := (testBit_turnS m k s i hk hk2 hs).1 hb
      have : i2 = j := by
        split at e <;> split at e2 <;> omega
      subst this
      exact ⟨hb2, hi2⟩
    · rintro ⟨hb, hjk⟩
      refine ⟨if j + s < k then j + s else j + s - k, by split <;> omega, (testBit_turnS m k s _ hk hk2 hs).2 ⟨j, hjk, hb, rfl⟩, ?_⟩
      split <;> split <;> omega
  cases h4 : (turnS (turnS m k s) k s').testBit j <;> cases h5 : (m &&& belowN k).testBit j <;> simp_all

theorem turnS_zero (m k s : Nat) (hk : 1 ≤ k) (hk2 : k ≤ 64) (hs : s < k) : turnS (turnS m k s) k 0 = turnS m k s := by
  apply eq_of_bits (turnS_lt _ _ _ hk hk2) (turnS_lt _ _ _ hk hk2)
  intro j hj
  have h3 : (turnS (turnS m k s) k 0).testBit j = true ↔ (turnS m k s).testBit j = true := by
    rw [testBit_turnS (turnS m k s) k 0 j hk hk2 (by omega)]
    constructor
    · rintro ⟨i, hi, hb, e⟩
      have : i = j := by split at e <;> omega
      subst this
      exact hb
    · intro hb
      obtain ⟨i2, hi2, hb2, e2⟩ := (testBit_turnS m k s j hk hk2 hs).1 hb
      refine ⟨j, by split at e2 <;> omega, hb, by split <;> split at e2 <;> omega⟩
  cases h4 : (turnS (turnS m k s) k 0).testBit j <;> cases h5 : (turnS m k s).testBit j <;> simp_all

theorem turnS_count (m k s : Nat) (hk : 1 ≤ k) (hk2 : k ≤ 64) (hs : s < k) : (mem (turnS m k s)).length = (mem (m &&& belowN k)).length := by
  have hlen := filter_split (fun i => decide (i < k - s)) (mem (m &&& belowN k))
  have hsort := mem_sorted (m &&& belowN k)
  have hin : ∀ i, i ∈ mem (m &&& belowN k) ↔ i < k ∧ m.testBit i = true := fun i => by
    rw [mem_and_below, List.mem_filter, mem_mem]
    simp
    constructor
    · rintro ⟨⟨_, h1⟩, h2⟩; exact ⟨h2, h1⟩
    · rintro ⟨h1, h2⟩; exact ⟨⟨by omega, h2⟩, h1⟩
  have e : mem (turnS m k s) = ((mem (m &&& belowN k)).filter (fun x => !decide (x < k - s))).map (fun i => i + s - k) ++ ((mem (m &&& belowN k)).filter (fun i => decide (i < k - s))).map (fun i => i + s) := by
    refine sorted_ext (mem_sorted _) ?_ ?_
    · rw [List.pairwise_append]
      refine ⟨?_, ?_, ?_⟩
      · rw [List.pairwise_map]
        refine List.Pairwise.imp_of_mem ?_ (hsort.filter _)
        intro a b ha hb hab
        rw [List.mem_filter] at ha hb
        have := ha.2; have := hb.2
        simp at *
        omega
      · rw [List.pairwise_map]
        exact (hsort.filter _).imp (fun h => by omega)
      · intro a ha b hb
        rw [List.mem_map] at ha hb
        obtain ⟨i, hi, rfl⟩ := ha
        obtain ⟨i', hi', rfl⟩ := hb
        rw [List.mem_filter] at hi hi'
        have h1 := (hin i).1 hi.1
        have h2 := (hin i').1 hi'.1
        have h3 := hi.2
        simp at h3
        omega
    · intro j
      rw [mem_mem, testBit_turnS m k s j hk hk2 hs, List.mem_append, List.mem_map, List.mem_map]
      constructor
      · rintro ⟨_, i, hi, hb, e⟩
        split at e
        · exact .inr ⟨i, List.mem_filter.2 ⟨(hin i).2 ⟨hi, hb⟩, by simp; omega⟩, e⟩
        · exact .inl ⟨i, List.mem_filter.2 ⟨(hin i).2 ⟨hi, hb⟩, by simp; omega⟩, e⟩
      · rintro (⟨i, hi, e⟩ | ⟨i, hi, e⟩)
        · rw [List.mem_filter] at hi
          have h1 := (hin i).1 hi.1
          have h3 := hi.2
          simp at h3
          exact ⟨by omega, i, h1.1, h1.2, by rw [if_neg (by omega)]; exact e⟩
        · rw [List.mem_filter] at hi
          have h1 := (hin i).1 hi.1
          have h3 := hi.2
          simp at h3
          exact ⟨by omega, i, h1.1, h1.2, by rw [if_pos (by omega)]; exact e⟩
  rw [e, List.length_append, List.length_map, List.length_map]
  omega

end Go.Proofs.YtgoedlgilgnphaaDoor
