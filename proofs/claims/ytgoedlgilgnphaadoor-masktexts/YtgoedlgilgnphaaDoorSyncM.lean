/- How the reference reads a text: plain facts. -/
import Derived.Test.YtgoedlgilgnphaaDoorTextR
namespace Go.Proofs.YtgoedlgilgnphaaDoor
open Go.RowKit Go.Shelf

/-- A set with k numbers more, from a on. -/
def addN (M a k : Nat) : Nat := (List.range k).foldl (fun x i => x ||| bitN ((a + i : Nat) : Int)) M
theorem addN_zero (M a : Nat) : addN M a 0 = M := rfl
theorem addN_succ (M a k : Nat) : addN M a (k + 1) = addN M a k ||| bitN ((a + k : Nat) : Int) := by
  unfold addN
  rw [List.range_succ, List.foldl_append]
  rfl
theorem addN_lt {M : Nat} (hM : M < 18446744073709551616) (a : Nat) : ∀ k, addN M a k < 18446744073709551616
  | 0 => hM
  | k + 1 => by rw [addN_succ]; exact or_lt (addN_lt hM a k) (bitN_lt _)
theorem testBit_bitM (j i : Nat) : (bitN (j : Int)).testBit i = (decide (j < 64) && decide (j = i)) := by
  unfold bitN
  by_cases h : j < 64
  · rw [if_pos (by omega)]
    have e : ((j : Int)).toNat = j := by omega
    rw [e, Nat.testBit_two_pow]
    simp [h]
  · rw [if_neg (by omega)]
    simp [h]
theorem testBit_addN (M a i : Nat) : ∀ k, (addN M a k).testBit i = (M.testBit i || (decide (a ≤ i) && decide (i < a + k) && decide (i < 64)))
  | 0 => by
    rw [addN_zero]
    have : (decide (a ≤ i) && decide (i < a + 0) && decide (i < 64)) = false := by
      simp; omega
    rw [this, Bool.or_false]
  | k + 1 => by
    rw [addN_succ, Nat.testBit_or, testBit_addN M a i k, testBit_bitM, Bool.or_assoc]
    congr 1
    rw [Bool.eq_iff_iff]
    simp
    omega
theorem addN_run {M a b : Nat} (hab : a ≤ b) (hb : b < 64) : addN M a (b + 1 - a) = M ||| runN a b := by
  apply Nat.eq_of_testBit_eq
  intro i
  rw [testBit_addN, Nat.testBit_or, testBit_run (by omega) hb]
  congr 1
  rw [Bool.eq_iff_iff]
  simp
  omega

/-- In step with the text of t. -/
def SyncT (t : Nat) (rest : List UInt8) (m : Nat) : Prop := ∃ pre rs, runsS t = pre ++ rs ∧ rs ≠ [] ∧ rest = Lib.join (partsL rs) [44] ∧ m = orRuns pre
/-- Behind a part: it is the end, or more parts come. -/
def Then (s rest : List UInt8) (m : Nat) : Prop := ∀ t, t < 18446744073709551616 → textL t = s → t ≠ 0 → (rest = [] ∧ m = t) ∨ ∃ r, rest = 44 :: r ∧ SyncT t r m

theorem orRuns_snoc (pre : List R64) (r : R64) : orRuns (pre ++ [r]) = orRuns pre ||| runN r.1.1 r.1.2 := by
  unfold orRuns; rw [List.foldl_append]; rfl

theorem sync_one {s rest : List UInt8} {M t : Nat} (hS : Sync s rest M) (ht : t < 18446744073709551616) (e : textL t = s) (h0 : t ≠ 0) :
    ∃ (a b : Nat) (tl : List UInt8), a ≤ b ∧ b < 64 ∧ rest = partL a b ++ tl ∧ ((tl = [] ∧ M ||| runN a b = t) ∨ ∃ r, tl = 44 :: r ∧ SyncT t r (M ||| runN a b)) := by
  obtain ⟨pre, rs, h1, h2, h3, h4⟩ := hS t ht e h0
  cases rs with
  | nil => exact absurd rfl h2
  | cons r rs =>
    have hr : r ∈ runsS t := by rw [h1]; simp
    have he := runsS_end hr
    have hst : r.1.1 ∈ starts t := by
      rw [← firsts_runsS]
      unfold firsts
      exact List.mem_map.2 ⟨r, hr, rfl⟩
    have hsp := (endN_spec ht (mem_starts.1 hst).1)
    obtain ⟨tl, hj, htl⟩ := join_step r rs
    refine ⟨r.1.1, r.1.2, tl, by rw [he]; exact hsp.1, by rw [he]; exact hsp.2.1, by rw [h3, hj], ?_⟩
    rcases htl with ⟨rfl, rfl⟩ | ⟨hne, rfl⟩
    · refine .inl ⟨rfl, ?_⟩
      rw [h4, ← orRuns_snoc, ← h1, orRuns_runs ht]
    · exact .inr ⟨_, rfl, pre ++ [r], rs, by rw [h1]; simp, hne, rfl, by rw [orRuns_snoc, h4]⟩

/-- What the number is that such a text begins with, and what comes behind it. -/
theorem sync_num {s rest : List UInt8} {M t : Nat} (hS : Sync s rest M) (ht : t < 18446744073709551616) (e : textL t = s) (h0 : t ≠ 0) :
    ∃ (a b : Nat) (tl : List UInt8), a ≤ b ∧ b < 64 ∧ (numR rest).1 = a ∧ (numR rest).2 ≠ 0 ∧ rest.drop (numR rest).2 = (if a = b then tl else 45 :: (dd b ++ tl)) ∧ (numR (dd b ++ tl) = (b, (dd b).length)) ∧ (dd b).length ≠ 0 ∧ ((tl = [] ∧ M ||| runN a b = t) ∨ ∃ r, tl = 44 :: r ∧ SyncT t r (M ||| runN a b)) := by
  obtain ⟨a, b, tl, hab, hb, hr, htl⟩ := sync_one hS ht e h0
  have ha : a < 64 := by omega
  have htd : tl = [] ∨ ∃ c r, tl = c :: r ∧ isD c = false := by
    rcases htl with ⟨h, _⟩ | ⟨r, h, _⟩
    · exact .inl h
    · exact .inr ⟨44, r, h, isD_44⟩
  have hl : ∀ x, x < 64 → (dd x).length ≠ 0 := fun x hx h => (dd_val ⟨x, hx⟩).2.2 (List.eq_nil_of_length_eq_zero h)
  unfold partL at hr
  rw [dd_eq ha, dd_eq hb] at hr
  by_cases hc : a = b
  · subst hc
    rw [if_pos rfl] at hr
    have hn := num_dd ha tl htd
    rw [← hr] at hn
    refine ⟨a, a, tl, hab, hb, by rw [hn], by rw [hn]; exact hl a ha, ?_, num_dd ha tl htd, hl a ha, htl⟩
    rw [hn, if_pos rfl, hr]
    simp
  · rw [if_neg hc, List.append_assoc, List.cons_append] at hr
    have hn := num_dd ha (45 :: (dd b ++ tl)) (.inr ⟨45, _, rfl, isD_45⟩)
    rw [← hr] at hn
    refine ⟨a, b, tl, hab, hb, by rw [hn], by rw [hn]; exact hl a ha, ?_, num_dd hb tl htd, hl b hb, htl⟩
    rw [hn, if_neg hc, hr]
    simp

theorem sync_none {s rest : List UInt8} {M : Nat} (hs : s ≠ [45]) (hS : Sync s rest M) (h : (numR rest).2 = 0) : told s (0, false) := by
  refine .inr ⟨fun t ht e => ?_, rfl⟩
  have h0 : t ≠ 0 := by rintro rfl; exact hs (e.symm.trans text_zero)
  obtain ⟨a, b, tl, _, _, _, h1, _⟩ := sync_num hS ht e h0
  exact h1 h
theorem sync_plain {s rest rest1 : List UInt8} {M : Nat} (hS : Sync s rest M) (h1 : rest.drop (numR rest).2 = rest1) (hd : ∀ r, rest1 ≠ 45 :: r) : Then s rest1 (addN M (numR rest).1 1) := by
  intro t ht e h0
  obtain ⟨a, b, tl, hab, hb, n1, n2, hr, n3, n4, htl⟩ := sync_num hS ht e h0
  rw [h1] at hr
  by_cases hc : a = b
  · subst hc
    rw [if_pos rfl] at hr
    have := addN_run (M := M) hab hb
    rw [show a + 1 - a = 1 by omega] at this
    rw [n1, this, hr]
    exact htl
  · rw [if_neg hc] at hr
    exact absurd hr (hd _)
theorem sync_dash {s rest r2 : List UInt8} {M : Nat} (hS : Sync s rest M) (h1 : rest.drop (numR rest).2 = 45 :: r2) : Then s (r2.drop (numR r2).2) (addN M (numR rest).1 ((numR r2).1 + 1 - (numR rest).1)) := by
  intro t ht e h0
  obtain ⟨a, b, tl, hab, hb, n1, n2, hr, n3, n4, htl⟩ := sync_num hS ht e h0
  rw [h1] at hr
  by_cases hc : a = b
  · rw [if_pos hc] at hr
    rcases htl with ⟨rfl, _⟩ | ⟨r, rfl, _⟩
    · cases hr
    · cases hr
  · rw [if_neg hc] at hr
    obtain rfl : r2 = dd b ++ tl := by simpa using hr
    rw [n3, n1]
    dsimp only
    rw [addN_run hab hb]
    have : (dd b ++ tl).drop (dd b).length = tl := by simp
    rw [this]
    exact htl
theorem sync_dash_none {s rest r2 : List UInt8} {M : Nat} (hs : s ≠ [45]) (hS : Sync s rest M) (h1 : rest.drop (numR rest).2 = 45 :: r2) (h : (numR r2).2 = 0) : told s (0, false) := by
  refine .inr ⟨fun t ht e => ?_, rfl⟩
  have h0 : t ≠ 0 := by rintro rfl; exact hs (e.symm.trans text_zero)
  obtain ⟨a, b, tl, hab, hb, n1, n2, hr, n3, n4, htl⟩ := sync_num hS ht e h0
  rw [h1] at hr
  by_cases hc : a = b
  · rw [if_pos hc] at hr
    rcases htl with ⟨rfl, _⟩ | ⟨r, rfl, _⟩
    · cases hr
    · cases hr
  · rw [if_neg hc] at hr
    obtain rfl : r2 = dd b ++ tl := by simpa using hr
    rw [n3] at h
    exact n4 h
theorem then_more {s r : List UInt8} {m : Nat} (h : Then s (44 :: r) m) : Sync s r m := by
  intro t ht e h0
  rcases h t ht e h0 with ⟨h1, _⟩ | ⟨r', h1, h2⟩
  · cases h1
  · obtain rfl : r = r' := by simpa using h1
    exact h2
theorem then_bad {s : List UInt8} {c : UInt8} {r : List UInt8} {m : Nat} (hs : s ≠ [45]) (h : Then s (c :: r) m) (hc : c ≠ 44) : told s (0, false) := by
  refine .inr ⟨fun t ht e => ?_, rfl⟩
  have h0 : t ≠ 0 := by rintro rfl; exact hs (e.symm.trans text_zero)
  rcases h t ht e h0 with ⟨h1, _⟩ | ⟨r', h1, _⟩
  · cases h1
  · cases h1; exact hc rfl
theorem then_end {s : List UInt8} {m : Nat} (hs : s ≠ [45]) (hm : m < 18446744073709551616) (h : Then s [] m) : told s (if textL m = s then (m, true) else (0, false)) := by
  by_cases hx : textL m = s
  · rw [if_pos hx]; exact .inl ⟨m, hm, hx, rfl⟩
  · rw [if_neg hx]
    refine .inr ⟨fun t ht e => ?_, rfl⟩
    have h0 : t ≠ 0 := by rintro rfl; exact hs (e.symm.trans text_zero)
    rcases h t ht e h0 with ⟨_, h1⟩ | ⟨r', h1, _⟩
    · subst h1; exact hx e
    · cases h1
end Go.Proofs.YtgoedlgilgnphaaDoor
