/- Contracts of mask's straight functions: bit, Below, Has, With, Without, First, Last, Next; and of the library's TrailingZeros64. -/
import Derived.Test.YtgoedlgilgnphaaDoorMem
import Derived.Test.YtgoedlgilgnphaaDoorChecked
import Derived.WalkKit
import Derived.Laws.Bits64b
import Derived.Shelf.Spec.TrailingZeros
namespace Go.Proofs.YtgoedlgilgnphaaDoor
open Go.RowKit

/-- The table of TrailingZeros64 lies in its variable. -/
def Tab (w : World) : Prop := 0 < w.heap.size ∧ TabAt 0 Lib.deBruijn64tab w

theorem Tab.below {w w' : World} {n : Nat} (h : Tab w) (hb : Below n w w') (hn : w.heap.size ≤ n) : Tab w' :=
  ⟨Nat.lt_of_lt_of_le h.1 hb.size, fun j hj => (hb.cell (p := ⟨0, j, none⟩) (Nat.lt_of_lt_of_le h.1 hn)).trans (h.2 j hj)⟩

def bitN (i : Int) : Nat := if 0 ≤ i ∧ i < 64 then 2 ^ i.toNat else 0
def clampN (n : Int) : Nat := if n ≤ 0 then 0 else if 64 ≤ n then 64 else n.toNat
/-- Those above i. -/
def aboveL (i : Int) (l : List Nat) : List Nat := l.filter (fun y : Nat => decide (i < (y : Int)))
/-- Those below i. -/
def belowL (i : Int) (l : List Nat) : List Nat := l.filter (fun y : Nat => decide ((y : Int) < i))
def hasB (m : Nat) (i : Int) : Bool := decide (0 ≤ i ∧ i < 64) && m.testBit i.toNat

theorem clampN_le (n : Int) : clampN n ≤ 64 := by unfold clampN; split <;> (try split) <;> omega

theorem pow_lt_64 {k : Nat} (h : k < 64) : 2 ^ k < 18446744073709551616 := by
  have : (2 : Nat) ^ k < 2 ^ 64 := Nat.pow_lt_pow_right (by decide) h
  have h3 : (2 : Nat) ^ 64 = 18446744073709551616 := by decide
  omega

theorem bitN_lt (i : Int) : bitN i < 18446744073709551616 := by
  unfold bitN
  split
  · exact pow_lt_64 (by omega)
  · decide

theorem testBit_bitN (i : Int) (j : Nat) (hj : j < 64) : (bitN i).testBit j = decide (i = j) := by
  unfold bitN
  split
  · rename_i h
    rw [Nat.testBit_two_pow]
    rw [decide_eq_decide]
    omega
  · rename_i h
    simp
    omega

theorem bits_andNot_u64_nat (a b : Nat) (ha : a < 18446744073709551616) (hb : b < 18446744073709551616) :
    bits .andNot .u64 (a : Int) (b : Int) = ((a &&& (18446744073709551615 - b) : Nat) : Int) := by
  have hx : a &&& (18446744073709551615 - b) < 18446744073709551616 := and_lt ha
  have h1 : (BitVec.ofInt 64 (a : Int)).toNat = a := by
    rw [BitVec.ofInt_natCast, BitVec.toNat_ofNat]; exact Nat.mod_eq_of_lt (by omega)
  have h2 : (BitVec.ofInt 64 (b : Int)).toNat = b := by
    rw [BitVec.ofInt_natCast, BitVec.toNat_ofNat]; exact Nat.mod_eq_of_lt (by omega)
  show IntKind.u64.wrap ((BitVec.ofInt 64 (a : Int) &&& ~~~ BitVec.ofInt 64 (b : Int)).toNat : Int) = _
  rw [BitVec.toNat_and, BitVec.toNat_not, h1, h2, IntKind.wrap_u64]
  have h3 : (2 : Nat) ^ 64 - 1 - b = 18446744073709551615 - b := by have : (2 : Nat) ^ 64 = 18446744073709551616 := by decide
                                                                    omega
  rw [h3]
  omega

theorem wrap_bit (i : Int) (h : 0 ≤ i ∧ i < 64) : IntKind.u64.wrap (2 ^ i.toNat) = ((bitN i : Nat) : Int) := by
  have h1 := bitN_lt i
  unfold bitN at h1 ⊢
  rw [if_pos h] at h1 ⊢
  rw [IntKind.wrap_u64]
  have e : ((2 : Int) ^ i.toNat) = ((2 ^ i.toNat : Nat) : Int) := by simp
  rw [e]
  generalize 2 ^ i.toNat = x at h1 ⊢
  omega

theorem bit_any (i : Int) (w : World) : Calls Tryd.prog 38 #[.int .i64 i] w fun e w' => e = .returned (.int .u64 (bitN i)) ∧ w' = w := by
  by_cases h : 0 ≤ i ∧ i < 64
  · have hw := wrap_bit i h
    obtain ⟨h2, h3⟩ := h
    go_enter Tryd.func38, Tryd.ntmps38
    go_wp2
    go_ret
    exact ⟨rfl, rfl⟩
  · have e : ((bitN i : Nat) : Int) = 0 := by unfold bitN; rw [if_neg h]; rfl
    rw [e]
    by_cases h2 : i < 0
    · go_enter Tryd.func38, Tryd.ntmps38
      go_wp2
      go_ret
      exact ⟨rfl, rfl⟩
    · have h3 : 64 ≤ i := by omega
      have h4 : 0 ≤ i := by omega
      go_enter Tryd.func38, Tryd.ntmps38
      go_wp2
      go_ret
      exact ⟨rfl, rfl⟩

theorem shr_below (n : Int) (h0 : 0 < n) (h1 : n ≤ 64) : (18446744073709551615 : Int) / 2 ^ (64 - n).toNat = ((belowN (clampN n) : Nat) : Int) := by
  obtain ⟨k, rfl⟩ : ∃ k : Nat, n = k := ⟨n.toNat, by omega⟩
  have e1 : clampN (k : Int) = k := by unfold clampN; split <;> (try split) <;> omega
  have e2 : ((64 : Int) - k).toNat = 64 - k := by omega
  rw [e1, e2]
  have e3 : ((2 : Int) ^ (64 - k)) = ((2 ^ (64 - k) : Nat) : Int) := by simp
  rw [e3]
  have e4 : (18446744073709551615 : Int) = ((2 ^ 64 - 1 : Nat) : Int) := by decide
  rw [e4, ← Int.natCast_ediv]
  congr 1
  unfold belowN
  apply Nat.eq_of_testBit_eq
  intro i
  rw [← Nat.shiftRight_eq_div_pow, Nat.testBit_shiftRight, Nat.testBit_two_pow_sub_one, Nat.testBit_two_pow_sub_one]
  rw [decide_eq_decide]
  omega

theorem below_any (n : Int) (w : World) (h0 : -9223372036854775808 ≤ n) (h1 : n ≤ 9223372036854775807) :
    Calls Tryd.prog 29 #[.int .i64 n] w fun e w' => e = .returned (.int .u64 (belowN (clampN n))) ∧ w' = w := by
  by_cases h : n ≤ 0
  · have e : ((belowN (clampN n) : Nat) : Int) = 0 := by unfold clampN; rw [if_pos h]; rfl
    rw [e]
    have hc : ¬ 64 < n := by omega
    go_enter Tryd.func29, Tryd.ntmps29
    go_wp2
    all_goals (first | omega | (go_ret; exact ⟨rfl, rfl⟩))
  · by_cases h2 : 64 < n
    · have e : ((belowN (clampN n) : Nat) : Int) = 18446744073709551615 := by unfold clampN; rw [if_neg h, if_pos (by omega)]; decide
      rw [e]
      go_enter Tryd.func29, Tryd.ntmps29
      go_wp2
      all_goals (first | omega | (go_ret; exact ⟨rfl, rfl⟩))
    · rw [← shr_below n (by omega) (by omega)]
      go_enter Tryd.func29, Tryd.ntmps29
      go_wp2
      all_goals (first | (exfalso; simp_all; omega) | (go_ret; exact ⟨rfl, rfl⟩))

theorem and_bit_zero (m : Nat) (i : Int) : (m &&& bitN i ≠ 0) ↔ hasB m i = true := by
  unfold hasB
  by_cases h : 0 ≤ i ∧ i < 64
  · have e : bitN i = 2 ^ i.toNat := by unfold bitN; rw [if_pos h]
    rw [e]
    simp only [h, and_self, decide_true, Bool.true_and]
    cases hb : m.testBit i.toNat
    · simp
      apply Nat.eq_of_testBit_eq
      intro j
      rw [Nat.testBit_and, Nat.testBit_two_pow]
      by_cases hj : i.toNat = j
      · subst hj; simp [hb]
      · simp [hj]
    · simp
      intro hz
      have := congrArg (fun x => x.testBit i.toNat) hz
      simp [Nat.testBit_and, hb] at this
  · have e : bitN i = 0 := by unfold bitN; rw [if_neg h]
    rw [e]
    simp [h]

theorem has_any (m : Nat) (i : Int) (hm : m < 18446744073709551616) (w : World) :
    Calls Tryd.prog 10 #[.int .u64 m, .int .i64 i] w fun e w' => e = .returned (.bool (hasB m i)) ∧ w' = w := by
  have hb := bitN_lt i
  have hand := bits_and_u64_nat m (bitN i) hm hb
  have hz := and_bit_zero m i
  go_enter Tryd.func10, Tryd.ntmps10
  go_wp2_with fail
  refine (bit_any i _).mono ?_
  rintro e w' ⟨rfl, rfl⟩
  go_wp2_with fail
  go_ret
  refine ⟨?_, rfl⟩
  congr 2
  cases hh : hasB m i
  · have : m &&& bitN i = 0 := by
      cases Nat.decEq (m &&& bitN i) 0 with
      | isTrue h => exact h
      | isFalse h => exact absurd (hz.1 h) (by simp [hh])
    simp [this]
  · have h2 := hz.2 hh
    have h3 : ((m &&& bitN i : Nat) : Int) ≠ 0 := by omega
    simp [h2]

theorem with_any (m : Nat) (i : Int) (hm : m < 18446744073709551616) (w : World) :
    Calls Tryd.prog 12 #[.int .u64 m, .int .i64 i] w fun e w' => e = .returned (.int .u64 (m ||| bitN i : Nat)) ∧ w' = w := by
  have hb := bitN_lt i
  have hor := bits_or_u64_nat m (bitN i) hm hb
  go_enter Tryd.func12, Tryd.ntmps12
  go_wp2_with fail
  refine (bit_any i _).mono ?_
  rintro e w' ⟨rfl, rfl⟩
  go_wp2_with fail
  go_ret
  exact ⟨rfl, rfl⟩

theorem without_any (m : Nat) (i : Int) (hm : m < 18446744073709551616) (w : World) :
    Calls Tryd.prog 14 #[.int .u64 m, .int .i64 i] w fun e w' => e = .returned (.int .u64 (m &&& (18446744073709551615 - bitN i) : Nat)) ∧ w' = w := by
  have hb := bitN_lt i
  have hor := bits_andNot_u64_nat m (bitN i) hm hb
  go_enter Tryd.func14, Tryd.ntmps14
  go_wp2_with fail
  refine (bit_any i _).mono ?_
  rintro e w' ⟨rfl, rfl⟩
  go_wp2_with fail
  go_ret
  exact ⟨rfl, rfl⟩

theorem tz64_core (x k idx : Nat) (w : World) (hx0 : ((x : Int) == 0) = false)
    (key : IntKind.u64.wrap (bits BinOp.and IntKind.u64 (x : Int) (IntKind.u64.wrap (-(x : Int))) * 285870213051353865) / 288230376151711744 = (idx : Int))
    (hi : idx < 64) (hk : k < 64) (hcell : w.cell? ⟨0, idx, none⟩ = some (.int .u8 k)) :
    Calls Tryd.prog 40 #[.int .u64 x] w fun e w' => e = .returned (.int .i64 k) ∧ w' = w := by
  go_enter Tryd.func40, Tryd.ntmps40
  go_wp2_with (simp only [key])
  go_ret
  exact ⟨rfl, rfl⟩

theorem tz64_any (x : Nat) (hx : x < 18446744073709551616) (hx0 : x ≠ 0) (w : World) (hT : Tab w) :
    Calls Tryd.prog 40 #[.int .u64 x] w fun e w' => e = .returned (.int .i64 (headI (mem x))) ∧ w' = w := by
  obtain ⟨hlow, hk⟩ := Lib.lowest_bit 64 x hx0 hx
  obtain ⟨hi, htab⟩ := Lib.deBruijn64_at _ hk
  have hcell := hT.2 _ hi
  rw [htab] at hcell
  rw [← ctz_head x hx hx0]
  exact tz64_core x _ _ w (by simp; omega) (tz64_key x _ hx hx0 hlow) hi hk hcell

theorem first_any (v : Int) (m : Nat) (hv : v = m) (hm : m < 18446744073709551616) (w : World) (hT : Tab w) :
    Calls Tryd.prog 17 #[.int .u64 v] w fun e w' => e = .returned (.int .i64 (headI (mem m))) ∧ w' = w := by
  subst hv
  by_cases h : m = 0
  · subst h
    rw [mem_zero]
    go_enter Tryd.func17, Tryd.ntmps17
    go_wp2
    go_ret
    exact ⟨rfl, rfl⟩
  · have hne : ((m : Int) == 0) = false := by simp; omega
    go_enter Tryd.func17, Tryd.ntmps17
    go_wp2_with fail
    refine (tz64_any m hm h _ hT).mono ?_
    rintro e w' ⟨rfl, rfl⟩
    go_wp2_with fail
    go_ret
    exact ⟨rfl, rfl⟩

theorem next_filter (m : Nat) (i : Int) (h : i < 64) : mem (m &&& (18446744073709551615 - belowN (clampN (i + 1)))) = aboveL i (mem m) := by
  rw [mem_and_compl _ _ (below_lt (clampN_le _))]
  unfold aboveL
  apply List.filter_congr
  intro y hy
  rw [mem_mem] at hy
  rw [testBit_below, ← decide_not]
  rw [decide_eq_decide]
  unfold clampN
  split
  · omega
  · split <;> omega

theorem next_any (m : Nat) (i : Int) (hm : m < 18446744073709551616) (w : World) (hT : Tab w) (h0 : -9223372036854775808 ≤ i) (h1 : i ≤ 9223372036854775807) :
    Calls Tryd.prog 21 #[.int .u64 m, .int .i64 i] w fun e w' => e = .returned (.int .i64 (headI (aboveL i (mem m)))) ∧ w' = w := by
  by_cases h : 64 ≤ i
  · have e : aboveL i (mem m) = [] := by
      unfold aboveL
      rw [List.filter_eq_nil_iff]
      intro a ha
      rw [mem_mem] at ha
      simp; omega
    rw [e]
    go_enter Tryd.func21, Tryd.ntmps21
    go_wp2_with fail
    go_ret
    exact ⟨rfl, rfl⟩
  · have hb : belowN (clampN (i + 1)) < 18446744073709551616 := below_lt (clampN_le _)
    have hor := bits_andNot_u64_nat m (belowN (clampN (i + 1))) hm hb
    rw [← next_filter m i (by omega)]
    go_enter Tryd.func21, Tryd.ntmps21
    go_wp2_with fail
    refine (below_any (i + 1) _ (by omega) (by omega)).mono ?_
    rintro e w' ⟨rfl, rfl⟩
    go_wp2_with fail
    refine (first_any _ (m &&& (18446744073709551615 - belowN (clampN (i + 1)))) rfl (and_lt hm) _ hT).mono ?_
    rintro e w' ⟨rfl, rfl⟩
    go_wp2_with fail
    go_ret
    exact ⟨rfl, rfl⟩

end Go.Proofs.YtgoedlgilgnphaaDoor
