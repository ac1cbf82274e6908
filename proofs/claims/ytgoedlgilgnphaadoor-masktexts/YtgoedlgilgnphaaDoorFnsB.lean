/- Contracts of OnesCount64, and of mask's Len, Last, Rank, end and part. -/
import Derived.Test.YtgoedlgilgnphaaDoorFns
import Derived.Test.YtgoedlgilgnphaaDoorOnes
import Derived.Test.YtgoedlgilgnphaaDoorShelf
namespace Go.Proofs.YtgoedlgilgnphaaDoor
open Go.RowKit

theorem and127 (z : Nat) (h : z < 9223372036854775808) : bits .and .i64 (z : Int) 127 = ((z % 128 : Nat) : Int) := by
  have h1 : (BitVec.ofInt 64 (z : Int)).toNat = z := by
    rw [BitVec.ofInt_natCast, BitVec.toNat_ofNat]; exact Nat.mod_eq_of_lt (by omega)
  have h2 : (BitVec.ofInt 64 (127 : Int)).toNat = 127 := by decide
  show IntKind.i64.wrap ((BitVec.ofInt 64 (z : Int) &&& BitVec.ofInt 64 (127 : Int)).toNat : Int) = _
  rw [BitVec.toNat_and, h1, h2, show 127 = 2 ^ 7 - 1 from rfl, Nat.and_two_pow_sub_one_eq_mod]
  show IntKind.i64.wrap ((z % 128 : Nat) : Int) = _
  simp only [IntKind.wrap, IntKind.signed, IntKind.bits]
  simp
  omega

theorem ones_core (x p1 q1 y1 p2 q2 y2 s y3 z1 z2 z3 z4 r : Int) (w : World)
    (a1 : bits .and .u64 (x / 2) 6148914691236517205 = p1) (a2 : bits .and .u64 x 6148914691236517205 = q1) (b1 : IntKind.u64.wrap (p1 + q1) = y1)
    (a3 : bits .and .u64 (y1 / 4) 3689348814741910323 = p2) (a4 : bits .and .u64 y1 3689348814741910323 = q2) (b2 : IntKind.u64.wrap (p2 + q2) = y2)
    (b3 : IntKind.u64.wrap (y2 / 16 + y2) = s) (a5 : bits .and .u64 s 1085102592571150095 = y3) (b4 : IntKind.u64.wrap (y3 + y3 / 256) = z1)
    (b5 : IntKind.u64.wrap (z1 + z1 / 65536) = z2) (b6 : IntKind.u64.wrap (z2 + z2 / 4294967296) = z3) (w1 : wrap64 z3 = z4) (a6 : bits .and .i64 z4 127 = r) :
    Calls Tryd.prog 39 #[.int .u64 x] w fun e w' => e = .returned (.int .i64 r) ∧ w' = w := by
  go_enter Tryd.func39, Tryd.ntmps39
  go_wp2_with fail
  go_ret
  exact ⟨rfl, rfl⟩

theorem ones_any (x : Nat) (w : World) (hx : x < 18446744073709551616) :
    Calls Tryd.prog 39 #[.int .u64 x] w fun e w' => e = .returned (.int .i64 ((mem x).length : Nat)) ∧ w' = w := by
  obtain ⟨y1, h1⟩ : ∃ y, y = ((x / 2) &&& 6148914691236517205) + (x &&& 6148914691236517205) := ⟨_, rfl⟩
  obtain ⟨y2, h2⟩ : ∃ y, y = ((y1 / 4) &&& 3689348814741910323) + (y1 &&& 3689348814741910323) := ⟨_, rfl⟩
  obtain ⟨y3, h3⟩ : ∃ y, y = (y2 / 16 + y2) &&& 1085102592571150095 := ⟨_, rfl⟩
  obtain ⟨z1, e1⟩ : ∃ z, z = y3 + y3 / 256 := ⟨_, rfl⟩
  obtain ⟨z2, e2⟩ : ∃ z, z = z1 + z1 / 65536 := ⟨_, rfl⟩
  obtain ⟨z3, e3⟩ : ∃ z, z = z2 + z2 / 4294967296 := ⟨_, rfl⟩
  obtain ⟨l1, l2, l3, l4, l5⟩ := ones_all x y1 y2 y3 z1 z2 z3 h1 h2 h3 e1 e2 e3
  have l6 : y3 < 18446744073709551616 := by rw [h3]; exact and_lt l2
  have a1 : bits .and .u64 ((x : Int) / 2) 6148914691236517205 = ((x / 2 &&& 6148914691236517205 : Nat) : Int) := bits_and_u64_nat (x / 2) 6148914691236517205 (by omega) (by omega)
  have a2 : bits .and .u64 (x : Int) 6148914691236517205 = ((x &&& 6148914691236517205 : Nat) : Int) := bits_and_u64_nat x 6148914691236517205 (by omega) (by omega)
  have b1 : IntKind.u64.wrap (((x / 2 &&& 6148914691236517205 : Nat) : Int) + ((x &&& 6148914691236517205 : Nat) : Int)) = (y1 : Int) := by rw [IntKind.wrap_u64]; omega
  have a3 : bits .and .u64 ((y1 : Int) / 4) 3689348814741910323 = ((y1 / 4 &&& 3689348814741910323 : Nat) : Int) := bits_and_u64_nat (y1 / 4) 3689348814741910323 (by omega) (by omega)
  have a4 : bits .and .u64 (y1 : Int) 3689348814741910323 = ((y1 &&& 3689348814741910323 : Nat) : Int) := bits_and_u64_nat y1 3689348814741910323 (by omega) (by omega)
  have b2 : IntKind.u64.wrap (((y1 / 4 &&& 3689348814741910323 : Nat) : Int) + ((y1 &&& 3689348814741910323 : Nat) : Int)) = (y2 : Int) := by rw [IntKind.wrap_u64]; omega
  have b3 : IntKind.u64.wrap ((y2 : Int) / 16 + (y2 : Int)) = (y2 : Int) / 16 + (y2 : Int) := by rw [IntKind.wrap_u64]; omega
  have a5 : bits .and .u64 ((y2 : Int) / 16 + (y2 : Int)) 1085102592571150095 = (y3 : Int) := by
    have h := bits_and_u64_nat (y2 / 16 + y2) 1085102592571150095 l2 (by omega)
    have e : ((y2 / 16 + y2 : Nat) : Int) = (y2 : Int) / 16 + (y2 : Int) := by omega
    rw [e] at h
    rw [h3]; exact h
  have b4 : IntKind.u64.wrap ((y3 : Int) + (y3 : Int) / 256) = (z1 : Int) := by rw [IntKind.wrap_u64]; omega
  have b5 : IntKind.u64.wrap ((z1 : Int) + (z1 : Int) / 65536) = (z2 : Int) := by rw [IntKind.wrap_u64]; omega
  have b6 : IntKind.u64.wrap ((z2 : Int) + (z2 : Int) / 4294967296) = (z3 : Int) := by rw [IntKind.wrap_u64]; omega
  have w1 : wrap64 (z3 : Int) = z3 := by unfold wrap64; omega
  have a6 := and127 z3 l4
  rw [l5] at a6
  exact ones_core _ _ _ _ _ _ _ _ _ _ _ _ _ _ w a1 a2 b1 a3 a4 b2 b3 a5 b4 b5 b6 w1 a6

theorem len_any (v : Int) (m : Nat) (hv : v = m) (hm : m < 18446744073709551616) (w : World) :
    Calls Tryd.prog 16 #[.int .u64 v] w fun e w' => e = .returned (.int .i64 ((mem m).length : Nat)) ∧ w' = w := by
  subst hv
  go_enter Tryd.func16, Tryd.ntmps16
  go_wp2_with fail
  refine (ones_any m _ hm).mono ?_
  rintro e w' ⟨rfl, rfl⟩
  go_wp2_with fail
  go_ret
  exact ⟨rfl, rfl⟩

theorem lastI_bounds : ∀ (l : List Nat), (∀ x ∈ l, x < 64) → -1 ≤ lastI l ∧ lastI l < 64
  | [], _ => by simp [lastI]
  | [x], h => by have := h x (by simp); simp only [lastI]; omega
  | _ :: y :: l, h => lastI_bounds (y :: l) (fun x hx => h x (by simp at hx ⊢; exact .inr hx))

theorem headI_bounds : ∀ (l : List Nat), (∀ x ∈ l, x < 64) → -1 ≤ headI l ∧ headI l < 64
  | [], _ => by simp [headI]
  | x :: _, h => by have := h x (by simp); simp only [headI]; omega

theorem mem_lt64 {m : Nat} : ∀ x ∈ mem m, x < 64 := fun _ hx => (mem_mem.1 hx).1

theorem last_any (m : Nat) (hm : m < 18446744073709551616) (w : World) :
    Calls Tryd.prog 19 #[.int .u64 m] w fun e w' => e = .returned (.int .i64 (lastI (mem m))) ∧ w' = w := by
  have hb := bitLen_last m hm
  have hl := lastI_bounds (mem m) mem_lt64
  have hz : ((Lib.bitLen m : Nat) : Int) - 1 = lastI (mem m) := by omega
  go_enter Tryd.func19, Tryd.ntmps19
  go_wp2_with fail
  refine (Tryd.bits_Len64 m _ (by omega) (by omega)).mono ?_
  rintro e w' ⟨rfl, rfl⟩
  rw [Int.toNat_natCast, hb]
  go_wp2_with fail
  go_ret
  exact ⟨rfl, rfl⟩

theorem belowL_mem (m : Nat) (i : Int) : mem (m &&& belowN (clampN i)) = belowL i (mem m) := by
  rw [mem_and_below]
  unfold belowL
  apply List.filter_congr
  intro y hy
  rw [mem_mem] at hy
  rw [decide_eq_decide]
  unfold clampN
  split
  · omega
  · split <;> omega

theorem rank_any (m : Nat) (i : Int) (hm : m < 18446744073709551616) (w : World) (h0 : -9223372036854775808 ≤ i) (h1 : i ≤ 9223372036854775807) :
    Calls Tryd.prog 23 #[.int .u64 m, .int .i64 i] w fun e w' => e = .returned (.int .i64 ((belowL i (mem m)).length : Nat)) ∧ w' = w := by
  have hb : belowN (clampN i) < 18446744073709551616 := below_lt (clampN_le _)
  have hor := bits_and_u64_nat m (belowN (clampN i)) hm hb
  rw [← belowL_mem]
  go_enter Tryd.func23, Tryd.ntmps23
  go_wp2_with fail
  refine (below_any i _ h0 h1).mono ?_
  rintro e w' ⟨rfl, rfl⟩
  go_wp2_with fail
  refine (len_any _ (m &&& belowN (clampN i)) rfl (and_lt hm) _).mono ?_
  rintro e w' ⟨rfl, rfl⟩
  go_wp2_with fail
  go_ret
  exact ⟨rfl, rfl⟩

/-- The bytes of FROM-TO, or of one alone. -/
def partL (a b : Nat) : List UInt8 := if a = b then Lib.decDigits a else Lib.decDigits a ++ 45 :: Lib.decDigits b

theorem ba_append (x y : List UInt8) : (⟨x.toArray⟩ : ByteArray) ++ ⟨y.toArray⟩ = ⟨(x ++ y).toArray⟩ := by
  apply ByteArray.ext
  simp [ByteArray.data_append]

theorem digits_le (a : Nat) (h : a < 100) : (Lib.decDigits a).length ≤ 2 := by
  by_cases h1 : a < 10
  · rw [Lib.decDigits_one h1]; simp
  · rw [Lib.decDigits_two h1 h]; simp

theorem part_any (a b : Nat) (ha : a < 100) (hb : b < 100) (w : World) : Calls Tryd.prog 46 #[.int .i64 a, .int .i64 b] w fun e w' => e = .returned (.string ⟨(partL a b).toArray⟩) ∧ w' = w := by
  by_cases h : a = b
  · subst h
    have e : partL a a = Lib.decDigits a := by simp [partL]
    rw [e]
    go_enter Tryd.func46, Tryd.ntmps46
    go_wp2_with fail
    refine (Tryd.strconv_Itoa_small a ha _).mono ?_
    rintro e w' ⟨rfl, rfl⟩
    go_wp2_with fail
    go_ret
    exact ⟨rfl, rfl⟩
  · have hne : ((a : Int) == (b : Int)) = false := by simp; omega
    have h1 := digits_le a ha
    have h2 := digits_le b hb
    have e : partL a b = Lib.decDigits a ++ 45 :: Lib.decDigits b := by simp [partL, h]
    rw [e]
    clear e
    go_enter Tryd.func46, Tryd.ntmps46
    go_wp2_with fail
    refine (Tryd.strconv_Itoa_small a ha _).mono ?_
    rintro e w' ⟨rfl, rfl⟩
    go_wp2_with fail
    refine (Tryd.strconv_Itoa_small b hb _).mono ?_
    rintro e w' ⟨rfl, rfl⟩
    go_wp2_with fail
    go_ret
    refine ⟨?_, rfl⟩
    show Ending.returned (Value.string ((⟨(Lib.decDigits a).toArray⟩ : ByteArray) ++ ⟨[45].toArray⟩ ++ ⟨(Lib.decDigits b).toArray⟩)) = _
    rw [ba_append, ba_append]
    simp

theorem compl_u64 (m : Nat) (hm : m < 18446744073709551616) : bits .xor .u64 IntKind.u64.max (m : Int) = ((18446744073709551615 - m : Nat) : Int) := by
  have h1 : (BitVec.ofInt 64 (m : Int)).toNat = m := by
    rw [BitVec.ofInt_natCast, BitVec.toNat_ofNat]; exact Nat.mod_eq_of_lt (by omega)
  have h2 : BitVec.ofInt 64 IntKind.u64.max = BitVec.allOnes 64 := by decide
  show IntKind.u64.wrap ((BitVec.ofInt 64 IntKind.u64.max ^^^ BitVec.ofInt 64 (m : Int)).toNat : Int) = _
  rw [h2, BitVec.allOnes_xor, BitVec.toNat_not, h1, IntKind.wrap_u64]
  have h3 : (2 : Nat) ^ 64 - 1 - m = 18446744073709551615 - m := by have : (2 : Nat) ^ 64 = 18446744073709551616 := by decide
                                                                    omega
  rw [h3]
  omega

/-- The last of those that stand side by side from i on. -/
def endN (m i : Nat) : Nat := match aboveL (i : Int) (mem (18446744073709551615 - m)) with
  | [] => 63
  | g :: _ => g - 1

theorem end_any (m i : Nat) (hm : m < 18446744073709551616) (hi : i < 64) (w : World) (hT : Tab w) :
    Calls Tryd.prog 54 #[.int .u64 m, .int .i64 i] w fun e w' => e = .returned (.int .i64 (endN m i : Nat)) ∧ w' = w := by
  have hc := compl_u64 m hm
  cases hl : aboveL (i : Int) (mem (18446744073709551615 - m)) with
  | nil =>
    have e0 : ((endN m i : Nat) : Int) = 63 := by unfold endN; rw [hl]; rfl
    rw [e0]
    go_enter Tryd.func54, Tryd.ntmps54
    go_wp2_with fail
    refine (next_any (18446744073709551615 - m) i (by omega) _ hT (by omega) (by omega)).mono ?_
    rintro e w' ⟨rfl, rfl⟩
    rw [hl]
    simp only [headI]
    go_wp2_with fail
    go_ret
    exact ⟨rfl, rfl⟩
  | cons g l =>
    have hg : g ∈ aboveL (i : Int) (mem (18446744073709551615 - m)) := by rw [hl]; simp
    unfold aboveL at hg
    rw [List.mem_filter] at hg
    have hg1 := mem_lt64 g hg.1
    have hg2 : (i : Int) < g := by simpa using hg.2
    have e1 : ((endN m i : Nat) : Int) = (g : Int) - 1 := by
      unfold endN
      rw [hl]
      show ((g - 1 : Nat) : Int) = _
      omega
    rw [e1]
    clear hg e1
    go_enter Tryd.func54, Tryd.ntmps54
    go_wp2_with fail
    refine (next_any (18446744073709551615 - m) i (by omega) _ hT (by omega) (by omega)).mono ?_
    rintro e w' ⟨rfl, rfl⟩
    rw [hl]
    simp only [headI]
    go_wp2_with fail
    go_ret
    exact ⟨rfl, rfl⟩

end Go.Proofs.YtgoedlgilgnphaaDoor
