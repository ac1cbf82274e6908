/- Contracts of math/bits.Len64 and LeadingZeros64. -/
import Derived.Test.YtlhiabfhokeihaaFnsB
namespace Go.Proofs.Ytlhiabfhokeihaa
open Go.RowKit

theorem bl32 (x : Int) (h : 4294967296 ≤ x) : bitLen x.toNat = 32 + bitLen (x / 4294967296).toNat := by
  obtain ⟨n, rfl⟩ := Int.eq_ofNat_of_zero_le (show 0 ≤ x by omega)
  have e : ((n : Int) / 4294967296).toNat = n / 2 ^ 32 := by omega
  rw [e, Int.toNat_natCast]; exact bitLen_shift n 32 (by omega)
theorem bl16 (x : Int) (h : 65536 ≤ x) : bitLen x.toNat = 16 + bitLen (x / 65536).toNat := by
  obtain ⟨n, rfl⟩ := Int.eq_ofNat_of_zero_le (show 0 ≤ x by omega)
  have e : ((n : Int) / 65536).toNat = n / 2 ^ 16 := by omega
  rw [e, Int.toNat_natCast]; exact bitLen_shift n 16 (by omega)
theorem bl8 (x : Int) (h : 256 ≤ x) : bitLen x.toNat = 8 + bitLen (x / 256).toNat := by
  obtain ⟨n, rfl⟩ := Int.eq_ofNat_of_zero_le (show 0 ≤ x by omega)
  have e : ((n : Int) / 256).toNat = n / 2 ^ 8 := by omega
  rw [e, Int.toNat_natCast]; exact bitLen_shift n 8 (by omega)
theorem bl_le (x : Int) (h0 : 0 ≤ x) (h : x < 256) : bitLen x.toNat ≤ 8 := bitLen_le8 _ (by omega)
theorem wrap_small {z : Int} (h0 : 0 ≤ z) (h1 : z ≤ 9223372036854775807) : wrap64 z = z := by unfold wrap64; omega

theorem two_wraps (K : Int) (n : Nat) (h0 : 0 ≤ K) (h1 : K ≤ 64) (hn : n ≤ 8) : wrap64 (K + wrap64 (n : Int)) = K + n := by
  rw [wrap_small (z := (n : Int)) (by omega) (by omega), wrap_small (by omega) (by omega)]

set_option maxRecDepth 1000000 in
set_option maxHeartbeats 2000000 in
theorem len64_any (x : Int) (h0 : 0 ≤ x) (h1 : x < 18446744073709551616) (w : World) : Calls Try.prog 58 #[.int .u64 x] w fun e w' => e = .returned (.int .i64 (bitLen x.toNat)) ∧ w' = w := by
  by_cases a : x < 4294967296
  · by_cases b : x < 65536
    · by_cases c : x < 256
      · have hl := bl_le x (by omega) (by omega)
        go_enter Try.func58, Try.ntmps58
        go_wp2
        simp only [len8tab_get]
        go_ret
        exact ⟨ret_int (by rw [wrap_small (z := ((bitLen x.toNat : Nat) : Int)) (by omega) (by omega), wrap_small (by omega) (by omega)]), rfl⟩
      · have e3 := bl8 x (by omega)
        have hl := bl_le (x / 256) (by omega) (by omega)
        rw [e3]
        clear e3
        go_enter Try.func58, Try.ntmps58
        go_wp2
        simp only [len8tab_get]
        go_ret
        exact ⟨ret_int (by rw [two_wraps _ _ (by omega) (by omega) hl]; omega), rfl⟩
    · by_cases c : (x / 65536) < 256
      · have e2 := bl16 x (by omega)
        have hl := bl_le (x / 65536) (by omega) (by omega)
        rw [e2]
        clear e2
        go_enter Try.func58, Try.ntmps58
        go_wp2
        simp only [len8tab_get]
        go_ret
        exact ⟨ret_int (by rw [two_wraps _ _ (by omega) (by omega) hl]; omega), rfl⟩
      · have e2 := bl16 x (by omega)
        have e3 := bl8 (x / 65536) (by omega)
        have hl := bl_le ((x / 65536) / 256) (by omega) (by omega)
        rw [e2, e3]
        clear e2 e3
        go_enter Try.func58, Try.ntmps58
        go_wp2
        simp only [len8tab_get]
        go_ret
        exact ⟨ret_int (by rw [two_wraps _ _ (by omega) (by omega) hl]; omega), rfl⟩
  · by_cases b : (x / 4294967296) < 65536
    · by_cases c : (x / 4294967296) < 256
      · have e1 := bl32 x (by omega)
        have hl := bl_le (x / 4294967296) (by omega) (by omega)
        rw [e1]
        clear e1
        go_enter Try.func58, Try.ntmps58
        go_wp2
        simp only [len8tab_get]
        go_ret
        exact ⟨ret_int (by rw [two_wraps _ _ (by omega) (by omega) hl]; omega), rfl⟩
      · have e1 := bl32 x (by omega)
        have e3 := bl8 (x / 4294967296) (by omega)
        have hl := bl_le ((x / 4294967296) / 256) (by omega) (by omega)
        rw [e1, e3]
        clear e1 e3
        go_enter Try.func58, Try.ntmps58
        go_wp2
        simp only [len8tab_get]
        go_ret
        exact ⟨ret_int (by rw [two_wraps _ _ (by omega) (by omega) hl]; omega), rfl⟩
    · by_cases c : ((x / 4294967296) / 65536) < 256
      · have e1 := bl32 x (by omega)
        have e2 := bl16 (x / 4294967296) (by omega)
        have hl := bl_le ((x / 4294967296) / 65536) (by omega) (by omega)
        rw [e1, e2]
        clear e1 e2
        go_enter Try.func58, Try.ntmps58
        go_wp2
        simp only [len8tab_get]
        go_ret
        exact ⟨ret_int (by rw [two_wraps _ _ (by omega) (by omega) hl]; omega), rfl⟩
      · have e1 := bl32 x (by omega)
        have e2 := bl16 (x / 4294967296) (by omega)
        have e3 := bl8 ((x / 4294967296) / 65536) (by omega)
        have hl := bl_le (((x / 4294967296) / 65536) / 256) (by omega) (by omega)
        rw [e1, e2, e3]
        clear e1 e2 e3
        go_enter Try.func58, Try.ntmps58
        go_wp2
        simp only [len8tab_get]
        go_ret
        exact ⟨ret_int (by rw [two_wraps _ _ (by omega) (by omega) hl]; omega), rfl⟩

/-- How far a number may be shifted up: s with 2^63 ≤ y * 2^s < 2^64. -/
theorem lz_any (y : Int) (h0 : 0 < y) (h1 : y < 18446744073709551616) (w : World) : Calls Try.prog 57 #[.int .u64 y] w fun e w' => e = .returned (.int .i64 (64 - bitLen y.toNat)) ∧ w' = w := by
  have hb := bitLen_spec y.toNat
  have hb2 : bitLen y.toNat ≤ 64 := by
    unfold bitLen
    split
    · omega
    · rename_i h
      have := (Nat.log2_lt h).2 (show y.toNat < 2 ^ 64 by omega)
      omega
  clear hb
  go_enter Try.func57, Try.ntmps57
  go_wp2_with fail
  refine (len64_any y (by omega) h1 _).mono ?_
  rintro e w1 ⟨rfl, hw1⟩
  rw [hw1]
  clear hw1 w1
  go_wp2_with fail
  go_ret
  exact ⟨rfl, rfl⟩

end Go.Proofs.Ytlhiabfhokeihaa
