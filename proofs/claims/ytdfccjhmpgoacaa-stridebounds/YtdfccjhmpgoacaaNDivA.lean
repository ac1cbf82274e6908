/- Contracts of math/bits.Len64 and LeadingZeros64. -/
import Derived.Test.YtdfccjhmpgoacaaNFnsB
namespace Go.Proofs.Ytdfccjhmpgoacaa.Big
open Go.RowKit

theorem bl32 (x : Int) (h : 4294967296 ≤ x) : bitLen x.toNat = 32 + bitLen (x / 4294967296).toNat := by
  obtain ⟨n, rfl⟩ := Int.eq_ofNat_of_zero_le (show 0 ≤ x by omega)
  have e : ((n : Int) / 4294967296).toNat = n / 2 ^ 32 := by omega
  rw [e, Int.toNat_natCast]; exact bitLen_shift n 32 (by omega)
theorem bl16 (x : Int) (h : 65536 ≤ x) : bitLen x.toNat = 16 + bitLen (x / 65536).toNat := by
  obtain ⟨n, rfl⟩ := Int.eq_ofNat_of_zero_le (show 0 ≤ x by omega)
  have e : ((n : Int) / 65536).toNat = n / 2 ^ 16 := by omega
  rw [e, Int.toNat_natCast]; exact bitLen_shift n 16 (by omega)
theorem bl8 (x : Int) (h : 256 ≤ x) : bitLen x.toNat = 8 + bitLen (x / 256).toNat := by
  obtain ⟨n, rfl⟩ := Int.eq_ofNat_of_zero_le (show 0 ≤ x by omega)
  have e : ((n : Int) / 256).toNat = n / 2 ^ 8 := by omega
  rw [e, Int.toNat_natCast]; exact bitLen_shift n 8 (by omega)
theorem bl_le (x : Int) (h0 : 0 ≤ x) (h : x < 256) : bitLen x.toNat ≤ 8 := bitLen_le8 _ (by omega)
theorem wrap_small {z : Int} (h0 : 0 ≤ z) (h1 : z ≤ 9223372036854775807) : wrap64 z = z := by unfold wrap64; omega

theorem two_wraps (K : Int) (n : Nat) (h0 : 0 ≤ K) (h1 : K ≤ 64) (hn : n ≤ 8) : wrap64 (K + wrap64 (n : Int)) = K + n := by
  rw [wrap_small (z := (n : Int)) (by omega) (by omega), wrap_small (by omega) (by omega)]

end Go.Proofs.Ytdfccjhmpgoacaa.Big
