/- The contract of math/bits.Div64. -/
import Derived.Test.YtdfccjhmpgoacaaNDivA
import Derived.Test.YtdfccjhmpgoacaaNDivM
import Derived.Deep.CutBlock
import Derived.Deep.CutRange
namespace Go.Proofs.Ytdfccjhmpgoacaa.Big
open Go.RowKit

theorem len_bd {y : Int} (h0 : 0 < y) (h1 : y < 9223372036854775808) : 1 ≤ bitLen y.toNat ∧ bitLen y.toNat ≤ 63 ∧ y < 2 ^ bitLen y.toNat ∧ (2 : Int) ^ (bitLen y.toNat - 1) ≤ y := by
  obtain ⟨n, rfl⟩ := Int.eq_ofNat_of_zero_le (show 0 ≤ y by omega)
  rw [Int.toNat_natCast]
  obtain ⟨a, b⟩ := bitLen_spec n
  have b' := b (by omega)
  have h63 : bitLen n ≤ 63 := by
    unfold bitLen
    split
    · omega
    · rename_i h
      have := (Nat.log2_lt h).2 (show n < 2 ^ 63 by omega)
      omega
  have h1 : 1 ≤ bitLen n := by
    unfold bitLen
    split
    · omega
    · omega
  refine ⟨h1, h63, ?_, ?_⟩
  · exact_mod_cast a
  · exact_mod_cast b'

end Go.Proofs.Ytdfccjhmpgoacaa.Big
