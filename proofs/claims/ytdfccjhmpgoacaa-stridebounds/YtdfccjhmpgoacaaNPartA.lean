/- The contract of the reference's Parted. -/
import Derived.Test.YtdfccjhmpgoacaaNPart
import Derived.Test.YtdfccjhmpgoacaaNPartN
import Derived.Test.YtdfccjhmpgoacaaNRefF
namespace Go.Proofs.Ytdfccjhmpgoacaa.Big
open Go.RowKit

theorem parted_any (x y : Value) (V U : Int) (w : World) (hx : Wd w x V) (hy : Wd w y U) (bV : absI V < pw 500) (bU : absI U < pw 500) (hU : U ≠ 0) :
    Calls Try.prog 39 #[x, y] w fun e w' => ∃ v1 v2 q r, e = .returned (.tuple #[v1, v2]) ∧ Wd w' v1 q ∧ Wd w' v2 r ∧ DivOf V U q r ∧ Below w.heap.size w w' := by
  obtain ⟨s, ds, rfl, ra, da, ca, va⟩ := id hx
  obtain ⟨t, es, rfl, rb, db, cb, vb⟩ := id hy
  obtain ⟨oa, cpa, rfl, -, -, -, -⟩ := id ra
  obtain ⟨ob, cpb, rfl, -, -, -, -⟩ := id rb
  have la : ds.length ≤ 500 := canon_short da ca (by rw [va]; exact bV)
  have lb : es.length ≤ 500 := canon_short db cb (by rw [vb]; exact bU)
  have hB : 0 < val es := by rw [vb]; unfold absI; split <;> omega
  refine (parted_core (decide (V < 0)) (decide (U < 0)) oa ob cpa cpb ds es w ra rb da db la lb hB cb V U hx hy bV bU).mono ?_
  rintro e w' ⟨v1, v2, rfl, h1, h2, h3⟩
  rw [va, vb] at h1 h2
  exact ⟨v1, v2, _, _, rfl, h1, h2, part_div hU, h3⟩

theorem big5 {a : Int} (ha0 : -9223372036854775808 ≤ a) (ha1 : a ≤ 9223372036854775807) : absI a < pw 500 := by
  have h1 := abs_bd ha0 ha1
  have h2 := pw_le (show 4 ≤ 500 by omega)
  rw [pw4] at h2
  omega
theorem big5_mul {a b : Int} (ha0 : -9223372036854775808 ≤ a) (ha1 : a ≤ 9223372036854775807) (hb0 : -9223372036854775808 ≤ b) (hb1 : b ≤ 9223372036854775807) : absI (a * b) < pw 500 := by
  have h1 := abs_bd ha0 ha1
  have h2 := abs_bd hb0 hb1
  have h3 := pw_le (show 9 ≤ 500 by omega)
  rw [pw9] at h3
  rw [abs_mul]
  have h4 := abs_ge b
  have h5 : absI a * absI b ≤ 18446744073709551616 * absI b := Int.mul_le_mul_of_nonneg_right (by omega) h4
  omega

end Go.Proofs.Ytdfccjhmpgoacaa.Big
