/- Plain arithmetic under a division of two words by one: the school's way with digits of 32 bits. -/
import Derived.WalkKit
namespace Go.Proofs.Ytdfccjhmpgoacaa.Big
open Go.RowKit

/-- A guess q of a digit, with the rest r that it leaves of the upper part: it is too great just if ... -/
theorem guess_gt {U v1 v0 Y q r u D : Int} (hY : v1 * 4294967296 + v0 = Y) (hq : q * v1 + r = U) (hD : U * 4294967296 + u = D) : (4294967296 * r + u < q * v0) ↔ D < q * Y := by
  have e : q * Y = q * v1 * 4294967296 + q * v0 := by rw [← hY, Int.mul_add, Int.mul_assoc]
  generalize q * v1 = a at *
  generalize q * v0 = b at *
  omega
/-- The digit that is sought is below a guess that is too great. -/
theorem digit_lt {Y q D : Int} (hY : 0 < Y) (h : D < q * Y) : D / Y < q := Int.ediv_lt_of_lt_mul hY h
theorem digit_le {Y q D : Int} (hY : 0 < Y) (h : q * Y ≤ D) : q ≤ D / Y := (Int.le_ediv_iff_mul_le hY).2 h
/-- Where the rest is past a digit the guess is not too great. -/
theorem guess_past {v0 q r u : Int} (h0 : 0 ≤ v0) (h1 : v0 < 4294967296) (hq : q ≤ 4294967296) (hr : 4294967296 ≤ r) (hu : 0 ≤ u) : q * v0 ≤ 4294967296 * r + u := by
  have h : q * v0 ≤ 4294967296 * v0 := Int.mul_le_mul_of_nonneg_right hq h0
  omega
/-- The first guess is no more than one past the greatest digit. -/
theorem guess_first {U v1 v0 Y : Int} (hY : v1 * 4294967296 + v0 = Y) (h0 : v0 < 4294967296) (hv : 2147483648 ≤ v1) (hU : U < Y) : U / v1 ≤ 4294967297 := by
  have h : U / v1 < 4294967298 := Int.ediv_lt_of_lt_mul (by omega) (by omega)
  omega
theorem guess_ge {U v1 v0 Y u D : Int} (hU : 0 ≤ U) (hY : v1 * 4294967296 + v0 = Y) (h0 : 0 ≤ v0) (hv : 2147483648 ≤ v1) (hu : u < 4294967296) (hD : U * 4294967296 + u = D) : D / Y ≤ U / v1 := by
  have h1 : U < (U / v1 + 1) * v1 := Int.lt_ediv_add_one_mul_self U (by omega)
  have h2 : 0 ≤ U / v1 := Int.ediv_nonneg hU (by omega)
  generalize U / v1 = q at *
  have h3 : D / Y < q + 1 := by
    refine Int.ediv_lt_of_lt_mul (by omega) ?_
    have e : (q + 1) * Y = (q + 1) * v1 * 4294967296 + (q + 1) * v0 := by rw [← hY, Int.mul_add, Int.mul_assoc]
    have h4 : 0 ≤ (q + 1) * v0 := Int.mul_nonneg (by omega) h0
    generalize (q + 1) * v1 = a at *
    generalize (q + 1) * v0 = b at *
    omega
  omega
/-- One step: the digit, and what is left. -/
theorem digit_lt_base {U u Y D : Int} (hY : 0 < Y) (hUY : U < Y) (hu : u < 4294967296) (hD : U * 4294967296 + u = D) : D / Y < 4294967296 :=
  Int.ediv_lt_of_lt_mul hY (by omega)
/-- Two digits, one behind the other, are the quotient. -/
theorem two_digits {U L Y u1 u0 R : Int} (hY : 0 < Y) (hL : u1 * 4294967296 + u0 = L) (hR : U * 4294967296 + u1 - (U * 4294967296 + u1) / Y * Y = R) :
    (U * 4294967296 + u1) / Y * 4294967296 + (R * 4294967296 + u0) / Y = (U * 18446744073709551616 + L) / Y := by
  generalize (U * 4294967296 + u1) / Y = q at *
  have e : U * 18446744073709551616 + L = (R * 4294967296 + u0) + q * 4294967296 * Y := by
    have e2 : q * 4294967296 * Y = q * Y * 4294967296 := by rw [Int.mul_assoc, Int.mul_comm 4294967296 Y, ← Int.mul_assoc]
    rw [e2]
    generalize q * Y = z at *
    omega
  rw [e, Int.add_mul_ediv_right _ _ (by omega)]
  omega
theorem rest_lt {A Y : Int} (hY : 0 < Y) : 0 ≤ A - A / Y * Y ∧ A - A / Y * Y < Y := by
  have h1 := Int.emod_nonneg A (show Y ≠ 0 by omega)
  have h2 := Int.emod_lt_of_pos A hY
  have h3 := Int.emod_add_ediv_mul A Y
  omega
theorem scaled {N y P : Int} (hP : 0 < P) : (N * P) / (y * P) = N / y := Int.mul_ediv_mul_of_pos_left N y hP

theorem step_inv {q v1 r U : Int} (h : q * v1 + r = U) : (q - 1) * v1 + (r + v1) = U := by
  rw [Int.sub_mul]; omega
theorem prod_small {q v0 : Int} (hq0 : 0 ≤ q) (hq : q < 4294967296) (h0 : 0 ≤ v0) (h1 : v0 < 4294967296) : 0 ≤ q * v0 ∧ q * v0 < 18446744073709551616 := by
  have h : q * v0 ≤ 4294967295 * 4294967295 := Int.mul_le_mul (by omega) (by omega) h0 (by omega)
  exact ⟨Int.mul_nonneg hq0 h0, by omega⟩
theorem good_guess {U v1 v0 Y q r u D : Int} (hYp : 0 < Y) (hY : v1 * 4294967296 + v0 = Y) (hq : q * v1 + r = U) (hD : U * 4294967296 + u = D) (h : ¬ 4294967296 * r + u < q * v0) : q ≤ D / Y :=
  digit_le hYp (Int.not_lt.1 fun hc => h ((guess_gt hY hq hD).2 hc))
theorem bad_guess {U v1 v0 Y q r u D : Int} (hYp : 0 < Y) (hY : v1 * 4294967296 + v0 = Y) (hq : q * v1 + r = U) (hD : U * 4294967296 + u = D) (h : 4294967296 * r + u < q * v0) : D / Y < q :=
  digit_lt hYp ((guess_gt hY hq hD).1 h)

/-! The shift: y is shifted up until its highest bit is set. -/
theorem pow_split {n : Nat} (h : n ≤ 64) : (2 : Int) ^ n * 2 ^ (64 - n) = 18446744073709551616 := by
  rw [← Int.pow_add, Nat.add_sub_cancel' h]; rfl
theorem pow_split' {n : Nat} (h1 : 1 ≤ n) (h : n ≤ 64) : (2 : Int) ^ (n - 1) * 2 ^ (64 - n) = 9223372036854775808 := by
  rw [← Int.pow_add, show n - 1 + (64 - n) = 63 by omega]; rfl
theorem pow_pos' (n : Nat) : (0 : Int) < 2 ^ n := Int.pow_pos (by decide)

theorem shift_y {y : Int} {n : Nat} (h1 : 1 ≤ n) (h : n ≤ 64) (hlt : y < 2 ^ n) (hge : 2 ^ (n - 1) ≤ y) :
    9223372036854775808 ≤ y * 2 ^ (64 - n) ∧ y * 2 ^ (64 - n) < 18446744073709551616 := by
  have hp := pow_pos' (64 - n)
  rw [← pow_split h, ← pow_split' h1 h]
  exact ⟨Int.mul_le_mul_of_nonneg_right hge (by omega), Int.mul_lt_mul_of_pos_right hlt hp⟩

/-- The two words of the dividend, shifted: no bit is lost. -/
theorem shift_words {hi lo : Int} {n : Nat} (h : n ≤ 64) :
    (hi * 18446744073709551616 + lo) * 2 ^ (64 - n) = (hi * 2 ^ (64 - n) + lo / 2 ^ n) * 18446744073709551616 + (lo * 2 ^ (64 - n)) % 18446744073709551616 := by
  have e := pow_split h
  have hn := pow_pos' n
  have d := Int.emod_add_ediv_mul lo (2 ^ n)
  have m0 := Int.emod_nonneg lo (show (2 : Int) ^ n ≠ 0 by omega)
  have m1 := Int.emod_lt_of_pos lo hn
  have hP := pow_pos' (64 - n)
  generalize (2 : Int) ^ (64 - n) = P at *
  generalize (2 : Int) ^ n = Q at *
  generalize lo / Q = t at *
  generalize lo % Q = m at *
  have e1 : lo * P = m * P + t * 18446744073709551616 := by rw [← d, ← e, Int.add_mul, Int.mul_assoc]
  have b0 : 0 ≤ m * P := Int.mul_nonneg m0 (by omega)
  have b1 : m * P < 18446744073709551616 := by rw [← e]; exact Int.mul_lt_mul_of_pos_right m1 hP
  have e2 : (lo * P) % 18446744073709551616 = m * P := by rw [e1]; omega
  have e3 : (hi * 18446744073709551616 + lo) * P = hi * P * 18446744073709551616 + lo * P := by
    rw [Int.add_mul, Int.mul_assoc, Int.mul_comm 18446744073709551616 P, ← Int.mul_assoc]
  rw [e3, e2, e1, Int.add_mul]
  omega

theorem or_add {hi lo : Int} {n : Nat} (h0 : 0 ≤ hi) (hl0 : 0 ≤ lo) (hl1 : lo < 18446744073709551616) (h : n ≤ 64) (hs : hi * 2 ^ (64 - n) < 18446744073709551616) :
    bits BinOp.or IntKind.u64 (hi * 2 ^ (64 - n)) (lo / 2 ^ n) = hi * 2 ^ (64 - n) + lo / 2 ^ n := by
  obtain ⟨a, rfl⟩ := Int.eq_ofNat_of_zero_le h0
  obtain ⟨l, rfl⟩ := Int.eq_ofNat_of_zero_le hl0
  have e1 : (a : Int) * 2 ^ (64 - n) = ((2 ^ (64 - n) * a : Nat) : Int) := by rw [Nat.mul_comm]; simp
  have e2 : (l : Int) / 2 ^ n = ((l / 2 ^ n : Nat) : Int) := by simp
  have hb : l / 2 ^ n < 2 ^ (64 - n) := by
    rw [Nat.div_lt_iff_lt_mul (Nat.two_pow_pos n), ← Nat.pow_add, show 64 - n + n = 64 by omega]; omega
  rw [e1] at hs
  rw [e1, e2, bits_or_u64_nat _ _ (by omega) (by have := Nat.div_le_self l (2 ^ n); omega), ← Nat.two_pow_add_eq_or_of_lt hb]
  simp
end Go.Proofs.Ytdfccjhmpgoacaa.Big
