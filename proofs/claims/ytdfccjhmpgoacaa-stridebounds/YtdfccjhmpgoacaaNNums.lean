/- The plain functions on integers that the walks of this seat are stated by. -/
namespace Go.Proofs.Ytdfccjhmpgoacaa.Big

/-- The high word of a number of two words, and the low one. -/
def hiW (V : Int) : Int := V / 18446744073709551616
def loW (V : Int) : Int := V % 18446744073709551616
/-- Does one word hold it, and what is then told. -/
def fitsB (V : Int) : Bool := decide (-9223372036854775808 ≤ V ∧ V ≤ 9223372036854775807)
def toldI (V : Int) : Int := if fitsB V = true then V else 0
/-- How two numbers stand. -/
def cmpI (V U : Int) : Int := if V = U then 0 else if V < U then -1 else 1
/-- With the other sign, where told. -/
def turnI (b : Bool) (V : Int) : Int := if b = true then -V else V
/-- The borrow. -/
def borI (x y : Int) : Int := if x < y then 1 else 0
/-- The size of a number. -/
def absI (a : Int) : Int := if a < 0 then -a else a

theorem hi_bd {V : Int} (h0 : -170141183460469231731687303715884105728 ≤ V) (h1 : V < 170141183460469231731687303715884105728) : -9223372036854775808 ≤ hiW V ∧ hiW V ≤ 9223372036854775807 := by
  unfold hiW; omega
theorem lo_bd (V : Int) : 0 ≤ loW V ∧ loW V ≤ 18446744073709551615 := by
  unfold loW; omega
theorem lo_bd' (V : Int) : 0 ≤ loW V ∧ loW V < 18446744073709551616 := by
  unfold loW; omega
theorem hilo (V : Int) : hiW V * 18446744073709551616 + loW V = V := by
  unfold hiW loW; omega
theorem hilo_eq {V U : Int} (h : hiW V = hiW U) (l : loW V = loW U) : V = U := by
  have a := hilo V; have b := hilo U; omega
theorem bor_bd (x y : Int) : 0 ≤ borI x y ∧ borI x y ≤ 1 := by
  unfold borI; split <;> omega
theorem hi_small {V : Int} (h0 : 0 ≤ V) (h1 : V < 18446744073709551616) : hiW V = 0 := by
  unfold hiW; omega
theorem lo_small {V : Int} (h0 : 0 ≤ V) (h1 : V < 18446744073709551616) : loW V = V := by
  unfold loW; omega
theorem hi_neg {V : Int} (h0 : V < 0) (h1 : -18446744073709551616 ≤ V) : hiW V = -1 := by
  unfold hiW; omega
theorem lo_neg {V : Int} (h0 : V < 0) (h1 : -18446744073709551616 ≤ V) : loW V = V + 18446744073709551616 := by
  unfold loW; omega
theorem sub_lo (V U : Int) : (loW V - loW U) % 18446744073709551616 = loW (V - U) := by
  unfold loW; omega
theorem sub_hi (V U : Int) (h0 : -170141183460469231731687303715884105728 ≤ V - U) (h1 : V - U < 170141183460469231731687303715884105728) :
    ((hiW V % 18446744073709551616 - hiW U % 18446744073709551616 - borI (loW V) (loW U)) % 18446744073709551616 + 9223372036854775808) % 18446744073709551616 - 9223372036854775808 = hiW (V - U) := by
  unfold borI hiW loW; split <;> omega
theorem add_lo (V U : Int) : (loW V + loW U) % 18446744073709551616 = loW (V + U) := by
  unfold loW; omega
theorem add_hi (V U : Int) (h0 : -170141183460469231731687303715884105728 ≤ V + U) (h1 : V + U < 170141183460469231731687303715884105728) :
    ((hiW V % 18446744073709551616 + hiW U % 18446744073709551616 + (loW V + loW U) / 18446744073709551616) % 18446744073709551616 + 9223372036854775808) % 18446744073709551616 - 9223372036854775808 = hiW (V + U) := by
  unfold hiW loW; omega
theorem prod_le {a b A B : Int} (ha : -A ≤ a) (ha' : a ≤ A) (hb : -B ≤ b) (hb' : b ≤ B) : a * b ≤ A * B := by
  have h1 : 0 ≤ (A - a) * (B + b) := Int.mul_nonneg (by omega) (by omega)
  have h2 : 0 ≤ (A + a) * (B - b) := Int.mul_nonneg (by omega) (by omega)
  rw [Int.sub_mul, Int.mul_add, Int.mul_add] at h1
  rw [Int.add_mul, Int.mul_sub, Int.mul_sub] at h2
  omega
theorem prod_ge {a b A B : Int} (ha : -A ≤ a) (ha' : a ≤ A) (hb : -B ≤ b) (hb' : b ≤ B) : -(A * B) ≤ a * b := by
  have h := prod_le (a := -a) (b := b) (A := A) (B := B) (by omega) (by omega) hb hb'
  rw [Int.neg_mul] at h; omega
theorem abs_bd {a : Int} (h0 : -9223372036854775808 ≤ a) (h1 : a ≤ 9223372036854775807) : 0 ≤ absI a ∧ absI a ≤ 9223372036854775808 := by
  unfold absI; split <;> omega
theorem turn_abs (a b : Int) : turnI (decide (a < 0) != decide (b < 0)) (absI a * absI b) = a * b := by
  unfold turnI absI
  by_cases ha : a < 0 <;> by_cases hb : b < 0 <;> simp [ha, hb, Int.neg_mul, Int.mul_neg]
end Go.Proofs.Ytdfccjhmpgoacaa.Big
