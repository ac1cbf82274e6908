/- The contract of the reference's bit. -/
import Derived.Test.YtdfccjhmpgoacaaNRefF
namespace Go.Proofs.Ytdfccjhmpgoacaa.Big
open Go.RowKit

def p2 (n : Nat) : Int := 2 ^ n
theorem p2_pos (n : Nat) : 0 < p2 n := Int.pow_pos (by decide)
theorem p2_succ (n : Nat) : p2 (n + 1) = p2 n * 2 := Int.pow_succ 2 n
theorem p2_add (m n : Nat) : p2 (m + n) = p2 m * p2 n := Int.pow_add 2 m n
theorem pw_p2 (n : Nat) : pw n = p2 (16 * n) := by
  show (65536 : Int) ^ n = 2 ^ (16 * n)
  rw [Int.pow_mul]; rfl
/-- The m-th bit of a number. -/
def bitI (N : Int) (m : Nat) : Int := N / p2 m % 2
theorem bit_bd (N : Int) (m : Nat) : 0 ≤ bitI N m ∧ bitI N m ≤ 1 := by unfold bitI; omega
theorem bit_step (N : Int) (m : Nat) : N / p2 m = 2 * (N / p2 (m + 1)) + bitI N m := by
  unfold bitI
  rw [p2_succ, ← Int.ediv_ediv_of_nonneg (Int.le_of_lt (p2_pos m))]
  omega
theorem bit_of {ds : List Int} (hd : Dig ds) (q r : Nat) (hq : q < ds.length) (hr : r < 16) : bitI (val ds) (16 * q + r) = ds.getD q 0 / p2 r % 2 := by
  unfold bitI
  have h1 := val_split ds q (by omega)
  have h2 := val_lt (dig_take q hd)
  have h3 := val_nonneg (dig_take q hd)
  rw [List.length_take, Nat.min_eq_left (by omega)] at h2
  have e1 : val ds / p2 (16 * q) = val (ds.drop q) := by
    rw [← pw_p2, h1, Int.add_mul_ediv_left _ _ (by have := pw_pos q; omega), Int.ediv_eq_zero_of_lt h3 h2]; omega
  rw [p2_add, ← Int.ediv_ediv_of_nonneg (Int.le_of_lt (p2_pos _)), e1, val_drop ds q]
  generalize val (ds.drop (q + 1)) = E
  generalize ds.getD q 0 = x
  obtain ⟨k, hk⟩ : ∃ k, 16 = r + (k + 1) := ⟨15 - r, by omega⟩
  have e2 : (65536 : Int) = p2 r * (p2 k * 2) := by
    rw [← p2_succ, ← p2_add, ← hk]; rfl
  rw [e2, Int.mul_assoc, Int.add_mul_ediv_left _ _ (by have := p2_pos r; omega), Int.mul_comm (p2 k) 2, Int.mul_assoc]
  generalize p2 k * E = z
  omega
theorem land1_u32 (r : Int) (h0 : 0 ≤ r) (h1 : r < 4294967296) : bits .and .u32 r 1 = r % 2 := by go_bits2

set_option maxHeartbeats 1000000 in
theorem rbit_any (s : Value) (ds : List Int) (m : Nat) (w : World) (hr0 : Row w s ds) (hd : Dig ds) (hm : m < 16 * ds.length) (hl : ds.length ≤ 1000) :
    Calls Try.prog 56 #[s, .int .i64 m] w fun e w' => e = .returned (.int .u32 (bitI (val ds) m)) ∧ w' = w := by
  obtain ⟨oa, ca, rfl, -, -, -, -⟩ := id hr0
  obtain ⟨ab, ao, rfl, alt, ac⟩ := hr0.at (i := m / 16) (by omega)
  have hxb := dig_get hd (m / 16)
  have hb := bit_of hd (m / 16) (m % 16) (by omega) (by omega)
  rw [Nat.div_add_mod] at hb
  obtain ⟨x, hx⟩ : ∃ x, Hid (ds.getD (m / 16) 0 = x) := ⟨_, rfl⟩
  rw [hx.out] at ac hxb hb
  have HB : Hid (bitI (val ds) m = x / p2 (m % 16) % 2) := hb
  clear hb
  have hq0 : 0 ≤ x / p2 (m % 16) := Int.ediv_nonneg hxb.1 (Int.le_of_lt (p2_pos _))
  have hq1 : x / p2 (m % 16) ≤ x := Int.ediv_le_self _ hxb.1
  have hl1 := land1_u32 (x / p2 (m % 16)) hq0 (by omega)
  have hno : decide ((ds.length : Int) ≤ (m : Int) / 16) = false := by simp; omega
  unfold p2 at hl1 HB hq0 hq1
  go_enter Try.func56, Try.ntmps56
  go_wp2
  go_ret
  exact ⟨ret_int HB.out.symm, rfl⟩
end Go.Proofs.Ytdfccjhmpgoacaa.Big
