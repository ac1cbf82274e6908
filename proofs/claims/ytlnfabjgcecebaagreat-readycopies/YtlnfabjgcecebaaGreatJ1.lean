/- The plain functions on integers that the walks of this seat are stated by. -/
/- Contracts of the functions of num that reckon in two words: size, bits.Mul64, turner and its closure, widen, minus, plus, times, whole, compare, below. -/
/- Contracts of num's own functions: Add, Sub, Mul, Div, Cross, Near, Clamp, Gcd. -/
/- Contracts of num's own functions: Div, Near, Clamp, Gcd. -/
/- Contracts of math/bits.Len64 and LeadingZeros64. -/
/- Plain arithmetic under a division of two words by one: the school's way with digits of 32 bits. -/
/- The contract of math/bits.Div64. -/
/- Contracts of over and of MulDiv; the walk of lives: the document's examples are as it says. -/
/- MulDiv where the product is below 0. -/
import Derived.Test.YtlnfabjgcecebaaGreatRows
import Derived.WalkKit
import Derived.WalkSpells
import Derived.BigQuiet
import Derived.Deep.RegionWith
import Derived.Below
import Derived.Shelf.Spec.BitsCarry
import Derived.Deep.CutBlock
import Derived.Deep.CutRange
namespace Go.Proofs.YtlnfabjgcecebaaGreat.Big

/-- The high word of a number of two words, and the low one. -/
def hiW (V : Int) : Int := V / 18446744073709551616
def loW (V : Int) : Int := V % 18446744073709551616
/-- Does one word hold it, and what is then told. -/
def fitsB (V : Int) : Bool := decide (-9223372036854775808 ≤ V ∧ V ≤ 9223372036854775807)
def toldI (V : Int) : Int := if fitsB V = true then V else 0
/-- How two numbers stand. -/
def cmpI (V U : Int) : Int := if V = U then 0 else if V < U then -1 else 1
/-- With the other sign, where told. -/
def turnI (b : Bool) (V : Int) : Int := if b = true then -V else V
/-- The borrow. -/
def borI (x y : Int) : Int := if x < y then 1 else 0
/-- The size of a number. -/
def absI (a : Int) : Int := if a < 0 then -a else a

theorem hi_bd {V : Int} (h0 : -170141183460469231731687303715884105728 ≤ V) (h1 : V < 170141183460469231731687303715884105728) : -9223372036854775808 ≤ hiW V ∧ hiW V ≤ 9223372036854775807 := by
  unfold hiW; omega
theorem lo_bd (V : Int) : 0 ≤ loW V ∧ loW V ≤ 18446744073709551615 := by
  unfold loW; omega
theorem lo_bd' (V : Int) : 0 ≤ loW V ∧ loW V < 18446744073709551616 := by
  unfold loW; omega
theorem hilo (V : Int) : hiW V * 18446744073709551616 + loW V = V := by
  unfold hiW loW; omega
theorem hilo_eq {V U : Int} (h : hiW V = hiW U) (l : loW V = loW U) : V = U := by
  have a := hilo V; have b := hilo U; omega
theorem bor_bd (x y : Int) : 0 ≤ borI x y ∧ borI x y ≤ 1 := by
  unfold borI; split <;> omega
theorem hi_small {V : Int} (h0 : 0 ≤ V) (h1 : V < 18446744073709551616) : hiW V = 0 := by
  unfold hiW; omega
theorem lo_small {V : Int} (h0 : 0 ≤ V) (h1 : V < 18446744073709551616) : loW V = V := by
  unfold loW; omega
theorem hi_neg {V : Int} (h0 : V < 0) (h1 : -18446744073709551616 ≤ V) : hiW V = -1 := by
  unfold hiW; omega
theorem lo_neg {V : Int} (h0 : V < 0) (h1 : -18446744073709551616 ≤ V) : loW V = V + 18446744073709551616 := by
  unfold loW; omega
theorem sub_lo (V U : Int) : (loW V - loW U) % 18446744073709551616 = loW (V - U) := by
  unfold loW; omega
theorem sub_hi (V U : Int) (h0 : -170141183460469231731687303715884105728 ≤ V - U) (h1 : V - U < 170141183460469231731687303715884105728) :
    ((hiW V % 18446744073709551616 - hiW U % 18446744073709551616 - borI (loW V) (loW U)) % 18446744073709551616 + 9223372036854775808) % 18446744073709551616 - 9223372036854775808 = hiW (V - U) := by
  unfold borI hiW loW; split <;> omega
theorem add_lo (V U : Int) : (loW V + loW U) % 18446744073709551616 = loW (V + U) := by
  unfold loW; omega
theorem add_hi (V U : Int) (h0 : -170141183460469231731687303715884105728 ≤ V + U) (h1 : V + U < 170141183460469231731687303715884105728) :
    ((hiW V % 18446744073709551616 + hiW U % 18446744073709551616 + (loW V + loW U) / 18446744073709551616) % 18446744073709551616 + 9223372036854775808) % 18446744073709551616 - 9223372036854775808 = hiW (V + U) := by
  unfold hiW loW; omega
theorem prod_le {a b A B : Int} (ha : -A ≤ a) (ha' : a ≤ A) (hb : -B ≤ b) (hb' : b ≤ B) : a * b ≤ A * B := by
  have h1 : 0 ≤ (A - a) * (B + b) := Int.mul_nonneg (by omega) (by omega)
  have h2 : 0 ≤ (A + a) * (B - b) := Int.mul_nonneg (by omega) (by omega)
  rw [Int.sub_mul, Int.mul_add, Int.mul_add] at h1
  rw [Int.add_mul, Int.mul_sub, Int.mul_sub] at h2
  omega
theorem prod_ge {a b A B : Int} (ha : -A ≤ a) (ha' : a ≤ A) (hb : -B ≤ b) (hb' : b ≤ B) : -(A * B) ≤ a * b := by
  have h := prod_le (a := -a) (b := b) (A := A) (B := B) (by omega) (by omega) hb hb'
  rw [Int.neg_mul] at h; omega
theorem abs_bd {a : Int} (h0 : -9223372036854775808 ≤ a) (h1 : a ≤ 9223372036854775807) : 0 ≤ absI a ∧ absI a ≤ 9223372036854775808 := by
  unfold absI; split <;> omega
theorem turn_abs (a b : Int) : turnI (decide (a < 0) != decide (b < 0)) (absI a * absI b) = a * b := by
  unfold turnI absI
  by_cases ha : a < 0 <;> by_cases hb : b < 0 <;> simp [ha, hb, Int.neg_mul, Int.mul_neg]
end Go.Proofs.YtlnfabjgcecebaaGreat.Big
namespace Go.Proofs.YtlnfabjgcecebaaGreat.Big
open Go.RowKit

/-- Behind a call that makes memory alone every cell that was there reads as it did, and may be written as it might. -/
theorem bcell {W V : World} (h : Below W.heap.size W V) :
    (∀ n o, n < W.heap.size → V.cell? ⟨n, o, none⟩ = W.cell? ⟨n, o, none⟩) ∧ (∀ n o, n < W.heap.size → V.frozen? ⟨n, o, none⟩ = W.frozen? ⟨n, o, none⟩) := by
  constructor
  · intro n o hn
    exact h.cell (p := ⟨n, o, none⟩) hn
  · intro n o hn
    exact h.frozen (p := ⟨n, o, none⟩) hn

theorem ret_pair {k l : IntKind} {a b c d : Int} (h : a = b) (h' : c = d) : Ending.returned (.tuple #[.int k a, .int l c]) = .returned (.tuple #[.int k b, .int l d]) := by rw [h, h']

theorem lo_wrap (a : Int) : loW a = IntKind.u64.wrap a := by rw [IntKind.wrap_u64]; rfl

theorem wbd (x : Int) : 0 ≤ IntKind.u64.wrap x ∧ IntKind.u64.wrap x < 18446744073709551616 := by rw [IntKind.wrap_u64]; omega

theorem cmp_eq {V U : Int} (h : hiW V = hiW U) (l : loW V = loW U) : cmpI V U = 0 := by
  unfold cmpI; rw [if_pos (hilo_eq h l)]
theorem cmp_lt1 {V U : Int} (h : hiW V = hiW U) (l : loW V < loW U) : cmpI V U = -1 := by
  have a := hilo V; have b := hilo U
  unfold cmpI; rw [if_neg (by omega), if_pos (by omega)]
theorem cmp_lt2 {V U : Int} (h : hiW V < hiW U) : cmpI V U = -1 := by
  have a := hilo V; have b := hilo U; have c := lo_bd V; have d := lo_bd U
  unfold cmpI; rw [if_neg (by omega), if_pos (by omega)]
theorem cmp_gt1 {V U : Int} (h : hiW V = hiW U) (l : ¬ loW V = loW U) (l' : ¬ loW V < loW U) : cmpI V U = 1 := by
  have a := hilo V; have b := hilo U
  unfold cmpI; rw [if_neg (by omega), if_neg (by omega)]
theorem cmp_gt2 {V U : Int} (h : ¬ hiW V = hiW U) (h' : ¬ hiW V < hiW U) : cmpI V U = 1 := by
  have a := hilo V; have b := hilo U; have c := lo_bd V; have d := lo_bd U
  unfold cmpI; rw [if_neg (by omega), if_neg (by omega)]

theorem wrap_lo {V : Int} (h : fitsB V = true) : wrap64 (loW V) = V := by
  unfold fitsB at h; simp at h; unfold wrap64 loW; omega
theorem wrap_lo_ne {V : Int} (h : fitsB V = false) : ¬ hiW V = hiW (wrap64 (loW V)) := by
  unfold fitsB at h; simp at h; unfold wrap64 loW hiW; omega
theorem wrap64_bd (x : Int) : -9223372036854775808 ≤ wrap64 x ∧ wrap64 x ≤ 9223372036854775807 := by
  unfold wrap64; omega

end Go.Proofs.YtlnfabjgcecebaaGreat.Big
namespace Go.Proofs.YtlnfabjgcecebaaGreat.Big
open Go.RowKit

theorem add_any (a b : Int) (w : World) (ha0 : -9223372036854775808 ≤ a) (ha1 : a ≤ 9223372036854775807) (hb0 : -9223372036854775808 ≤ b) (hb1 : b ≤ 9223372036854775807) :
    Calls Tryz.prog 92 #[.int .i64 a, .int .i64 b] w fun e w' => e = .returned (.tuple #[.int .i64 (toldI (a + b)), .bool (fitsB (a + b))]) ∧ w' = w := by
  cases hf : fitsB (a + b)
  · rw [show toldI (a + b) = 0 by simp [toldI, hf]]
    have hf' : a + b < -9223372036854775808 ∨ 9223372036854775807 < a + b := by unfold fitsB at hf; simp at hf; omega
    clear hf
    rcases hf' with h | h
    · have h1 : b < 0 := by omega
      have h2 : a < -9223372036854775808 - b := by omega
      go_enter Tryz.func92, Tryz.ntmps92
      go_wp2
      go_ret2
      exact ⟨rfl, rfl⟩
    · have h1 : 0 < b := by omega
      have h2 : 9223372036854775807 - b < a := by omega
      go_enter Tryz.func92, Tryz.ntmps92
      go_wp2
      go_ret2
      exact ⟨rfl, rfl⟩
  · rw [show toldI (a + b) = a + b by simp [toldI, hf]]
    have hf0 : -9223372036854775808 ≤ a + b := by unfold fitsB at hf; simp at hf; omega
    have hf1 : a + b ≤ 9223372036854775807 := by unfold fitsB at hf; simp at hf; omega
    clear hf
    by_cases h : 0 < b
    · have h2 : ¬ 9223372036854775807 - b < a := by omega
      have h3 : ¬ b < 0 := by omega
      go_enter Tryz.func92, Tryz.ntmps92
      go_wp2
      go_ret2
      exact ⟨rfl, rfl⟩
    · by_cases h3 : b < 0
      · have h4 : ¬ a < -9223372036854775808 - b := by omega
        go_enter Tryz.func92, Tryz.ntmps92
        go_wp2
        go_ret2
        exact ⟨rfl, rfl⟩
      · go_enter Tryz.func92, Tryz.ntmps92
        go_wp2
        go_ret2
        exact ⟨rfl, rfl⟩

theorem sub_any (a b : Int) (w : World) (ha0 : -9223372036854775808 ≤ a) (ha1 : a ≤ 9223372036854775807) (hb0 : -9223372036854775808 ≤ b) (hb1 : b ≤ 9223372036854775807) :
    Calls Tryz.prog 57 #[.int .i64 a, .int .i64 b] w fun e w' => e = .returned (.tuple #[.int .i64 (toldI (a - b)), .bool (fitsB (a - b))]) ∧ w' = w := by
  cases hf : fitsB (a - b)
  · rw [show toldI (a - b) = 0 by simp [toldI, hf]]
    have hf' : a - b < -9223372036854775808 ∨ 9223372036854775807 < a - b := by unfold fitsB at hf; simp at hf; omega
    clear hf
    rcases hf' with h | h
    · have h1 : 0 < b := by omega
      have h2 : a < -9223372036854775808 + b := by omega
      go_enter Tryz.func57, Tryz.ntmps57
      go_wp2
      go_ret2
      exact ⟨rfl, rfl⟩
    · have h1 : b < 0 := by omega
      have h2 : 9223372036854775807 + b < a := by omega
      go_enter Tryz.func57, Tryz.ntmps57
      go_wp2
      go_ret2
      exact ⟨rfl, rfl⟩
  · rw [show toldI (a - b) = a - b by simp [toldI, hf]]
    have hf0 : -9223372036854775808 ≤ a - b := by unfold fitsB at hf; simp at hf; omega
    have hf1 : a - b ≤ 9223372036854775807 := by unfold fitsB at hf; simp at hf; omega
    clear hf
    by_cases h : 0 < b
    · have h2 : ¬ a < -9223372036854775808 + b := by omega
      have h3 : ¬ b < 0 := by omega
      go_enter Tryz.func57, Tryz.ntmps57
      go_wp2
      go_ret2
      exact ⟨rfl, rfl⟩
    · by_cases h3 : b < 0
      · have h4 : ¬ 9223372036854775807 + b < a := by omega
        go_enter Tryz.func57, Tryz.ntmps57
        go_wp2
        go_ret2
        exact ⟨rfl, rfl⟩
      · go_enter Tryz.func57, Tryz.ntmps57
        go_wp2
        go_ret2
        exact ⟨rfl, rfl⟩

end Go.Proofs.YtlnfabjgcecebaaGreat.Big
namespace Go.Proofs.YtlnfabjgcecebaaGreat.Big
open Go.RowKit

/-- What a quotient and a rest are: the rest has the sign of what parted it, or is 0, and is less. -/
def DivOf (a b q r : Int) : Prop := q * b + r = a ∧ (0 < b ∧ 0 ≤ r ∧ r < b ∨ b < 0 ∧ r ≤ 0 ∧ b < r)

theorem natAbs_tdiv_le (a b : Int) : (a.tdiv b).natAbs ≤ a.natAbs := by
  rw [Int.natAbs_tdiv]; exact Nat.div_le_self _ _
theorem natAbs_tmod_lt (a : Int) {b : Int} (hb : ¬ b = 0) : (a.tmod b).natAbs < b.natAbs := by
  rw [Int.natAbs_tmod]; exact Nat.mod_lt _ (by omega)
theorem tdiv_bd {a b : Int} (ha0 : -9223372036854775808 ≤ a) (ha1 : a ≤ 9223372036854775807) (hb : ¬ b = 0) (hn : ¬ (a = -9223372036854775808 ∧ b = -1)) : -9223372036854775808 ≤ a.tdiv b ∧ a.tdiv b ≤ 9223372036854775807 := by
  have h := natAbs_tdiv_le a b
  refine ⟨by omega, ?_⟩
  by_cases ha : a = -9223372036854775808
  · subst ha
    have hb1 : ¬ b = -1 := by omega
    have h2 : ((-9223372036854775808 : Int).tdiv b).natAbs = 9223372036854775808 / b.natAbs := by rw [Int.natAbs_tdiv]; rfl
    by_cases hb2 : b = 1
    · subst hb2; decide
    · have h3 : 9223372036854775808 / b.natAbs ≤ 9223372036854775808 / 2 := Nat.div_le_div_left (by omega) (by omega)
      omega
  · omega
theorem tmod_bd {a b : Int} (hb0 : -9223372036854775808 ≤ b) (hb1 : b ≤ 9223372036854775807) (hb : ¬ b = 0) : -9223372036854775808 < a.tmod b ∧ a.tmod b ≤ 9223372036854775807 := by
  have h := natAbs_tmod_lt a hb
  omega
/-- Rounded down: what Go's quotient and rest come to. -/
theorem div_fix {a b : Int} (hb : ¬ b = 0) (h : ¬ a.tmod b = 0) (hs : ¬ (a.tmod b < 0 ↔ b < 0)) : DivOf a b (a.tdiv b - 1) (a.tmod b + b) := by
  have h1 := natAbs_tmod_lt a hb
  have h2 := Int.tdiv_mul_add_tmod a b
  refine ⟨by rw [Int.sub_mul]; omega, ?_⟩
  by_cases hb' : b < 0
  · exact Or.inr ⟨hb', by omega, by omega⟩
  · exact Or.inl ⟨by omega, by omega, by omega⟩
theorem div_stay {a b : Int} (hb : ¬ b = 0) (h : a.tmod b = 0 ∨ (a.tmod b < 0 ↔ b < 0)) : DivOf a b (a.tdiv b) (a.tmod b) := by
  have h1 := natAbs_tmod_lt a hb
  have h2 := Int.tdiv_mul_add_tmod a b
  refine ⟨h2, ?_⟩
  by_cases hb' : b < 0
  · exact Or.inr ⟨hb', by omega, by omega⟩
  · exact Or.inl ⟨by omega, by omega, by omega⟩

theorem ret_int {k : IntKind} {a b : Int} (h : a = b) : Ending.returned (.int k a) = .returned (.int k b) := by rw [h]

theorem ret_bool {a b : Bool} (h : a = b) : Ending.returned (.bool a) = .returned (.bool b) := by rw [h]

/-- What is kept between the two ends. -/
def clampI (x least most : Int) : Int := if x < most then (if least < x then x else least) else (if least < most then most else least)

theorem clamp_any (x l m : Int) (w : World) :
    Calls Tryz.prog 101 #[.int .i64 x, .int .i64 l, .int .i64 m] w fun e w' => e = .returned (.int .i64 (clampI x l m)) ∧ w' = w := by
  go_enter Tryz.func101, Tryz.ntmps101
  go_wp2
  all_goals
    go_ret
    exact ⟨ret_int (by unfold clampI; repeat (first | omega | split | split at *)), rfl⟩

/-- The size that Gcd reckons with. -/
def satI (a : Int) : Int := if a = -9223372036854775808 then 9223372036854775807 else if a < 0 then -a else a

theorem gcd_emod {p q : Int} (hp : 0 ≤ p) (hq : 0 ≤ q) : Int.gcd q (p % q) = Int.gcd p q := by
  obtain ⟨p, rfl⟩ := Int.eq_ofNat_of_zero_le hp
  obtain ⟨q, rfl⟩ := Int.eq_ofNat_of_zero_le hq
  show Nat.gcd q (p % q) = Nat.gcd p q
  rw [Nat.gcd_comm q, ← Nat.gcd_rec, Nat.gcd_comm]

theorem sat_bd {a : Int} (ha0 : -9223372036854775808 ≤ a) (ha1 : a ≤ 9223372036854775807) : 0 ≤ satI a ∧ satI a ≤ 9223372036854775807 := by
  unfold satI; split
  · omega
  · split <;> omega

theorem cmp_le (V U : Int) : decide (cmpI V U ≤ 0) = decide (V ≤ U) := by
  unfold cmpI
  by_cases h : V = U
  · simp [h]
  · rw [if_neg h]
    by_cases h2 : V < U
    · rw [if_pos h2]; simp; omega
    · rw [if_neg h2]; simp; omega
theorem turn_abs1 (V : Int) : turnI (decide (hiW V < 0)) V = absI V := by
  unfold turnI absI hiW
  by_cases h : V < 0
  · rw [if_pos (by simp; omega), if_pos h]
  · rw [if_neg (by simp; omega), if_neg h]
theorem prod_bd {a b : Int} (ha0 : -9223372036854775808 ≤ a) (ha1 : a ≤ 9223372036854775807) (hb0 : -9223372036854775808 ≤ b) (hb1 : b ≤ 9223372036854775807) : -85070591730234615856620279821087277056 ≤ a * b ∧ a * b ≤ 85070591730234615865843651857942052864 := by
  have h0 : 0 ≤ (9223372036854775807 - a) * (b + 9223372036854775808) := Int.mul_nonneg (by omega) (by omega)
  have h1 : 0 ≤ (a + 9223372036854775808) * (9223372036854775807 - b) := Int.mul_nonneg (by omega) (by omega)
  have h2 : 0 ≤ (9223372036854775807 - a) * (9223372036854775807 - b) := Int.mul_nonneg (by omega) (by omega)
  have h3 : 0 ≤ (a + 9223372036854775808) * (b + 9223372036854775808) := Int.mul_nonneg (by omega) (by omega)
  simp only [Int.sub_mul, Int.mul_sub, Int.add_mul, Int.mul_add] at h0 h1 h2 h3
  generalize a * b = p at *
  omega

end Go.Proofs.YtlnfabjgcecebaaGreat.Big
namespace Go.Proofs.YtlnfabjgcecebaaGreat.Big
open Go.RowKit

theorem bl32 (x : Int) (h : 4294967296 ≤ x) : bitLen x.toNat = 32 + bitLen (x / 4294967296).toNat := by
  obtain ⟨n, rfl⟩ := Int.eq_ofNat_of_zero_le (show 0 ≤ x by omega)
  have e : ((n : Int) / 4294967296).toNat = n / 2 ^ 32 := by omega
  rw [e, Int.toNat_natCast]; exact bitLen_shift n 32 (by omega)
theorem bl16 (x : Int) (h : 65536 ≤ x) : bitLen x.toNat = 16 + bitLen (x / 65536).toNat := by
  obtain ⟨n, rfl⟩ := Int.eq_ofNat_of_zero_le (show 0 ≤ x by omega)
  have e : ((n : Int) / 65536).toNat = n / 2 ^ 16 := by omega
  rw [e, Int.toNat_natCast]; exact bitLen_shift n 16 (by omega)
theorem bl8 (x : Int) (h : 256 ≤ x) : bitLen x.toNat = 8 + bitLen (x / 256).toNat := by
  obtain ⟨n, rfl⟩ := Int.eq_ofNat_of_zero_le (show 0 ≤ x by omega)
  have e : ((n : Int) / 256).toNat = n / 2 ^ 8 := by omega
  rw [e, Int.toNat_natCast]; exact bitLen_shift n 8 (by omega)
theorem bl_le (x : Int) (h0 : 0 ≤ x) (h : x < 256) : bitLen x.toNat ≤ 8 := bitLen_le8 _ (by omega)
theorem wrap_small {z : Int} (h0 : 0 ≤ z) (h1 : z ≤ 9223372036854775807) : wrap64 z = z := by unfold wrap64; omega

theorem two_wraps (K : Int) (n : Nat) (h0 : 0 ≤ K) (h1 : K ≤ 64) (hn : n ≤ 8) : wrap64 (K + wrap64 (n : Int)) = K + n := by
  rw [wrap_small (z := (n : Int)) (by omega) (by omega), wrap_small (by omega) (by omega)]

end Go.Proofs.YtlnfabjgcecebaaGreat.Big
namespace Go.Proofs.YtlnfabjgcecebaaGreat.Big
open Go.RowKit

/-- A guess q of a digit, with the rest r that it leaves of the upper part: it is too great just if ... -/
theorem guess_gt {U v1 v0 Y q r u D : Int} (hY : v1 * 4294967296 + v0 = Y) (hq : q * v1 + r = U) (hD : U * 4294967296 + u = D) : (4294967296 * r + u < q * v0) ↔ D < q * Y := by
  have e : q * Y = q * v1 * 4294967296 + q * v0 := by rw [← hY, Int.mul_add, Int.mul_assoc]
  generalize q * v1 = a at *
  generalize q * v0 = b at *
  omega
/-- The digit that is sought is below a guess that is too great. -/
theorem digit_lt {Y q D : Int} (hY : 0 < Y) (h : D < q * Y) : D / Y < q := Int.ediv_lt_of_lt_mul hY h
theorem digit_le {Y q D : Int} (hY : 0 < Y) (h : q * Y ≤ D) : q ≤ D / Y := (Int.le_ediv_iff_mul_le hY).2 h
/-- Where the rest is past a digit the guess is not too great. -/
theorem guess_past {v0 q r u : Int} (h0 : 0 ≤ v0) (h1 : v0 < 4294967296) (hq : q ≤ 4294967296) (hr : 4294967296 ≤ r) (hu : 0 ≤ u) : q * v0 ≤ 4294967296 * r + u := by
  have h : q * v0 ≤ 4294967296 * v0 := Int.mul_le_mul_of_nonneg_right hq h0
  omega
/-- The first guess is no more than one past the greatest digit. -/
theorem guess_first {U v1 v0 Y : Int} (hY : v1 * 4294967296 + v0 = Y) (h0 : v0 < 4294967296) (hv : 2147483648 ≤ v1) (hU : U < Y) : U / v1 ≤ 4294967297 := by
  have h : U / v1 < 4294967298 := Int.ediv_lt_of_lt_mul (by omega) (by omega)
  omega
theorem guess_ge {U v1 v0 Y u D : Int} (hU : 0 ≤ U) (hY : v1 * 4294967296 + v0 = Y) (h0 : 0 ≤ v0) (hv : 2147483648 ≤ v1) (hu : u < 4294967296) (hD : U * 4294967296 + u = D) : D / Y ≤ U / v1 := by
  have h1 : U < (U / v1 + 1) * v1 := Int.lt_ediv_add_one_mul_self U (by omega)
  have h2 : 0 ≤ U / v1 := Int.ediv_nonneg hU (by omega)
  generalize U / v1 = q at *
  have h3 : D / Y < q + 1 := by
    refine Int.ediv_lt_of_lt_mul (by omega) ?_
    have e : (q + 1) * Y = (q + 1) * v1 * 4294967296 + (q + 1) * v0 := by rw [← hY, Int.mul_add, Int.mul_assoc]
    have h4 : 0 ≤ (q + 1) * v0 := Int.mul_nonneg (by omega) h0
    generalize (q + 1) * v1 = a at *
    generalize (q + 1) * v0 = b at *
    omega
  omega
/-- One step: the digit, and what is left. -/
theorem digit_lt_base {U u Y D : Int} (hY : 0 < Y) (hUY : U < Y) (hu : u < 4294967296) (hD : U * 4294967296 + u = D) : D / Y < 4294967296 :=
  Int.ediv_lt_of_lt_mul hY (by omega)
/-- Two digits, one behind the other, are the quotient. -/
theorem two_digits {U L Y u1 u0 R : Int} (hY : 0 < Y) (hL : u1 * 4294967296 + u0 = L) (hR : U * 4294967296 + u1 - (U * 4294967296 + u1) / Y * Y = R) :
    (U * 4294967296 + u1) / Y * 4294967296 + (R * 4294967296 + u0) / Y = (U * 18446744073709551616 + L) / Y := by
  generalize (U * 4294967296 + u1) / Y = q at *
  have e : U * 18446744073709551616 + L = (R * 4294967296 + u0) + q * 4294967296 * Y := by
    have e2 : q * 4294967296 * Y = q * Y * 4294967296 := by rw [Int.mul_assoc, Int.mul_comm 4294967296 Y, ← Int.mul_assoc]
    rw [e2]
    generalize q * Y = z at *
    omega
  rw [e, Int.add_mul_ediv_right _ _ (by omega)]
  omega
theorem rest_lt {A Y : Int} (hY : 0 < Y) : 0 ≤ A - A / Y * Y ∧ A - A / Y * Y < Y := by
  have h1 := Int.emod_nonneg A (show Y ≠ 0 by omega)
  have h2 := Int.emod_lt_of_pos A hY
  have h3 := Int.emod_add_ediv_mul A Y
  omega
theorem scaled {N y P : Int} (hP : 0 < P) : (N * P) / (y * P) = N / y := Int.mul_ediv_mul_of_pos_left N y hP

theorem step_inv {q v1 r U : Int} (h : q * v1 + r = U) : (q - 1) * v1 + (r + v1) = U := by
  rw [Int.sub_mul]; omega
theorem prod_small {q v0 : Int} (hq0 : 0 ≤ q) (hq : q < 4294967296) (h0 : 0 ≤ v0) (h1 : v0 < 4294967296) : 0 ≤ q * v0 ∧ q * v0 < 18446744073709551616 := by
  have h : q * v0 ≤ 4294967295 * 4294967295 := Int.mul_le_mul (by omega) (by omega) h0 (by omega)
  exact ⟨Int.mul_nonneg hq0 h0, by omega⟩
theorem good_guess {U v1 v0 Y q r u D : Int} (hYp : 0 < Y) (hY : v1 * 4294967296 + v0 = Y) (hq : q * v1 + r = U) (hD : U * 4294967296 + u = D) (h : ¬ 4294967296 * r + u < q * v0) : q ≤ D / Y :=
  digit_le hYp (Int.not_lt.1 fun hc => h ((guess_gt hY hq hD).2 hc))
theorem bad_guess {U v1 v0 Y q r u D : Int} (hYp : 0 < Y) (hY : v1 * 4294967296 + v0 = Y) (hq : q * v1 + r = U) (hD : U * 4294967296 + u = D) (h : 4294967296 * r + u < q * v0) : D / Y < q :=
  digit_lt hYp ((guess_gt hY hq hD).1 h)

/-! The shift: y is shifted up until its highest bit is set. -/
theorem pow_split {n : Nat} (h : n ≤ 64) : (2 : Int) ^ n * 2 ^ (64 - n) = 18446744073709551616 := by
  rw [← Int.pow_add, Nat.add_sub_cancel' h]; rfl
theorem pow_split' {n : Nat} (h1 : 1 ≤ n) (h : n ≤ 64) : (2 : Int) ^ (n - 1) * 2 ^ (64 - n) = 9223372036854775808 := by
  rw [← Int.pow_add, show n - 1 + (64 - n) = 63 by omega]; rfl
theorem pow_pos' (n : Nat) : (0 : Int) < 2 ^ n := Int.pow_pos (by decide)

theorem shift_y {y : Int} {n : Nat} (h1 : 1 ≤ n) (h : n ≤ 64) (hlt : y < 2 ^ n) (hge : 2 ^ (n - 1) ≤ y) :
    9223372036854775808 ≤ y * 2 ^ (64 - n) ∧ y * 2 ^ (64 - n) < 18446744073709551616 := by
  have hp := pow_pos' (64 - n)
  rw [← pow_split h, ← pow_split' h1 h]
  exact ⟨Int.mul_le_mul_of_nonneg_right hge (by omega), Int.mul_lt_mul_of_pos_right hlt hp⟩

/-- The two words of the dividend, shifted: no bit is lost. -/
theorem shift_words {hi lo : Int} {n : Nat} (h : n ≤ 64) :
    (hi * 18446744073709551616 + lo) * 2 ^ (64 - n) = (hi * 2 ^ (64 - n) + lo / 2 ^ n) * 18446744073709551616 + (lo * 2 ^ (64 - n)) % 18446744073709551616 := by
  have e := pow_split h
  have hn := pow_pos' n
  have d := Int.emod_add_ediv_mul lo (2 ^ n)
  have m0 := Int.emod_nonneg lo (show (2 : Int) ^ n ≠ 0 by omega)
  have m1 := Int.emod_lt_of_pos lo hn
  have hP := pow_pos' (64 - n)
  generalize (2 : Int) ^ (64 - n) = P at *
  generalize (2 : Int) ^ n = Q at *
  generalize lo / Q = t at *
  generalize lo % Q = m at *
  have e1 : lo * P = m * P + t * 18446744073709551616 := by rw [← d, ← e, Int.add_mul, Int.mul_assoc]
  have b0 : 0 ≤ m * P := Int.mul_nonneg m0 (by omega)
  have b1 : m * P < 18446744073709551616 := by rw [← e]; exact Int.mul_lt_mul_of_pos_right m1 hP
  have e2 : (lo * P) % 18446744073709551616 = m * P := by rw [e1]; omega
  have e3 : (hi * 18446744073709551616 + lo) * P = hi * P * 18446744073709551616 + lo * P := by
    rw [Int.add_mul, Int.mul_assoc, Int.mul_comm 18446744073709551616 P, ← Int.mul_assoc]
  rw [e3, e2, e1, Int.add_mul]
  omega

theorem or_add {hi lo : Int} {n : Nat} (h0 : 0 ≤ hi) (hl0 : 0 ≤ lo) (hl1 : lo < 18446744073709551616) (h : n ≤ 64) (hs : hi * 2 ^ (64 - n) < 18446744073709551616) :
    bits BinOp.or IntKind.u64 (hi * 2 ^ (64 - n)) (lo / 2 ^ n) = hi * 2 ^ (64 - n) + lo / 2 ^ n := by
  obtain ⟨a, rfl⟩ := Int.eq_ofNat_of_zero_le h0
  obtain ⟨l, rfl⟩ := Int.eq_ofNat_of_zero_le hl0
  have e1 : (a : Int) * 2 ^ (64 - n) = ((2 ^ (64 - n) * a : Nat) : Int) := by rw [Nat.mul_comm]; simp
  have e2 : (l : Int) / 2 ^ n = ((l / 2 ^ n : Nat) : Int) := by simp
  have hb : l / 2 ^ n < 2 ^ (64 - n) := by
    rw [Nat.div_lt_iff_lt_mul (Nat.two_pow_pos n), ← Nat.pow_add, show 64 - n + n = 64 by omega]; omega
  rw [e1] at hs
  rw [e1, e2, bits_or_u64_nat _ _ (by omega) (by have := Nat.div_le_self l (2 ^ n); omega), ← Nat.two_pow_add_eq_or_of_lt hb]
  simp
end Go.Proofs.YtlnfabjgcecebaaGreat.Big
namespace Go.Proofs.YtlnfabjgcecebaaGreat.Big
open Go.RowKit

theorem len_bd {y : Int} (h0 : 0 < y) (h1 : y < 9223372036854775808) : 1 ≤ bitLen y.toNat ∧ bitLen y.toNat ≤ 63 ∧ y < 2 ^ bitLen y.toNat ∧ (2 : Int) ^ (bitLen y.toNat - 1) ≤ y := by
  obtain ⟨n, rfl⟩ := Int.eq_ofNat_of_zero_le (show 0 ≤ y by omega)
  rw [Int.toNat_natCast]
  obtain ⟨a, b⟩ := bitLen_spec n
  have b' := b (by omega)
  have h63 : bitLen n ≤ 63 := by
    unfold bitLen
    split
    · omega
    · rename_i h
      have := (Nat.log2_lt h).2 (show n < 2 ^ 63 by omega)
      omega
  have h1 : 1 ≤ bitLen n := by
    unfold bitLen
    split
    · omega
    · omega
  refine ⟨h1, h63, ?_, ?_⟩
  · exact_mod_cast a
  · exact_mod_cast b'

end Go.Proofs.YtlnfabjgcecebaaGreat.Big
namespace Go.Proofs.YtlnfabjgcecebaaGreat.Big
open Go.RowKit

theorem keep {W w1 : World} (hb : Below W.heap.size W w1) {b o : Nat} {v : Value} (hlt : b < W.heap.size) (h : W.cell? ⟨b, o, none⟩ = some v) : w1.cell? ⟨b, o, none⟩ = some v := by
  rw [(bcell hb).1 _ _ hlt]; exact h
theorem keepA {W w1 : World} {ob : Obj} (hb : Below (W.alloc ob).heap.size (W.alloc ob) w1) {b o : Nat} {v : Value} (hlt : b < W.heap.size) (h : W.cell? ⟨b, o, none⟩ = some v) : w1.cell? ⟨b, o, none⟩ = some v := by
  rw [(bcell hb).1 _ _ (by simp; omega), World.cell?_alloc_past _ _ _ hlt]; exact h
theorem keepN {W w1 : World} {c : Array Value} {t : TypeId} (hb : Below (W.alloc (.cells c t)).heap.size (W.alloc (.cells c t)) w1) {o : Nat} {v : Value} (h : c[o]? = some v) : w1.cell? ⟨W.heap.size, o, none⟩ = some v := by
  rw [(bcell hb).1 _ _ (by simp), World.cell?_alloc_at _ _ _ _ rfl]; exact h
theorem keepS {W w1 : World} {ob : Obj} (hb : Below (W.alloc ob).heap.size (W.alloc ob) w1) : W.heap.size < w1.heap.size := by
  have := hb.size; simp at this; omega
theorem belowA {B : Nat} {w W w1 : World} {ob : Obj} (k : Below B w W) (m : B ≤ W.heap.size) (hb : Below (W.alloc ob).heap.size (W.alloc ob) w1) : Below B w w1 :=
  (k.alloc m _).trans (hb.mono (by simp; omega))
theorem keepF {W w1 : World} (hb : Below W.heap.size W w1) {b o : Nat} (hlt : b < W.heap.size) (h : W.frozen? ⟨b, o, none⟩ = false) : w1.frozen? ⟨b, o, none⟩ = false := by
  rw [(bcell hb).2 _ _ hlt]; exact h
theorem below2 {B : Nat} {w W w1 : World} (k : Below B w W) (m : B ≤ W.heap.size) (hb : Below W.heap.size W w1) : Below B w w1 := k.trans (hb.mono m)

theorem hilo_div (V c : Int) (h0 : 0 ≤ V) (hc : 0 < c) (h : hiW V < c) : hiW (V / c) = 0 ∧ loW (V / c) = V / c := by
  have h1 : 0 ≤ V / c := Int.ediv_nonneg h0 (by omega)
  have h2 : V / c < 18446744073709551616 := Int.ediv_lt_of_lt_mul hc (by unfold hiW at h; omega)
  exact ⟨hi_small h1 h2, lo_small h1 h2⟩

end Go.Proofs.YtlnfabjgcecebaaGreat.Big
namespace Go.Proofs.YtlnfabjgcecebaaGreat.Big
open Go.RowKit

theorem set2 {W : World} {b : Nat} {x y : Value} (u v : Value) (h0 : W.cell? ⟨b, 0, none⟩ = some x) (h1 : W.cell? ⟨b, 1, none⟩ = some y) :
    ((W.setCell ⟨b, 0, none⟩ u).setCell ⟨b, 1, none⟩ v).cell? ⟨b, 0, none⟩ = some u ∧ ((W.setCell ⟨b, 0, none⟩ u).setCell ⟨b, 1, none⟩ v).cell? ⟨b, 1, none⟩ = some v := by
  have e1 : (W.setCell ⟨b, 0, none⟩ u).cell? ⟨b, 1, none⟩ = some y := by rw [World.cell?_setCell_other _ _ _ _ (by simp)]; exact h1
  refine ⟨?_, World.cell?_setCell_same _ _ _ e1⟩
  rw [World.cell?_setCell_other _ _ _ _ (by simp)]
  exact World.cell?_setCell_same _ _ _ h0
theorem set2_other {W : World} {b c o : Nat} {x : Value} (u v : Value) (hc : c ≠ b) (h : W.cell? ⟨c, o, none⟩ = some x) :
    ((W.setCell ⟨b, 0, none⟩ u).setCell ⟨b, 1, none⟩ v).cell? ⟨c, o, none⟩ = some x := by
  rw [World.cell?_setCell_other _ _ _ _ (fun e => hc (congrArg Addr.block e).symm), World.cell?_setCell_other _ _ _ _ (fun e => hc (congrArg Addr.block e).symm)]; exact h

theorem neg_div {p c : Int} (hc : 0 < c) : -((-p + (c - 1)) / c) = p / c := by
  have h1 := Int.emod_add_ediv_mul p c
  have h2 := Int.emod_nonneg p (show c ≠ 0 by omega)
  have h3 := Int.emod_lt_of_pos p hc
  have e : -p + (c - 1) = (c - 1 - p % c) + (-(p / c)) * c := by rw [Int.neg_mul]; omega
  rw [e, Int.add_mul_ediv_right _ _ (by omega), Int.ediv_eq_zero_of_lt (by omega) (by omega)]
  omega

end Go.Proofs.YtlnfabjgcecebaaGreat.Big
