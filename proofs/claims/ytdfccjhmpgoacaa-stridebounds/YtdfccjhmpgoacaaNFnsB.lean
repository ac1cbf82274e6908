/- Contracts of num's own functions: Div, Near, Clamp, Gcd. -/
import Derived.Test.YtdfccjhmpgoacaaNFns
namespace Go.Proofs.Ytdfccjhmpgoacaa.Big
open Go.RowKit

/-- What a quotient and a rest are: the rest has the sign of what parted it, or is 0, and is less. -/
def DivOf (a b q r : Int) : Prop := q * b + r = a ∧ (0 < b ∧ 0 ≤ r ∧ r < b ∨ b < 0 ∧ r ≤ 0 ∧ b < r)

theorem natAbs_tdiv_le (a b : Int) : (a.tdiv b).natAbs ≤ a.natAbs := by
  rw [Int.natAbs_tdiv]; exact Nat.div_le_self _ _
theorem natAbs_tmod_lt (a : Int) {b : Int} (hb : ¬ b = 0) : (a.tmod b).natAbs < b.natAbs := by
  rw [Int.natAbs_tmod]; exact Nat.mod_lt _ (by omega)
theorem tdiv_bd {a b : Int} (ha0 : -9223372036854775808 ≤ a) (ha1 : a ≤ 9223372036854775807) (hb : ¬ b = 0) (hn : ¬ (a = -9223372036854775808 ∧ b = -1)) : -9223372036854775808 ≤ a.tdiv b ∧ a.tdiv b ≤ 9223372036854775807 := by
  have h := natAbs_tdiv_le a b
  refine ⟨by omega, ?_⟩
  by_cases ha : a = -9223372036854775808
  · subst ha
    have hb1 : ¬ b = -1 := by omega
    have h2 : ((-9223372036854775808 : Int).tdiv b).natAbs = 9223372036854775808 / b.natAbs := by rw [Int.natAbs_tdiv]; rfl
    by_cases hb2 : b = 1
    · subst hb2; decide
    · have h3 : 9223372036854775808 / b.natAbs ≤ 9223372036854775808 / 2 := Nat.div_le_div_left (by omega) (by omega)
      omega
  · omega
theorem tmod_bd {a b : Int} (hb0 : -9223372036854775808 ≤ b) (hb1 : b ≤ 9223372036854775807) (hb : ¬ b = 0) : -9223372036854775808 < a.tmod b ∧ a.tmod b ≤ 9223372036854775807 := by
  have h := natAbs_tmod_lt a hb
  omega
/-- Rounded down: what Go's quotient and rest come to. -/
theorem div_fix {a b : Int} (hb : ¬ b = 0) (h : ¬ a.tmod b = 0) (hs : ¬ (a.tmod b < 0 ↔ b < 0)) : DivOf a b (a.tdiv b - 1) (a.tmod b + b) := by
  have h1 := natAbs_tmod_lt a hb
  have h2 := Int.tdiv_mul_add_tmod a b
  refine ⟨by rw [Int.sub_mul]; omega, ?_⟩
  by_cases hb' : b < 0
  · exact Or.inr ⟨hb', by omega, by omega⟩
  · exact Or.inl ⟨by omega, by omega, by omega⟩
theorem div_stay {a b : Int} (hb : ¬ b = 0) (h : a.tmod b = 0 ∨ (a.tmod b < 0 ↔ b < 0)) : DivOf a b (a.tdiv b) (a.tmod b) := by
  have h1 := natAbs_tmod_lt a hb
  have h2 := Int.tdiv_mul_add_tmod a b
  refine ⟨h2, ?_⟩
  by_cases hb' : b < 0
  · exact Or.inr ⟨hb', by omega, by omega⟩
  · exact Or.inl ⟨by omega, by omega, by omega⟩

theorem div_no (a b : Int) (w : World) (h : b = 0 ∨ a = -9223372036854775808 ∧ b = -1) :
    Calls Try.prog 37 #[.int .i64 a, .int .i64 b] w fun e w' => e = .returned (.tuple #[.int .i64 0, .int .i64 0, .bool false]) ∧ w' = w := by
  rcases h with rfl | ⟨rfl, rfl⟩
  · go_enter Try.func37, Try.ntmps37
    go_wp2
    go_ret3
    exact ⟨rfl, rfl⟩
  · go_enter Try.func37, Try.ntmps37
    go_wp2
    go_ret3
    exact ⟨rfl, rfl⟩

theorem div_yes (a b : Int) (w : World) (ha0 : -9223372036854775808 ≤ a) (ha1 : a ≤ 9223372036854775807) (hb0 : -9223372036854775808 ≤ b) (hb1 : b ≤ 9223372036854775807) (hb : ¬ b = 0) (hn : ¬ (a = -9223372036854775808 ∧ b = -1)) :
    Calls Try.prog 37 #[.int .i64 a, .int .i64 b] w fun e w' => ∃ q r : Int, e = .returned (.tuple #[.int .i64 q, .int .i64 r, .bool true]) ∧ DivOf a b q r ∧ Below w.heap.size w w' := by
  obtain ⟨q0, q1⟩ := tdiv_bd ha0 ha1 hb hn
  obtain ⟨r0, r1⟩ := tmod_bd (a := a) hb0 hb1 hb
  have hbb : (b == 0) = false := by simpa using hb
  have hmn : (a == -9223372036854775808) = false ∨ (a == -9223372036854775808) = true ∧ (b == -1) = false := by
    by_cases h : a = -9223372036854775808
    · exact Or.inr ⟨by simpa using h, by simp; omega⟩
    · exact Or.inl (by simpa using h)
  clear hn
  by_cases hr : a.tmod b = 0
  · have hD : Hid (DivOf a b (a.tdiv b) (a.tmod b)) := div_stay hb (Or.inl hr)
    have hr' : (a.tmod b != 0) = false := by simp [hr]
    clear hr
    rcases hmn with hm | ⟨hm, hm2⟩
    all_goals
      go_enter Try.func37, Try.ntmps37
      go_wp2
      go_region
      all_goals
        go_wp2
        go_ret3
        exact ⟨_, _, rfl, hD.out, (Below.refl _ _).drew⟩
  · have hr' : (a.tmod b != 0) = true := by simp [hr]
    by_cases hs : a.tmod b < 0 ↔ b < 0
    · have hD : Hid (DivOf a b (a.tdiv b) (a.tmod b)) := div_stay hb (Or.inr hs)
      by_cases hb2 : b < 0
      · have hb3 : a.tmod b < 0 := hs.2 hb2
        clear hs hr
        rcases hmn with hm | ⟨hm, hm2⟩
        all_goals
          go_enter Try.func37, Try.ntmps37
          go_wp2
          go_region
          all_goals
            go_wp2
            go_ret3
            exact ⟨_, _, rfl, hD.out, (Below.refl _ _).drew⟩
      · have hb3 : decide (a.tmod b < 0) = false := by simp; omega
        have hb4 : decide (b < 0) = false := by simp; omega
        clear hs hr hb2
        rcases hmn with hm | ⟨hm, hm2⟩
        all_goals
          go_enter Try.func37, Try.ntmps37
          go_wp2
          go_region
          all_goals
            go_wp2
            go_ret3
            exact ⟨_, _, rfl, hD.out, (Below.refl _ _).drew⟩
    · have hD : Hid (DivOf a b (a.tdiv b - 1) (a.tmod b + b)) := div_fix hb hr hs
      have hq : -9223372036854775808 ≤ a.tdiv b - 1 := by
        have h1 : ¬ b = 1 := by rintro rfl; simp at hr
        have h2 : ¬ b = -1 := by rintro rfl; simp at hr
        have h3 : (a.tdiv b).natAbs = a.natAbs / b.natAbs := Int.natAbs_tdiv a b
        have h4 : a.natAbs / b.natAbs ≤ a.natAbs / 2 := Nat.div_le_div_left (by omega) (by omega)
        omega
      have hlt := natAbs_tmod_lt a hb
      have hrb0 : -9223372036854775808 ≤ a.tmod b + b := by omega
      have hrb1 : a.tmod b + b ≤ 9223372036854775807 := by omega
      clear hlt
      by_cases hb2 : b < 0
      · have hb3 : decide (a.tmod b < 0) = false := by simp; omega
        clear hs hr
        rcases hmn with hm | ⟨hm, hm2⟩
        all_goals
          go_enter Try.func37, Try.ntmps37
          go_wp2
          go_region
          all_goals
            go_wp2
            go_ret3
            exact ⟨_, _, rfl, hD.out, (Below.refl _ _).drew⟩
      · have hb3 : a.tmod b < 0 := by omega
        have hb4 : decide (b < 0) = false := by simp; omega
        clear hs hr hb2
        rcases hmn with hm | ⟨hm, hm2⟩
        all_goals
          go_enter Try.func37, Try.ntmps37
          go_wp2
          go_region
          all_goals
            go_wp2
            go_ret3
            exact ⟨_, _, rfl, hD.out, (Below.refl _ _).drew⟩

theorem ret_int {k : IntKind} {a b : Int} (h : a = b) : Ending.returned (.int k a) = .returned (.int k b) := by rw [h]

theorem ret_bool {a b : Bool} (h : a = b) : Ending.returned (.bool a) = .returned (.bool b) := by rw [h]

/-- What is kept between the two ends. -/
def clampI (x least most : Int) : Int := if x < most then (if least < x then x else least) else (if least < most then most else least)

theorem clamp_any (x l m : Int) (w : World) :
    Calls Try.prog 29 #[.int .i64 x, .int .i64 l, .int .i64 m] w fun e w' => e = .returned (.int .i64 (clampI x l m)) ∧ w' = w := by
  go_enter Try.func29, Try.ntmps29
  go_wp2
  all_goals
    go_ret
    exact ⟨ret_int (by unfold clampI; repeat (first | omega | split | split at *)), rfl⟩

/-- The size that Gcd reckons with. -/
def satI (a : Int) : Int := if a = -9223372036854775808 then 9223372036854775807 else if a < 0 then -a else a

theorem gcd_emod {p q : Int} (hp : 0 ≤ p) (hq : 0 ≤ q) : Int.gcd q (p % q) = Int.gcd p q := by
  obtain ⟨p, rfl⟩ := Int.eq_ofNat_of_zero_le hp
  obtain ⟨q, rfl⟩ := Int.eq_ofNat_of_zero_le hq
  show Nat.gcd q (p % q) = Nat.gcd p q
  rw [Nat.gcd_comm q, ← Nat.gcd_rec, Nat.gcd_comm]

theorem sat_bd {a : Int} (ha0 : -9223372036854775808 ≤ a) (ha1 : a ≤ 9223372036854775807) : 0 ≤ satI a ∧ satI a ≤ 9223372036854775807 := by
  unfold satI; split
  · omega
  · split <;> omega

theorem cmp_le (V U : Int) : decide (cmpI V U ≤ 0) = decide (V ≤ U) := by
  unfold cmpI
  by_cases h : V = U
  · simp [h]
  · rw [if_neg h]
    by_cases h2 : V < U
    · rw [if_pos h2]; simp; omega
    · rw [if_neg h2]; simp; omega
theorem turn_abs1 (V : Int) : turnI (decide (hiW V < 0)) V = absI V := by
  unfold turnI absI hiW
  by_cases h : V < 0
  · rw [if_pos (by simp; omega), if_pos h]
  · rw [if_neg (by simp; omega), if_neg h]
theorem prod_bd {a b : Int} (ha0 : -9223372036854775808 ≤ a) (ha1 : a ≤ 9223372036854775807) (hb0 : -9223372036854775808 ≤ b) (hb1 : b ≤ 9223372036854775807) : -85070591730234615856620279821087277056 ≤ a * b ∧ a * b ≤ 85070591730234615865843651857942052864 := by
  have h0 : 0 ≤ (9223372036854775807 - a) * (b + 9223372036854775808) := Int.mul_nonneg (by omega) (by omega)
  have h1 : 0 ≤ (a + 9223372036854775808) * (9223372036854775807 - b) := Int.mul_nonneg (by omega) (by omega)
  have h2 : 0 ≤ (9223372036854775807 - a) * (9223372036854775807 - b) := Int.mul_nonneg (by omega) (by omega)
  have h3 : 0 ≤ (a + 9223372036854775808) * (b + 9223372036854775808) := Int.mul_nonneg (by omega) (by omega)
  simp only [Int.sub_mul, Int.mul_sub, Int.add_mul, Int.mul_add] at h0 h1 h2 h3
  generalize a * b = p at *
  omega

set_option maxHeartbeats 400000 in
theorem near_any (a b c d e f : Int) (w : World) (ha0 : -9223372036854775808 ≤ a) (ha1 : a ≤ 9223372036854775807) (hb0 : -9223372036854775808 ≤ b) (hb1 : b ≤ 9223372036854775807) (hc0 : -9223372036854775808 ≤ c) (hc1 : c ≤ 9223372036854775807) (hd0 : -9223372036854775808 ≤ d) (hd1 : d ≤ 9223372036854775807) (he0 : -9223372036854775808 ≤ e) (he1 : e ≤ 9223372036854775807) (hf0 : -9223372036854775808 ≤ f) (hf1 : f ≤ 9223372036854775807) :
    Calls Try.prog 32 #[.int .i64 a, .int .i64 b, .int .i64 c, .int .i64 d, .int .i64 e, .int .i64 f] w fun r w' => r = .returned (.bool (decide (absI (a * d - c * b) ≤ e * f))) ∧ Below w.heap.size w w' := by
  obtain ⟨p0, p1⟩ := prod_bd ha0 ha1 hd0 hd1
  obtain ⟨q0, q1⟩ := prod_bd hc0 hc1 hb0 hb1
  have HT : Hid (turnI (decide (hiW (a * d - c * b) < 0)) (a * d - c * b) = absI (a * d - c * b)) := turn_abs1 _
  go_enter Try.func32, Try.ntmps32
  go_wp2_with fail
  refine (times_any a d _ ha0 ha1 hd0 hd1).mono ?_
  rintro r w1 ⟨rfl, h1⟩
  go_wp2_with fail
  refine (times_any c b _ hc0 hc1 hb0 hb1).mono ?_
  rintro r w2 ⟨rfl, h2⟩
  go_wp2_with fail
  refine (minus_any (a * d) (c * b) _ (by omega) (by omega) (by omega) (by omega) (by omega) (by omega)).mono ?_
  rintro r w3 ⟨rfl, h3⟩
  have k3 : Below w.heap.size w w3 := (h1.trans (h2.mono h1.size)).trans (h3.mono (Nat.le_trans h1.size h2.size))
  have m3 := k3.size
  clear h1 h2 h3 w1 w2
  go_wp2_with fail
  refine (below_any (a * d - c * b) _).mono ?_
  rintro r w4 ⟨rfl, h4⟩
  go_wp2_with fail
  refine (turner_any _ _).mono ?_
  rintro r w5 ⟨rfl, hw5⟩
  rw [hw5]
  clear hw5 w5
  have hz : w3.heap.size < w4.heap.size := by have := h4.size; simp at this; omega
  have hk0 : w4.cell? ⟨w3.heap.size, 0, none⟩ = some (.int .i64 (hiW (a * d - c * b))) := by rw [(bcell h4).1 _ _ (by simp)]; simp [go_sem]
  have hk1 : w4.cell? ⟨w3.heap.size, 1, none⟩ = some (.int .u64 (loW (a * d - c * b))) := by rw [(bcell h4).1 _ _ (by simp)]; simp [go_sem]
  have k4 : Below w.heap.size w w4 := (k3.alloc m3 _).trans (h4.mono (by simp; omega))
  clear h4 k3
  go_wp2_with fail
  refine (turn_any (a * d - c * b) (decide (hiW (a * d - c * b) < 0)) w4.heap.size 0 _ (by simp) (by simp [go_sem]) (by omega) (by omega)).mono ?_
  rw [HT.out]
  rintro r w5 ⟨rfl, h5⟩
  have m4 := k4.size
  have k5 : Below w.heap.size w w5 := (k4.alloc m4 _).trans (h5.mono (by simp; omega))
  clear h5
  have m5 := k5.size
  go_wp2_with fail
  refine (times_any e f _ he0 he1 hf0 hf1).mono ?_
  rintro r w6 ⟨rfl, h6⟩
  have m6 := h6.size
  go_wp2_with fail
  refine (compare_any (absI (a * d - c * b)) (e * f) _).mono ?_
  rintro r w7 ⟨rfl, h7⟩
  go_wp2_with fail
  go_ret
  exact ⟨ret_bool (cmp_le _ _), (k5.trans (h6.mono m5)).trans (h7.mono (by omega))⟩

end Go.Proofs.Ytdfccjhmpgoacaa.Big
