/- Parting with a rest: plain facts on whole numbers. -/
import Derived.Test.YtdfccjhmpgoacaaNPartE
import Derived.Test.YtdfccjhmpgoacaaNTold
namespace Go.Proofs.Ytdfccjhmpgoacaa.Big
open Go.RowKit

theorem part_div {V U : Int} (hU : U ≠ 0) : DivOf V U (partQ (decide (V < 0)) (decide (U < 0)) (absI V) (absI U)) (V + -(partQ (decide (V < 0)) (decide (U < 0)) (absI V) (absI U) * U)) := by
  refine ⟨by omega, ?_⟩
  have hB : 0 < absI U := by unfold absI; split <;> omega
  have h1 := Int.emod_add_ediv_mul (absI V) (absI U)
  have h2 := Int.emod_nonneg (absI V) (show absI U ≠ 0 by omega)
  have h3 := Int.emod_lt_of_pos (absI V) hB
  unfold partQ turnI
  generalize absI V % absI U = M at *
  generalize absI V / absI U = D at *
  by_cases hv : V < 0 <;> by_cases hu : U < 0
  · have ev : absI V = -V := by unfold absI; rw [if_pos hv]
    have eu : absI U = -U := by unfold absI; rw [if_pos hu]
    rw [ev, eu, Int.mul_neg] at h1
    rw [eu] at h3
    have e : (!(decide (V < 0) == decide (U < 0))) = false := by simp [hv, hu]
    rw [e]
    simp only [Bool.false_eq_true, false_and, if_false]
    omega
  · have ev : absI V = -V := by unfold absI; rw [if_pos hv]
    have eu : absI U = U := by unfold absI; rw [if_neg hu]
    rw [ev, eu] at h1
    rw [eu] at h3
    have e : (!(decide (V < 0) == decide (U < 0))) = true := by simp [hv, hu]
    rw [e]
    simp only [true_and, if_true]
    by_cases hm : 0 < M
    · rw [if_pos hm, Int.sub_mul, Int.neg_mul, Int.one_mul]; omega
    · rw [if_neg hm, Int.neg_mul]; omega
  · have ev : absI V = V := by unfold absI; rw [if_neg hv]
    have eu : absI U = -U := by unfold absI; rw [if_pos hu]
    rw [ev, eu, Int.mul_neg] at h1
    rw [eu] at h3
    have e : (!(decide (V < 0) == decide (U < 0))) = true := by simp [hv, hu]
    rw [e]
    simp only [true_and, if_true]
    by_cases hm : 0 < M
    · rw [if_pos hm, Int.sub_mul, Int.neg_mul, Int.one_mul]; omega
    · rw [if_neg hm, Int.neg_mul]; omega
  · have ev : absI V = V := by unfold absI; rw [if_neg hv]
    have eu : absI U = U := by unfold absI; rw [if_neg hu]
    rw [ev, eu] at h1
    rw [eu] at h3
    have e : (!(decide (V < 0) == decide (U < 0))) = false := by simp [hv, hu]
    rw [e]
    simp only [Bool.false_eq_true, false_and, if_false]
    omega

theorem divof_pos {a c q r : Int} (hc : 0 < c) (h : DivOf a c q r) : q = a / c ∧ r = a % c := by
  obtain ⟨h1, h2⟩ := h
  have h3 := (Int.ediv_emod_unique (a := a) (r := r) (q := q) hc).2 ⟨by rw [Int.mul_comm c q]; omega, by omega, by omega⟩
  exact ⟨h3.1.symm, h3.2.symm⟩
theorem divof_neg {a c q r : Int} (h : DivOf a c q r) : DivOf (-a) (-c) q (-r) := by
  obtain ⟨h1, h2⟩ := h
  refine ⟨by rw [Int.mul_neg]; omega, by omega⟩
theorem divof_uniq {a b q r q' r' : Int} (h : DivOf a b q r) (h' : DivOf a b q' r') : q = q' ∧ r = r' := by
  by_cases hb : 0 < b
  · have h1 := divof_pos hb h
    have h2 := divof_pos hb h'
    omega
  · have hb' : 0 < -b := by have := h.2; omega
    have h1 := divof_pos hb' (divof_neg h)
    have h2 := divof_pos hb' (divof_neg h')
    omega
theorem fits_rest {a b q r : Int} (hb0 : -9223372036854775808 ≤ b) (hb1 : b ≤ 9223372036854775807) (h : DivOf a b q r) : fitsB r = true := by
  have := h.2
  exact fits_mk (by omega) (by omega)
theorem fits_quot {a b q r : Int} (ha0 : -9223372036854775808 ≤ a) (ha1 : a ≤ 9223372036854775807) (hn : ¬ (a = -9223372036854775808 ∧ b = -1)) (h : DivOf a b q r) : fitsB q = true := by
  by_cases hb : 0 < b
  · obtain ⟨rfl, -⟩ := divof_pos hb h
    by_cases h0 : 0 ≤ a
    · have h1 := Int.ediv_nonneg h0 (Int.le_of_lt hb)
      have h2 := Int.ediv_le_self b h0
      exact fits_mk (by omega) (by omega)
    · have h1 : a / b < 0 := Int.ediv_neg_of_neg_of_pos (by omega) hb
      have h2 := h.1
      have h3 := h.2
      have h4 : a / b * b ≤ a / b * 1 := Int.mul_le_mul_of_nonpos_left (by omega) (by omega)
      have h5 : a ≤ a / b := by
        have := Int.le_ediv_of_mul_le hb (show a * b ≤ a by
          have : a * b ≤ a * 1 := Int.mul_le_mul_of_nonpos_left (by omega) (by omega)
          omega)
        exact this
      exact fits_mk (by omega) (by omega)
  · have hb' : 0 < -b := by have := h.2; omega
    obtain ⟨e, -⟩ := divof_pos hb' (divof_neg h)
    by_cases h0 : 0 ≤ -a
    · have h1 := Int.ediv_nonneg h0 (Int.le_of_lt hb')
      have h2 := Int.ediv_le_self (-b) h0
      by_cases hm : b = -1
      · have : a ≠ -9223372036854775808 := fun h => hn ⟨h, hm⟩
        exact fits_mk (by omega) (by omega)
      · by_cases ha : a = 0
        · exact fits_mk (by omega) (by omega)
        · have h3 : -a / -b < -a := Int.ediv_lt_self_of_pos_of_ne_one (by omega) (by omega)
          exact fits_mk (by omega) (by omega)
    · have h5 : -a ≤ -a / -b := by
        have := Int.le_ediv_of_mul_le hb' (show -a * -b ≤ -a by
          have : -a * -b ≤ -a * 1 := Int.mul_le_mul_of_nonpos_left (by omega) (by omega)
          omega)
        exact this
      have h1 : -a / -b < 0 := Int.ediv_neg_of_neg_of_pos (by omega) hb'
      exact fits_mk (by omega) (by omega)
theorem fits_least {q r : Int} (h : DivOf (-9223372036854775808) (-1) q r) : fitsB q = false := by
  obtain ⟨h1, h2⟩ := h
  unfold fitsB
  simp
  omega
end Go.Proofs.Ytdfccjhmpgoacaa.Big
