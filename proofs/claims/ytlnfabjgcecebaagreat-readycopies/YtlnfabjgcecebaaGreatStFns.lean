/- What stride's calls tell, and the document's: of numbers alone. -/
import Derived.Test.YtlnfabjgcecebaaGreatJ5
import Derived.BigQuiet
namespace Go.Proofs.YtlnfabjgcecebaaGreat.Str
open Go.RowKit Go.Proofs.YtlnfabjgcecebaaGreat.Big

/-- May a thread have so many tickets; how far it goes on. -/
def goodB (t : Int) : Bool := decide (1 ≤ t) && decide (t ≤ 65536)
def strI (t : Int) : Int := if goodB t = true then 1099511627776 / t else 0
/-- The sum, or what is nearest to it; the pass of who enters. -/
def nearI (a b : Int) : Int := if fitsB (a + b) = true then a + b else if 0 < b then 9223372036854775807 else -9223372036854775808
def entI (p n s : Int) : Int := clampI p n (nearI n s)
def aheadB (p i q j : Int) : Bool := decide (p < q) || (decide (p = q) && decide (i < j))
def withB (n t m u k : Int) : Bool := (goodB t && goodB u && decide (0 ≤ k) && decide (k ≤ 64)) && decide (absI (n * u - m * t) ≤ (k + 1) * (t + u))

theorem good_iff {t : Int} : goodB t = true ↔ 1 ≤ t ∧ t ≤ 65536 := by unfold goodB; simp
theorem str_good {t : Int} (h : goodB t = true) : strI t = 1099511627776 / t := if_pos h
theorem str_bad {t : Int} (h : goodB t = false) : strI t = 0 := by unfold strI; rw [h]; rfl
theorem str_pos {t : Int} (h : goodB t = true) : 16777216 ≤ strI t ∧ strI t ≤ 1099511627776 := by
  obtain ⟨h0, h1⟩ := good_iff.1 h
  rw [str_good h]
  have a := Int.ediv_le_self t (a := 1099511627776) (by omega)
  have b : (16777216 : Int) ≤ 1099511627776 / t := by
    rw [Int.le_ediv_iff_mul_le (by omega)]
    omega
  exact ⟨b, a⟩
theorem str_bd (t : Int) : 0 ≤ strI t ∧ strI t ≤ 1099511627776 := by
  cases h : goodB t
  · rw [str_bad h]; omega
  · have := str_pos h; omega
theorem str_tdiv {t : Int} (h : goodB t = true) : Int.tdiv 1099511627776 t = strI t := by
  have := good_iff.1 h
  rw [str_good h, Int.tdiv_eq_ediv_of_nonneg (by omega)]

theorem good_any (t : Int) (w : World) : Calls Tryz.prog 71 #[.int .i64 t] w fun e w' => e = .returned (.bool (goodB t)) ∧ w' = w := by
  by_cases h : 1 ≤ t
  · by_cases h2 : t ≤ 65536
    · rw [show goodB t = true from good_iff.2 ⟨h, h2⟩]
      go_enter Tryz.func71, Tryz.ntmps71
      go_wp2_with fail
      go_ret
      exact ⟨rfl, rfl⟩
    · rw [show goodB t = false by unfold goodB; simp; omega]
      go_enter Tryz.func71, Tryz.ntmps71
      go_wp2_with fail
      go_ret
      exact ⟨rfl, rfl⟩
  · rw [show goodB t = false by unfold goodB; simp; omega]
    go_enter Tryz.func71, Tryz.ntmps71
    go_wp2_with fail
    go_ret
    exact ⟨rfl, rfl⟩
theorem rright_any (t : Int) (w : World) : Calls Tryz.prog 77 #[.int .i64 t] w fun e w' => e = .returned (.bool (goodB t)) ∧ w' = w := by
  by_cases h : 1 ≤ t
  · by_cases h2 : t ≤ 65536
    · rw [show goodB t = true from good_iff.2 ⟨h, h2⟩]
      go_enter Tryz.func77, Tryz.ntmps77
      go_wp2_with fail
      go_ret
      exact ⟨rfl, rfl⟩
    · rw [show goodB t = false by unfold goodB; simp; omega]
      go_enter Tryz.func77, Tryz.ntmps77
      go_wp2_with fail
      go_ret
      exact ⟨rfl, rfl⟩
  · rw [show goodB t = false by unfold goodB; simp; omega]
    go_enter Tryz.func77, Tryz.ntmps77
    go_wp2_with fail
    go_ret
    exact ⟨rfl, rfl⟩

theorem stride_any (t : Int) (w : World) : Calls Tryz.prog 43 #[.int .i64 t] w fun e w' => e = .returned (.int .i64 (strI t)) ∧ w' = w := by
  have G := fun W => good_any t W
  cases h : goodB t
  · rw [h] at G
    rw [str_bad h]
    go_enter Tryz.func43, Tryz.ntmps43
    go_wp2_with (first | (go_at_call 71; (with_reducible refine (G _).mono ?_); rintro e w1 ⟨rfl, rfl⟩))
    go_ret
    exact ⟨rfl, rfl⟩
  · rw [h] at G
    have hb := str_bd t
    have ht := str_tdiv h
    have hg := good_iff.1 h
    rw [← ht] at hb ⊢
    have hz : ¬ t = 0 := by omega
    clear ht h
    obtain ⟨hb0, hb1⟩ := hb
    obtain ⟨hg0, hg1⟩ := hg
    go_enter Tryz.func43, Tryz.ntmps43
    go_wp2_with (first | (go_at_call 71; (with_reducible refine (G _).mono ?_); rintro e w1 ⟨rfl, rfl⟩))
    go_ret
    exact ⟨rfl, rfl⟩
theorem rstride_any (t : Int) (w : World) : Calls Tryz.prog 50 #[.int .i64 t] w fun e w' => e = .returned (.int .i64 (strI t)) ∧ w' = w := by
  have G := fun W => rright_any t W
  cases h : goodB t
  · rw [h] at G
    rw [str_bad h]
    go_enter Tryz.func50, Tryz.ntmps50
    go_wp2_with (first | (go_at_call 77; (with_reducible refine (G _).mono ?_); rintro e w1 ⟨rfl, rfl⟩))
    go_ret
    exact ⟨rfl, rfl⟩
  · rw [h] at G
    have hb := str_bd t
    have ht := str_tdiv h
    have hg := good_iff.1 h
    rw [← ht] at hb ⊢
    have hz : ¬ t = 0 := by omega
    clear ht h
    obtain ⟨hb0, hb1⟩ := hb
    obtain ⟨hg0, hg1⟩ := hg
    go_enter Tryz.func50, Tryz.ntmps50
    go_wp2_with (first | (go_at_call 77; (with_reducible refine (G _).mono ?_); rintro e w1 ⟨rfl, rfl⟩))
    go_ret
    exact ⟨rfl, rfl⟩
theorem charge_any (a b : Int) (w : World) (ha0 : -9223372036854775808 ≤ a) (ha1 : a ≤ 9223372036854775807) (hb0 : -9223372036854775808 ≤ b) (hb1 : b ≤ 9223372036854775807) :
    Calls Tryz.prog 75 #[.int .i64 a, .int .i64 b] w fun e w' => e = .returned (.tuple #[.int .i64 (toldI (a + b)), .bool (fitsB (a + b))]) ∧ w' = w := by
  have A := add_any a b w ha0 ha1 hb0 hb1
  generalize toldI (a + b) = x at *
  generalize fitsB (a + b) = y at *
  go_enter Tryz.func75, Tryz.ntmps75
  go_wp2_with (first | (go_at_call 92; (with_reducible refine A.mono ?_); rintro e w1 ⟨rfl, rfl⟩))
  go_ret2
  exact ⟨rfl, rfl⟩
theorem nearest_any (a b : Int) (w : World) (ha0 : -9223372036854775808 ≤ a) (ha1 : a ≤ 9223372036854775807) (hb0 : -9223372036854775808 ≤ b) (hb1 : b ≤ 9223372036854775807) :
    Calls Tryz.prog 102 #[.int .i64 a, .int .i64 b] w fun e w' => e = .returned (.int .i64 (nearI a b)) ∧ w' = w := by
  have A := add_any a b w ha0 ha1 hb0 hb1
  cases h : fitsB (a + b)
  · rw [h] at A
    generalize toldI (a + b) = x at *
    by_cases h2 : 0 < b
    · rw [show nearI a b = 9223372036854775807 by unfold nearI; rw [h, if_neg (by simp), if_pos h2]]
      clear h
      go_enter Tryz.func102, Tryz.ntmps102
      go_wp2_with (first | (go_at_call 92; (with_reducible refine A.mono ?_); rintro e w1 ⟨rfl, rfl⟩))
      go_ret
      exact ⟨rfl, rfl⟩
    · rw [show nearI a b = -9223372036854775808 by unfold nearI; rw [h, if_neg (by simp), if_neg h2]]
      clear h
      go_enter Tryz.func102, Tryz.ntmps102
      go_wp2_with (first | (go_at_call 92; (with_reducible refine A.mono ?_); rintro e w1 ⟨rfl, rfl⟩))
      go_ret
      exact ⟨rfl, rfl⟩
  · rw [show nearI a b = a + b from if_pos h]
    rw [h, show toldI (a + b) = a + b by simp [toldI, h]] at A
    clear h
    generalize a + b = x at *
    go_enter Tryz.func102, Tryz.ntmps102
    go_wp2_with (first | (go_at_call 92; (with_reducible refine A.mono ?_); rintro e w1 ⟨rfl, rfl⟩))
    go_ret
    exact ⟨rfl, rfl⟩
theorem near_bd {a b : Int} : -9223372036854775808 ≤ nearI a b ∧ nearI a b ≤ 9223372036854775807 := by
  unfold nearI
  split
  · rename_i h; unfold fitsB at h; simpa using h
  · split <;> omega
theorem enter_any (p n s : Int) (w : World) (ha0 : -9223372036854775808 ≤ n) (ha1 : n ≤ 9223372036854775807) (hb0 : -9223372036854775808 ≤ s) (hb1 : s ≤ 9223372036854775807) :
    Calls Tryz.prog 89 #[.int .i64 p, .int .i64 n, .int .i64 s] w fun e w' => e = .returned (.int .i64 (entI p n s)) ∧ w' = w := by
  have A := nearest_any n s w ha0 ha1 hb0 hb1
  unfold entI
  generalize nearI n s = m at *
  have C := clamp_any p n m w
  generalize clampI p n m = z at *
  go_enter Tryz.func89, Tryz.ntmps89
  go_wp2_with (first
    | (go_at_call 102; (with_reducible refine A.mono ?_); rintro e w1 ⟨rfl, rfl⟩)
    | (go_at_call 101; (with_reducible refine C.mono ?_); rintro e w1 ⟨rfl, rfl⟩))
  go_ret
  exact ⟨rfl, rfl⟩
theorem renter_any (p n s : Int) (w : World) (ha0 : -9223372036854775808 ≤ n) (ha1 : n ≤ 9223372036854775807) (hb0 : -9223372036854775808 ≤ s) (hb1 : s ≤ 9223372036854775807) :
    Calls Tryz.prog 79 #[.int .i64 p, .int .i64 n, .int .i64 s] w fun e w' => e = .returned (.int .i64 (entI p n s)) ∧ Below w.heap.size w w' := by
  have A := radd_any n s w ha0 ha1 hb0 hb1
  unfold entI
  cases h : fitsB (n + s)
  · rw [h] at A
    by_cases h2 : s < 0
    · rw [show nearI n s = -9223372036854775808 by unfold nearI; rw [h, if_neg (by simp), if_neg (by omega)]]
      have C := fun W => rclamp_any p n (-9223372036854775808) W
      clear h
      generalize toldI (n + s) = x at *
      generalize clampI p n (-9223372036854775808) = z at *
      go_enter Tryz.func79, Tryz.ntmps79
      go_wp2_with (first
        | (go_at_call 93; (with_reducible refine A.mono ?_); rintro e w1 ⟨rfl, b1⟩)
        | (go_at_call 94; (with_reducible refine (C _).mono ?_); rintro e w2 ⟨rfl, rfl⟩))
      go_ret
      exact ⟨rfl, b1⟩
    · have h3 : 0 < s := by
        by_cases e : s = 0
        · subst e
          unfold fitsB at h
          simp at h
          omega
        · omega
      rw [show nearI n s = 9223372036854775807 by unfold nearI; rw [h, if_neg (by simp), if_pos h3]]
      have C := fun W => rclamp_any p n 9223372036854775807 W
      clear h h3
      generalize toldI (n + s) = x at *
      generalize clampI p n 9223372036854775807 = z at *
      go_enter Tryz.func79, Tryz.ntmps79
      go_wp2_with (first
        | (go_at_call 93; (with_reducible refine A.mono ?_); rintro e w1 ⟨rfl, b1⟩)
        | (go_at_call 94; (with_reducible refine (C _).mono ?_); rintro e w2 ⟨rfl, rfl⟩))
      go_ret
      exact ⟨rfl, b1⟩
  · rw [show nearI n s = n + s from if_pos h]
    rw [h, show toldI (n + s) = n + s by simp [toldI, h]] at A
    clear h
    generalize n + s = x at *
    have C := fun W => rclamp_any p n x W
    generalize clampI p n x = z at *
    go_enter Tryz.func79, Tryz.ntmps79
    go_wp2_with (first
      | (go_at_call 93; (with_reducible refine A.mono ?_); rintro e w1 ⟨rfl, b1⟩)
      | (go_at_call 94; (with_reducible refine (C _).mono ?_); rintro e w2 ⟨rfl, rfl⟩))
    go_ret
    exact ⟨rfl, b1⟩
theorem rahead_any (p i q j : Int) (w : World) : Calls Tryz.prog 70 #[.int .i64 p, .int .i64 i, .int .i64 q, .int .i64 j] w fun e w' => e = .returned (.bool (aheadB p i q j)) ∧ w' = w := by
  by_cases h : p < q
  · rw [show aheadB p i q j = true by unfold aheadB; simp [h]]
    go_enter Tryz.func70, Tryz.ntmps70
    go_wp2_with fail
    go_ret
    exact ⟨rfl, rfl⟩
  · by_cases h2 : p = q
    · subst h2
      rw [show aheadB p i p j = decide (i < j) by unfold aheadB; simp]
      go_enter Tryz.func70, Tryz.ntmps70
      go_wp2_with fail
      go_ret
      exact ⟨rfl, rfl⟩
    · rw [show aheadB p i q j = false by unfold aheadB; simp [h, h2]]
      have h3 : (p == q) = false := by simpa using h2
      clear h2
      go_enter Tryz.func70, Tryz.ntmps70
      go_wp2_with fail
      go_ret
      exact ⟨rfl, rfl⟩
end Go.Proofs.YtlnfabjgcecebaaGreat.Str
