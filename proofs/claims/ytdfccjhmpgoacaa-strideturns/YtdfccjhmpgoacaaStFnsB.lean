/- Whether shares are near, as it is told. -/
import Derived.Test.YtdfccjhmpgoacaaStFns
namespace Go.Proofs.Ytdfccjhmpgoacaa.Str
open Go.RowKit Go.Proofs.Ytdfccjhmpgoacaa.Big

theorem within_no {n t m u k : Int} (h : (goodB t && goodB u && decide (0 ≤ k) && decide (k ≤ 64)) = false) : withB n t m u k = false := by unfold withB; rw [h]; rfl
theorem within_yes {n t m u k : Int} (h : (goodB t && goodB u && decide (0 ≤ k) && decide (k ≤ 64)) = true) : withB n t m u k = decide (absI (n * u - m * t) ≤ (k + 1) * (t + u)) := by unfold withB; rw [h]; rfl

theorem within_any (n t m u k : Int) (w : World) (hn0 : -9223372036854775808 ≤ n) (hn1 : n ≤ 9223372036854775807) (hm0 : -9223372036854775808 ≤ m) (hm1 : m ≤ 9223372036854775807) :
    Calls Try.prog 16 #[.int .i64 n, .int .i64 t, .int .i64 m, .int .i64 u, .int .i64 k] w fun e w' => e = .returned (.bool (withB n t m u k)) ∧ Below w.heap.size w w' := by
  have G1 := fun W => good_any t W
  have G2 := fun W => good_any u W
  cases h1 : goodB t
  · rw [within_no (by rw [h1]; rfl)]
    rw [h1] at G1
    go_enter Try.func16, Try.ntmps16
    go_wp2_with (first | (go_at_call 27; (with_reducible refine (G1 _).mono ?_); rintro e w1 ⟨rfl, rfl⟩))
    go_ret
    exact ⟨rfl, Below.refl _ _⟩
  cases h2 : goodB u
  · rw [within_no (by rw [h1, h2]; rfl)]
    rw [h1] at G1
    rw [h2] at G2
    go_enter Try.func16, Try.ntmps16
    go_wp2_with (first
      | (go_at_call 27; (with_reducible refine (G1 _).mono ?_); rintro e w1 ⟨rfl, rfl⟩)
      | (go_at_call 27; (with_reducible refine (G2 _).mono ?_); rintro e w1 ⟨rfl, rfl⟩))
    go_ret
    exact ⟨rfl, Below.refl _ _⟩
  by_cases h3 : k < 0
  · rw [within_no (by rw [h1, h2]; simp; omega)]
    rw [h1] at G1
    rw [h2] at G2
    go_enter Try.func16, Try.ntmps16
    go_wp2_with (first
      | (go_at_call 27; (with_reducible refine (G1 _).mono ?_); rintro e w1 ⟨rfl, rfl⟩)
      | (go_at_call 27; (with_reducible refine (G2 _).mono ?_); rintro e w1 ⟨rfl, rfl⟩))
    go_ret
    exact ⟨rfl, Below.refl _ _⟩
  by_cases h4 : 64 < k
  · rw [within_no (by rw [h1, h2]; simp; omega)]
    rw [h1] at G1
    rw [h2] at G2
    go_enter Try.func16, Try.ntmps16
    go_wp2_with (first
      | (go_at_call 27; (with_reducible refine (G1 _).mono ?_); rintro e w1 ⟨rfl, rfl⟩)
      | (go_at_call 27; (with_reducible refine (G2 _).mono ?_); rintro e w1 ⟨rfl, rfl⟩))
    go_ret
    exact ⟨rfl, Below.refl _ _⟩
  have hT := good_iff.1 h1
  have hU := good_iff.1 h2
  have N := fun W => near_any n t m u (k + 1) (t + u) W hn0 hn1 (by omega) (by omega) hm0 hm1 (by omega) (by omega) (by omega) (by omega) (by omega) (by omega)
  rw [within_yes (by rw [h1, h2]; simp; omega)]
  generalize decide (absI (n * u - m * t) ≤ (k + 1) * (t + u)) = z at *
  rw [h1] at G1
  rw [h2] at G2
  obtain ⟨hT0, hT1⟩ := hT
  obtain ⟨hU0, hU1⟩ := hU
  have h3' : 0 ≤ k := by omega
  clear h1 h2
  go_enter Try.func16, Try.ntmps16
  go_wp2_with (first
    | (go_at_call 27; (with_reducible refine (G1 _).mono ?_); rintro e w1 ⟨rfl, rfl⟩)
    | (go_at_call 27; (with_reducible refine (G2 _).mono ?_); rintro e w1 ⟨rfl, rfl⟩)
    | (go_at_call 32; (with_reducible refine (N _).mono ?_); rintro e w2 ⟨rfl, b2⟩))
  go_ret
  exact ⟨rfl, b2⟩
theorem rwithin_any (n t m u k : Int) (w : World) (hn0 : -9223372036854775808 ≤ n) (hn1 : n ≤ 9223372036854775807) (hm0 : -9223372036854775808 ≤ m) (hm1 : m ≤ 9223372036854775807) :
    Calls Try.prog 17 #[.int .i64 n, .int .i64 t, .int .i64 m, .int .i64 u, .int .i64 k] w fun e w' => e = .returned (.bool (withB n t m u k)) ∧ Below w.heap.size w w' := by
  have G1 := fun W => rright_any t W
  have G2 := fun W => rright_any u W
  by_cases h3 : k < 0
  · rw [within_no (by simp; omega)]
    go_enter Try.func17, Try.ntmps17
    go_wp2_with fail
    go_ret
    exact ⟨rfl, Below.refl _ _⟩
  have h3' : decide (k < 0) = false := by simp; omega
  by_cases h4 : 64 < k
  · rw [within_no (by simp; omega)]
    go_enter Try.func17, Try.ntmps17
    go_wp2_with fail
    go_ret
    exact ⟨rfl, Below.refl _ _⟩
  cases h1 : goodB t
  · rw [within_no (by rw [h1]; rfl)]
    rw [h1] at G1
    go_enter Try.func17, Try.ntmps17
    go_wp2_with (first | (go_at_call 28; (with_reducible refine (G1 _).mono ?_); rintro e w1 ⟨rfl, rfl⟩))
    go_ret
    exact ⟨rfl, Below.refl _ _⟩
  cases h2 : goodB u
  · rw [within_no (by rw [h1, h2]; rfl)]
    rw [h1] at G1
    rw [h2] at G2
    go_enter Try.func17, Try.ntmps17
    go_wp2_with (first
      | (go_at_call 28; (with_reducible refine (G1 _).mono ?_); rintro e w1 ⟨rfl, rfl⟩)
      | (go_at_call 28; (with_reducible refine (G2 _).mono ?_); rintro e w1 ⟨rfl, rfl⟩))
    go_ret
    exact ⟨rfl, Below.refl _ _⟩
  have hT := good_iff.1 h1
  have hU := good_iff.1 h2
  have N := fun W => rnear_any n t m u (k + 1) (t + u) W hn0 hn1 (by omega) (by omega) hm0 hm1 (by omega) (by omega) (by omega) (by omega) (by omega) (by omega)
  rw [within_yes (by rw [h1, h2]; simp; omega)]
  generalize decide (absI (n * u - m * t) ≤ (k + 1) * (t + u)) = z at *
  rw [h1] at G1
  rw [h2] at G2
  obtain ⟨hT0, hT1⟩ := hT
  obtain ⟨hU0, hU1⟩ := hU
  have h5 : 0 ≤ k := by omega
  clear h1 h2
  go_enter Try.func17, Try.ntmps17
  go_wp2_with (first
    | (go_at_call 28; (with_reducible refine (G1 _).mono ?_); rintro e w1 ⟨rfl, rfl⟩)
    | (go_at_call 28; (with_reducible refine (G2 _).mono ?_); rintro e w1 ⟨rfl, rfl⟩)
    | (go_at_call 33; (with_reducible refine (N _).mono ?_); rintro e w2 ⟨rfl, b2⟩))
  go_ret
  exact ⟨rfl, b2⟩
end Go.Proofs.Ytdfccjhmpgoacaa.Str
