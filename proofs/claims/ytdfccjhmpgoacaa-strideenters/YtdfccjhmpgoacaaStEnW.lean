/- The walk of StrideEnters. -/
import Derived.Test.YtdfccjhmpgoacaaStFns
namespace Go.Proofs.Ytdfccjhmpgoacaa.Str
open Go.RowKit Go.Proofs.Ytdfccjhmpgoacaa.Big

theorem enters_any (p n t : Int) (w : World) (hp0 : -9223372036854775808 ≤ p) (hp1 : p ≤ 9223372036854775807) (hn0 : -9223372036854775808 ≤ n) (hn1 : n ≤ 9223372036854775807) (ht0 : 0 ≤ t) (ht1 : t ≤ 65535) :
    Calls Try.prog 7 #[.int .i64 p, .int .i64 n, .int .u16 t] w fun e w' => e = .returned (.bool true) ∧ w' = w := by
  have hg : goodB (1 + t) = true := good_iff.2 ⟨by omega, by omega⟩
  have S := fun W => stride_any (1 + t) W
  have hs := str_pos hg
  generalize strI (1 + t) = s at *
  obtain ⟨hs0, hs1⟩ := hs
  clear hg
  by_cases h : 4611686018427387904 < n
  · go_enter Try.func7, Try.ntmps7
    go_wp2_with (first
      | (go_at_call 10; (with_reducible refine (S _).mono ?_); rintro e w1 ⟨rfl, rfl⟩)
      | (go_at_call 18; (with_reducible refine (lives_any _).mono ?_); rintro e w1 ⟨rfl, rfl⟩))
    go_ret
    exact ⟨rfl, rfl⟩
  have h' : decide (4611686018427387904 < n) = false := by simp; omega
  have hnear : nearI n s = n + s := by unfold nearI; rw [if_pos (by unfold fitsB; simp; omega)]
  by_cases h1 : p < n
  · have E1 := fun W => enter_any p n s W hn0 hn1 (by omega) (by omega)
    have E2 := fun W => enter_any n n s W hn0 hn1 (by omega) (by omega)
    rw [show entI p n s = n by unfold entI clampI; rw [hnear, if_pos (by omega), if_neg (by omega)]] at E1
    rw [show entI n n s = n by unfold entI clampI; rw [hnear, if_pos (by omega), if_neg (by omega)]] at E2
    have h2 : (n == p) = false := by simp; omega
    clear hnear
    go_enter Try.func7, Try.ntmps7
    go_wp2_with (first
      | (go_at_call 10; (with_reducible refine (S _).mono ?_); rintro e w1 ⟨rfl, rfl⟩)
      | (go_at_call 12; (with_reducible refine (E1 _).mono ?_); rintro e w1 ⟨rfl, rfl⟩)
      | (go_at_call 12; (with_reducible refine (E2 _).mono ?_); rintro e w1 ⟨rfl, rfl⟩)
      | (go_at_call 18; (with_reducible refine (lives_any _).mono ?_); rintro e w1 ⟨rfl, rfl⟩))
    go_ret
    exact ⟨rfl, rfl⟩
  have h1' : n ≤ p := by omega
  by_cases h3 : p ≤ n + s
  · have E1 := fun W => enter_any p n s W hn0 hn1 (by omega) (by omega)
    rw [show entI p n s = p by
      unfold entI clampI
      rw [hnear]
      repeat (first | omega | split)] at E1
    clear hnear h1
    go_enter Try.func7, Try.ntmps7
    go_wp2_with (first
      | (go_at_call 10; (with_reducible refine (S _).mono ?_); rintro e w1 ⟨rfl, rfl⟩)
      | (go_at_call 12; (with_reducible refine (E1 _).mono ?_); rintro e w1 ⟨rfl, rfl⟩)
      | (go_at_call 18; (with_reducible refine (lives_any _).mono ?_); rintro e w1 ⟨rfl, rfl⟩))
    go_ret
    exact ⟨rfl, rfl⟩
  · have E1 := fun W => enter_any p n s W hn0 hn1 (by omega) (by omega)
    have E2 := fun W => enter_any (n + s) n s W hn0 hn1 (by omega) (by omega)
    rw [show entI p n s = n + s by
      unfold entI clampI
      rw [hnear]
      repeat (first | omega | split)] at E1
    rw [show entI (n + s) n s = n + s by
      unfold entI clampI
      rw [hnear]
      repeat (first | omega | split)] at E2
    have h2 : (n + s == p) = false := by simp; omega
    have h4 : decide (p < n) = false := by simp; omega
    clear hnear h1
    go_enter Try.func7, Try.ntmps7
    go_wp2_with (first
      | (go_at_call 10; (with_reducible refine (S _).mono ?_); rintro e w1 ⟨rfl, rfl⟩)
      | (go_at_call 12; (with_reducible refine (E1 _).mono ?_); rintro e w1 ⟨rfl, rfl⟩)
      | (go_at_call 12; (with_reducible refine (E2 _).mono ?_); rintro e w1 ⟨rfl, rfl⟩)
      | (go_at_call 18; (with_reducible refine (lives_any _).mono ?_); rintro e w1 ⟨rfl, rfl⟩))
    go_ret
    exact ⟨rfl, rfl⟩
theorem enters_b (p n t : Int) (w : World) (hp0 : -9223372036854775808 ≤ p) (hp1 : p ≤ 9223372036854775807) (hn0 : -9223372036854775808 ≤ n) (hn1 : n ≤ 9223372036854775807) (ht0 : 0 ≤ t) (ht1 : t ≤ 65535) :
    Calls Try.prog 7 #[.int .i64 p, .int .i64 n, .int .u16 t] w fun e w' => e = .returned (.bool true) ∧ Below w.heap.size w w' :=
  (enters_any p n t w hp0 hp1 hn0 hn1 ht0 ht1).mono (fun _ _ ⟨h1, h2⟩ => ⟨h1, h2 ▸ Below.refl _ _⟩)
end Go.Proofs.Ytdfccjhmpgoacaa.Str
