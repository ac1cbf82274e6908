/- Sums over lists of tickets; the most picks up to a thread's next one. -/
import Derived.Test.YtdfccjhmpgoacaaStOne
namespace Go.Proofs.Ytdfccjhmpgoacaa.Str
open Go.RowKit Go.Proofs.Ytdfccjhmpgoacaa.Big

/-- What the first j are worth, added. -/
def sumG (g : Int → Int) (xs : List Int) : Nat → Int
  | 0 => 0
  | j + 1 => sumG g xs j + g (ix xs j)
theorem sum_bd {g : Int → Int} {xs : List Int} {K : Int} (h : ∀ j, j < xs.length → 0 ≤ g (ix xs j) ∧ g (ix xs j) ≤ K) : ∀ j : Nat, j ≤ xs.length → 0 ≤ sumG g xs j ∧ sumG g xs j ≤ (j : Int) * K
  | 0, _ => by simp [sumG]
  | j + 1, hj => by
    have ih := sum_bd h j (by omega)
    have e := h j (by omega)
    have k : ((j + 1 : Nat) : Int) * K = (j : Int) * K + K := by rw [Int.natCast_add, Int.add_mul]; simp
    rw [k]
    show 0 ≤ sumG g xs j + g (ix xs j) ∧ sumG g xs j + g (ix xs j) ≤ _
    omega
/-- How many picks one more thread may get, at the most. -/
def oftI (own t : Int) : Int := 2 + own / strI t
def bndI (xs : List Int) (i : Int) : Int := if oneB xs i = true then sumG (oftI (strI (ix xs i.toNat))) xs xs.length else 0
theorem oft_bd {own t : Int} (ho0 : 0 ≤ own) (ho1 : own ≤ 1099511627776) (ht : goodB t = true) : 0 ≤ own / strI t ∧ own / strI t ≤ 65536 := by
  have hs := str_pos ht
  refine ⟨Int.ediv_nonneg ho0 (by omega), ?_⟩
  have : own / strI t < 65537 := by
    rw [Int.ediv_lt_iff_lt_mul (by omega)]
    omega
  omega

theorem often_any {w : World} {X : Nat} {own : Int} (hX : w.cell? ⟨X, 0, none⟩ = some (.int .i64 own)) (ho0 : 0 ≤ own) (ho1 : own ≤ 1099511627776) (t : Int) (ht : goodB t = true) :
    Calls Try.prog 42 #[.int .i64 t, .pointer (some ⟨X, 0, none⟩)] w fun e w' => e = .returned (.int .i64 (oftI own t)) ∧ ∃ k, w' = w.drewN k := by
  have S := fun W => stride_any t W
  have hs := str_pos ht
  have hb := oft_bd ho0 ho1 ht
  unfold oftI
  generalize strI t = s at *
  rw [← Int.tdiv_eq_ediv_of_nonneg ho0] at hb ⊢
  obtain ⟨hs0, hs1⟩ := hs
  obtain ⟨hb0, hb1⟩ := hb
  have hz : ¬ s = 0 := by omega
  have hz' : (s == 0) = false := by simpa using hz
  go_enter Try.func42, Try.ntmps42
  go_wp2_with fail
  go_quiet (first | (go_at_call 10; exact Calls.quiet_of ((S _).mono (fun _ _ ⟨h1, h2⟩ => ⟨h1, 0, h2⟩))))
  go_wp2_with fail
  go_ret
  exact ⟨rfl, _, rfl⟩
section
variable {w : World} {xa : Option Addr} {xc : Nat} {xs : List Int}

theorem self_any (t : Int) (w : World) : Calls Try.prog 36 #[.int .i64 t] w fun e w' => e = .returned (.int .i64 t) ∧ w' = w := by
  go_enter Try.func36, Try.ntmps36
  go_wp2_with fail
  go_ret
  exact ⟨rfl, rfl⟩
set_option maxHeartbeats 1000000 in
theorem sumo_any {X : Nat} {own : Int} (hX : w.cell? ⟨X, 0, none⟩ = some (.int .i64 own)) (ho0 : 0 ≤ own) (ho1 : own ≤ 1099511627776) (hx : IX w xa xs) (hg : allB xs = true) (hn : xs.length ≤ 32) :
    Calls Try.prog 35 #[.func (.func 42) #[] #[.pointer (some ⟨X, 0, none⟩)], .slice xa xs.length xc] w fun e w' => e = .returned (.int .i64 (sumG (oftI own) xs xs.length)) ∧ Drawn w w' := by
  have hbd := sum_bd (g := oftI own) (xs := xs) (K := 65538) (fun j hj => by have := oft_bd ho0 ho1 (all_ix hg hj); unfold oftI; omega)
  go_enter Try.func35, Try.ntmps35
  go_wp2_with fail
  go_loopw [10, 5, 7] (fun v t _ wr => ∃ j : Nat, j ≤ xs.length ∧ v = .int .i64 j ∧ t = .int .i64 (sumG (oftI own) xs j) ∧ Drawn w wr) (fun v _ _ _ => 40 - (intOf v).toNat)
  case atStart => exact ⟨0, Nat.zero_le _, rfl, rfl, Drawn.refl _⟩
  case round =>
    obtain ⟨j, hj, rfl, rfl, hw⟩ := hrel
    by_cases hlt : j < xs.length
    · obtain ⟨b, o, rfl, c0⟩ := hx j hlt
      replace c0 := (Drawn.but (S := []) hw).cell c0
      have hX' := (Drawn.but (S := []) hw).cell hX
      have hlt' : (j : Int) < (xs.length : Int) := by omega
      have CL := often_any hX' ho0 ho1 (ix xs j) (all_ix hg hlt)
      have h1 := hbd j (by omega)
      have h2 : 0 ≤ oftI own (ix xs j) ∧ oftI own (ix xs j) ≤ 65538 := by have := oft_bd ho0 ho1 (all_ix hg hlt); unfold oftI; omega
      have HN : Hid (sumG (oftI own) xs (j + 1) = sumG (oftI own) xs j + oftI own (ix xs j)) := rfl
      have h3 : (j : Int) * 65538 ≤ 32 * 65538 := by omega
      generalize oftI own (ix xs j) = y at *
      generalize ix xs j = x at *
      generalize sumG (oftI own) xs j = s at *
      obtain ⟨h1a, h1b⟩ := h1
      obtain ⟨h2a, h2b⟩ := h2
      clear hbd hX
      go_wp2_with (first | (go_at_call 42; (with_reducible refine CL.mono ?_); rintro e w1 ⟨rfl, hd⟩))
      go_roundw
      case rel => exact ⟨j + 1, by omega, by simp, by rw [HN.out], hw.trans hd⟩
      case measure =>
        simp [intOf]
        omega
    · obtain rfl : j = xs.length := by omega
      go_wp2_with fail
      go_ret
      exact ⟨rfl, hw⟩
set_option maxHeartbeats 1000000 in
theorem sums_any (hx : IX w xa xs) (hg : allB xs = true) (hn : xs.length ≤ 32) :
    Calls Try.prog 35 #[.func (.func 36) #[] #[], .slice xa xs.length xc] w fun e w' => e = .returned (.int .i64 (sumG id xs xs.length)) ∧ w' = w := by
  have hbd := sum_bd (g := id) (xs := xs) (K := 65536) (fun j hj => by have := good_iff.1 (all_ix hg hj); simp only [id]; omega)
  go_enter Try.func35, Try.ntmps35
  go_wp2_with fail
  go_loopw [10, 5, 7] (fun v t _ wr => ∃ j : Nat, j ≤ xs.length ∧ v = .int .i64 j ∧ t = .int .i64 (sumG id xs j) ∧ Hid (wr = w)) (fun v _ _ _ => 40 - (intOf v).toNat)
  case atStart => exact ⟨0, Nat.zero_le _, rfl, rfl, rfl⟩
  case round =>
    obtain ⟨j, hj, rfl, rfl, hw⟩ := hrel
    have hw' : wr = w := hw
    subst hw'
    clear hw
    by_cases hlt : j < xs.length
    · obtain ⟨b, o, rfl, c0⟩ := hx j hlt
      have hlt' : (j : Int) < (xs.length : Int) := by omega
      have h1 := hbd j (by omega)
      have h2 := good_iff.1 (all_ix hg hlt)
      have HN : Hid (sumG id xs (j + 1) = sumG id xs j + ix xs j) := rfl
      have h3 : (j : Int) * 65536 ≤ 32 * 65536 := by omega
      generalize ix xs j = x at *
      generalize sumG id xs j = s at *
      obtain ⟨h1a, h1b⟩ := h1
      obtain ⟨h2a, h2b⟩ := h2
      have CL := fun W => self_any x W
      clear hbd
      go_wp2_with (first | (go_at_call 36; (with_reducible refine (CL _).mono ?_); rintro e w1 ⟨rfl, rfl⟩))
      go_roundw
      case rel => exact ⟨j + 1, by omega, by simp, by rw [HN.out], Hid.mk (by first | rfl | trivial)⟩
      case measure =>
        simp [intOf]
        omega
    · obtain rfl : j = xs.length := by omega
      go_wp2_with fail
      go_ret
      exact ⟨rfl, rfl⟩
set_option maxHeartbeats 1000000 in
theorem bound_any (hx : IX w xa xs) (i : Int) :
    Calls Try.prog 21 #[.slice xa xs.length xc, .int .i64 i] w fun e w' => e = .returned (.int .i64 (bndI xs i)) ∧ Below w.heap.size w w' := by
  have O := fun W h => isone_any (w := W) (xc := xc) (hx.below h) i
  cases h : oneB xs i
  · rw [h] at O
    rw [show bndI xs i = 0 by unfold bndI; rw [h]; rfl]
    go_enter Try.func21, Try.ntmps21
    go_wp2_with (first | (go_at_call 34; (with_reducible refine (O _ (Below.refl _ _)).mono ?_); rintro e w1 ⟨rfl, rfl⟩))
    go_ret
    exact ⟨rfl, Below.refl _ _⟩
  · rw [h] at O
    rw [show bndI xs i = sumG (oftI (strI (ix xs i.toNat))) xs xs.length from if_pos h]
    obtain ⟨⟨hn, hi0, hi1⟩, hg⟩ := one_iff.1 h
    obtain ⟨k, rfl⟩ := Int.eq_ofNat_of_zero_le hi0
    have hk : k < xs.length := by omega
    rw [show (k : Int).toNat = k by omega]
    obtain ⟨b, o, rfl, c0⟩ := hx k hk
    have S := fun W => stride_any (ix xs k) W
    have hs := str_bd (ix xs k)
    generalize ix xs k = x at *
    generalize strI x = s at *
    obtain ⟨hs0, hs1⟩ := hs
    have SM := fun W X (h : Below w.heap.size w W) (hX : W.cell? ⟨X, 0, none⟩ = some (.int .i64 s)) => sumo_any (w := W) (xc := xc) (X := X) hX hs0 hs1 (hx.below h) hg hn
    generalize sumG (oftI s) xs xs.length = z at *
    have bA : ∀ o : Obj, Below w.heap.size w (w.alloc o) := fun o => (Below.refl _ _).alloc (Nat.le_refl _) _
    clear h hg hn hx
    go_enter Try.func21, Try.ntmps21
    go_wp2_with (first
      | (go_at_call 34; (with_reducible refine (O _ (Below.refl _ _)).mono ?_); rintro e w1 ⟨rfl, hw⟩; subst w1)
      | (go_at_call 10; (with_reducible refine (S _).mono ?_); rintro e w1 ⟨rfl, hw⟩; subst w1)
      | (go_at_call 35; (with_reducible refine (SM _ _ (bA _) (by simp [go_sem])).mono ?_); rintro e w1 ⟨rfl, hd⟩))
    go_ret
    exact ⟨rfl, (bA _).trans ((Drawn.but (S := []) hd).to_below.mono (by simp))⟩
end
end Go.Proofs.Ytdfccjhmpgoacaa.Str
