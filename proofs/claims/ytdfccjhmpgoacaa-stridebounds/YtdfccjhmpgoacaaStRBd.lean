/- The document's Bound. -/
import Derived.Test.YtdfccjhmpgoacaaStSum
namespace Go.Proofs.Ytdfccjhmpgoacaa.Str
open Go.RowKit Go.Proofs.Ytdfccjhmpgoacaa.Big

section
variable {w : World} {xa : Option Addr} {xc : Nat} {xs : List Int}
set_option maxHeartbeats 1000000 in
theorem rbound_any (hx : IX w xa xs) (hm : xs.length ≤ maxLen) (i : Int) :
    Calls Try.prog 22 #[.slice xa xs.length xc, .int .i64 i] w fun e w' => e = .returned (.int .i64 (bndI xs i)) ∧ w' = w := by
  have O := rall_any (w := w) (xc := xc) hx hm i
  cases h : oneB xs i
  · rw [h] at O
    rw [show bndI xs i = 0 by unfold bndI; rw [h]; rfl]
    go_enter Try.func22, Try.ntmps22
    go_wp2_with (first | (go_at_call 38; (with_reducible refine O.mono ?_); rintro e w1 ⟨rfl, rfl⟩))
    go_ret
    exact ⟨rfl, rfl⟩
  · rw [h] at O
    rw [show bndI xs i = sumG (oftI (strI (ix xs i.toNat))) xs xs.length from if_pos h]
    obtain ⟨⟨hn, hi0, hi1⟩, hg⟩ := one_iff.1 h
    obtain ⟨k, rfl⟩ := Int.eq_ofNat_of_zero_le hi0
    have hk : k < xs.length := by omega
    rw [show (k : Int).toNat = k by omega]
    obtain ⟨b0, o0, hxa, ck⟩ := hx k hk
    have S := fun W => rstride_any (ix xs k) W
    have hs := str_bd (ix xs k)
    generalize hxk : ix xs k = x at *
    replace hxk := Hid.mk hxk
    generalize strI x = s at *
    obtain ⟨hs0, hs1⟩ := hs
    have hbd := sum_bd (g := oftI s) (xs := xs) (K := 65538) (fun j hj => by have := oft_bd hs0 hs1 (all_ix hg hj); unfold oftI; omega)
    have hi2 : (k : Int) < (xs.length : Int) := hi1
    subst hxa
    clear h hm
    go_enter Try.func22, Try.ntmps22
    go_wp2_with (first | (go_at_call 38; (with_reducible refine O.mono ?_); rintro e w1 ⟨rfl, hw⟩; subst w1))
    clear O
    go_loopw [14, 5, 7] (fun v t _ wr => ∃ j : Nat, j ≤ xs.length ∧ v = .int .i64 j ∧ t = .int .i64 (sumG (oftI s) xs j) ∧ Hid (wr = w)) (fun v _ _ _ => 40 - (intOf v).toNat)
    case atStart => exact ⟨0, Nat.zero_le _, rfl, rfl, rfl⟩
    case round =>
      obtain ⟨j, hj, rfl, rfl, hw⟩ := hrel
      have hw' : wr = w := hw
      subst hw'
      clear hw
      by_cases hlt : j < xs.length
      · obtain ⟨b, o, e0, c0⟩ := hx j hlt
        cases e0
        have hlt' : (j : Int) < (xs.length : Int) := by omega
        have S2 := fun W => rstride_any (ix xs j) W
        have h1 := hbd j (by omega)
        have hgj := all_ix hg hlt
        have h2 := oft_bd hs0 hs1 hgj
        have h4 := str_pos hgj
        have HN : Hid (sumG (oftI s) xs (j + 1) = sumG (oftI s) xs j + (2 + s / strI (ix xs j))) := rfl
        have h3 : (j : Int) * 65538 ≤ 32 * 65538 := by omega
        generalize ix xs j = y at *
        generalize strI y = u at *
        generalize sumG (oftI s) xs j = t at *
        rw [← Int.tdiv_eq_ediv_of_nonneg hs0] at h2 HN
        obtain ⟨h1a, h1b⟩ := h1
        obtain ⟨h2a, h2b⟩ := h2
        obtain ⟨h4a, h4b⟩ := h4
        have hz : ¬ u = 0 := by omega
        have hz' : (u == 0) = false := by simpa using hz
        clear hbd hgj
        go_wp2_with (first
          | (go_at_call 11; (with_reducible refine (S _).mono ?_); rintro e w1 ⟨rfl, rfl⟩)
          | (go_at_call 11; (with_reducible refine (S2 _).mono ?_); rintro e w1 ⟨rfl, rfl⟩))
        go_roundw
        case rel => exact ⟨j + 1, by omega, by simp, by rw [HN.out], Hid.mk (by first | rfl | trivial)⟩
        case measure =>
          simp [intOf]
          omega
      · obtain rfl : j = xs.length := by omega
        go_wp2_with fail
        go_ret
        exact ⟨rfl, rfl⟩
end
end Go.Proofs.Ytdfccjhmpgoacaa.Str
