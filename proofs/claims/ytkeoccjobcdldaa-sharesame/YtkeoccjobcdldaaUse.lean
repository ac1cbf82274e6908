/- Divide of claims that may be; the place at which the round begins. -/
import Derived.Test.YtkeoccjobcdldaaLives
import Derived.Test.YtkeoccjobcdldaaRGood
namespace Go.Proofs.Ytkeoccjobcdldaa
open Go.RowKit

theorem divide_good {w : World} {la : Option Addr} {lc : Nat} {ls : List (Int × Int)} (hl : CL w la ls) (ol : OkL ls) (hg : goodB ls = true) {cores start : Int} (h0 : 0 ≤ cores) (h1 : cores ≤ 64) (hs : I64 start) :
    Inv ls (atN ls.length start) cores.toNat (divA cores ls start) ∧
    ∀ W, Below w.heap.size w W → Calls Try.prog 10 #[.int .i64 cores, .slice la ls.length lc, .int .i64 start] W fun e w' => ∃ a c, e = .returned (.slice a ls.length c) ∧ IX w' a (divA cores ls start) ∧ (ls.length ≤ c ∧ ∀ b o, a = some ⟨b, o, none⟩ → W.heap.size ≤ b) ∧ Below W.heap.size W w' := by
  obtain ⟨hP, hn⟩ := good_pos hg
  have hI : Inv ls (atN ls.length start) cores.toNat (divA cores ls start) := by
    rw [divA_good h0 h1 hg]
    exact divL_inv hP (atN_ok ls start) _
  refine ⟨hI, fun W hW => ?_⟩
  have D := divide_any (lc := lc) (hl.below hW) ol (by omega) cores start hs
  have hlen := hI.len
  exact D.mono (fun e w' ⟨a, c, e1, h1, h2, h3⟩ => ⟨a, c, by rw [e1, hlen], h1, ⟨by rw [← hlen]; exact h2.1, h2.2⟩, h3⟩)

theorem rem_neg {n : Nat} {start : Int} (hn : 0 < n) (h : start.tmod (n : Int) < 0) : start.tmod (n : Int) + (n : Int) = ((atN n start : Nat) : Int) := by
  have h1 := Int.emod_nonneg start (show (n : Int) ≠ 0 by omega)
  have h2 := Int.emod_lt_of_pos start (show (0 : Int) < n by omega)
  have h3 := Big.natAbs_tmod_lt start (show ¬ (n : Int) = 0 by omega)
  have h4 := Int.tdiv_mul_add_tmod start (n : Int)
  have h5 : start % (n : Int) = start.tmod (n : Int) + n := by
    have e : start = start.tmod (n : Int) + n + (start.tdiv n - 1) * n := by rw [Int.sub_mul]; omega
    have e2 : start % (n : Int) = (start.tmod (n : Int) + n + (start.tdiv n - 1) * n) % (n : Int) := by rw [← e]
    rw [e2, Int.add_mul_emod_self_right]
    exact Int.emod_eq_of_lt (by omega) (by omega)
  unfold atN
  omega
theorem rem_nn {n : Nat} {start : Int} (hn : 0 < n) (h : ¬ start.tmod (n : Int) < 0) : start.tmod (n : Int) = ((atN n start : Nat) : Int) := by
  have h3 := Big.natAbs_tmod_lt start (show ¬ (n : Int) = 0 by omega)
  have h4 := Int.tdiv_mul_add_tmod start (n : Int)
  have h5 : start % (n : Int) = start.tmod (n : Int) := by
    have e : start = start.tmod (n : Int) + start.tdiv n * n := by omega
    have e2 : start % (n : Int) = (start.tmod (n : Int) + start.tdiv n * n) % (n : Int) := by rw [← e]
    rw [e2, Int.add_mul_emod_self_right]
    exact Int.emod_eq_of_lt (by omega) (by omega)
  unfold atN
  omega
theorem tmod_bounds {n : Nat} (start : Int) (hn : 0 < n) : -(n : Int) < start.tmod (n : Int) ∧ start.tmod (n : Int) < n := by
  have h3 := Big.natAbs_tmod_lt start (show ¬ (n : Int) = 0 by omega)
  omega
theorem pos_rem {n s j : Nat} (hs : s < n) (hj : j < n) : Int.tmod ((j : Int) - (s : Int) + (n : Int)) (n : Int) = ((pos n s j : Nat) : Int) := by
  rw [Int.tmod_eq_emod_of_nonneg (by omega)]
  unfold pos
  split
  · rw [show (j : Int) - s + n = ((j - s : Nat) : Int) + n by omega, Int.add_emod_right, Int.emod_eq_of_lt (by omega) (by omega)]
  · rw [Int.emod_eq_of_lt (by omega) (by omega)]; omega
end Go.Proofs.Ytkeoccjobcdldaa
