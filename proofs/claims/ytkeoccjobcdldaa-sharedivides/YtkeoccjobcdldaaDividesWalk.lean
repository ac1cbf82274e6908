/- The walk of ShareDivides. -/
import Derived.Test.YtkeoccjobcdldaaRDiv
namespace Go.Proofs.Ytkeoccjobcdldaa
open Go.RowKit

section
variable {w : World} {la : Option Addr} {lc : Nat} {ls : List (Int × Int)}

theorem divA_len (cores : Int) (ls : List (Int × Int)) (start : Int) : (divA cores ls start).length ≤ ls.length := by
  unfold divA
  split
  · rw [divL_len]; exact Nat.le_refl _
  · exact Nat.zero_le _

set_option maxRecDepth 100000 in
set_option maxHeartbeats 4000000 in
theorem divides_any (hl : CL w la ls) (ol : OkL ls) (cores start : Int) (hs : I64 start) :
    Calls Try.prog 3 #[.int .i64 cores, .slice la ls.length lc, .int .i64 start] w fun e w' => e = .returned (.bool true) ∧ Below w.heap.size w w' := by
  by_cases c2 : 70 < ls.length
  · have c2' : (70 : Int) < (ls.length : Int) := by omega
    go_enter Try.func3, Try.ntmps3
    go_wp2_with (first | (go_at_call 8; (with_reducible refine (lives_any _).mono ?_); rintro e w2 ⟨rfl, b2⟩))
    go_ret
    exact ⟨rfl, b2⟩
  have c2' : decide ((70 : Int) < (ls.length : Int)) = false := by simp; omega
  have D := divide_any (lc := lc) hl ol (by omega) cores start hs
  have R := fun W (h : Below w.heap.size w W) => rdivide_any (lc := lc) (hl.below h) ol (by omega) cores start
  have G := fun W (h : Below w.heap.size w W) => good_any (lc := lc) (hl.below h) (by omega)
  have RG := fun W (h : Below w.heap.size w W) => rgood_any (lc := lc) (hl.below h) (by omega)
  have hlen := divA_len cores ls start
  have E := fun W xa xc ya yc (hx : IX W xa (divA cores ls start)) (hy : IX W ya (divA cores ls start)) => ints_any (xc := xc) (yc := yc) hx hy (by omega)
  rw [show decide (divA cores ls start = divA cores ls start) = true from decide_eq_true rfl] at E
  clear c2 hlen
  generalize divA cores ls start = ys at *
  generalize goodB ls = g at *
  go_enter Try.func3, Try.ntmps3
  go_wp2_with (first
    | (go_at_call 10; (with_reducible refine D.mono ?_); rintro e w2 ⟨xa, xc, rfl, hx2, _, b2⟩)
    | (go_at_call 11; (with_reducible refine (R _ b2).mono ?_); rintro e w3 ⟨ya, yc, rfl, hy3, _, b3'⟩; have b3 := below2 b2 b2.size b3'; have hx3 := hx2.below b3')
    | (go_at_call 9; (with_reducible refine (E _ _ _ _ _ hx3 hy3).mono ?_); rintro e w4 ⟨rfl, b4'⟩; have b4 := below2 b3 b3.size b4')
    | (go_at_call 12; (with_reducible refine (G _ b4).mono ?_); rintro e w5 ⟨rfl, b5'⟩; have b5 := below2 b4 b4.size b5')
    | (go_at_call 13; (with_reducible refine (RG _ b5).mono ?_); rintro e w6 ⟨rfl, b6'⟩; have b6 := below2 b5 b5.size b6')
    | (go_at_call 8; (with_reducible refine (lives_any _).mono ?_); rintro e w7 ⟨rfl, b7⟩))
  go_ret
  exact ⟨rfl, below2 b6 b6.size b7⟩
end
end Go.Proofs.Ytkeoccjobcdldaa
