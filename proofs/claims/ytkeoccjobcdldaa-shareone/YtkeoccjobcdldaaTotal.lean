/- Contracts of Next, Total and Fair. -/
import Derived.Test.YtkeoccjobcdldaaUse
namespace Go.Proofs.Ytkeoccjobcdldaa
open Go.RowKit

theorem sum_take {xs : List Int} {i : Nat} (h : i < xs.length) : (xs.take (i + 1)).sum = (xs.take i).sum + ix xs i := by
  rw [List.take_add_one, ix_get h, List.sum_append]
  simp
theorem half_div {x q r : Int} (h0 : 0 ≤ x) (h1 : x ≤ 4096) (h : Big.DivOf x 4294967296 q r) : q = 0 ∧ r = x := by
  obtain ⟨h2, h3⟩ := h
  omega

section
variable {w : World} {la xa : Option Addr} {lc xc : Nat} {ls : List (Int × Int)} {xs : List Int}

set_option maxHeartbeats 1000000 in
theorem snext_any (hl : CL w la ls) (hx : IX w xa xs) (ol : OkL ls) (ox : OkX xs) (he : xs.length = ls.length) (hg : goodB ls = true) (start : Int) (hs : I64 start) :
    Calls Try.prog 15 #[.slice la ls.length lc, .slice xa ls.length xc, .int .i64 start] w fun e w' => e = .returned (.int .i64 (lI (nextO ls xs (atN ls.length start)))) ∧ Below w.heap.size w w' := by
  obtain ⟨hP, hn⟩ := good_pos hg
  have G := good_any (lc := lc) hl (by omega)
  rw [hg] at G
  have NX := fun W (h : Below w.heap.size w W) => next_any (lc := lc) (xc := xc) (hl.below h) (hx.below h) ol ox he hn start hs
  rw [he] at NX
  clear he
  go_enter Try.func15, Try.ntmps15
  go_wp2_with (first
    | (go_at_call 12; (with_reducible refine G.mono ?_); rintro e w2 ⟨rfl, b2⟩)
    | (go_at_call 18; (with_reducible refine (NX _ b2).mono ?_); rintro e w3 ⟨rfl, b3⟩))
  go_ret
  exact ⟨rfl, below2 b2 b2.size b3⟩

set_option maxHeartbeats 1000000 in
theorem total_any (hx : IX w xa xs) (hb : ∀ i, i < xs.length → 0 ≤ ix xs i ∧ ix xs i ≤ 64) (hn : xs.length ≤ 64) :
    Calls Try.prog 16 #[.slice xa xs.length xc] w fun e w' => e = .returned (.int .i64 xs.sum) ∧ Below w.heap.size w w' := by
  have M := fun W => Big.mul_any 0 4294967296 W (by omega) (by omega) (by omega) (by omega)
  rw [show Big.toldI (0 * 4294967296) = 0 from rfl, show Big.fitsB (0 * 4294967296) = true from rfl] at M
  go_enter Try.func16, Try.ntmps16
  go_wp2_with fail
  go_loopw [17, 3, 4, 6, 7, 8, 9] (fun v s3 s4 _ _ _ _ wr => ∃ (i : Nat) (S : Int), i ≤ xs.length ∧ v = .int .i64 i ∧ s3 = .int .i64 0 ∧ s4 = .int .i64 S ∧ 0 ≤ S ∧ S ≤ 64 * (i : Int) ∧ Hid (S = (xs.take i).sum) ∧ Below w.heap.size w wr) (fun v _ _ _ _ _ _ _ => 64 - (intOf v).toNat)
  case atStart => exact ⟨0, 0, Nat.zero_le _, rfl, rfl, rfl, by omega, by omega, rfl, Below.refl _ _⟩
  case round =>
    obtain ⟨i, S, hi, rfl, rfl, rfl, s0, s1, hS, hbr⟩ := hrel
    by_cases hlt : i < xs.length
    · obtain ⟨bx, ox, e1, x0⟩ := hx.below hbr i hlt
      have hlt' : (i : Int) < (xs.length : Int) := by omega
      have hSn : Hid (S + ix xs i = (xs.take (i + 1)).sum) := by unfold Hid; rw [sum_take hlt, hS.out]
      obtain ⟨h0, h1⟩ := hb i hlt
      have D := fun W => Big.div_yes (ix xs i) 4294967296 W (by omega) (by omega) (by omega) (by omega) (by omega) (by omega)
      have DR := fun q r h => half_div (x := ix xs i) (q := q) (r := r) h0 (by omega) h
      subst e1
      clear hS hb
      generalize ix xs i = x at *
      go_wp2_with (first | (go_at_call 25; (with_reducible refine (D _).mono ?_); rintro e w2 ⟨q, r, rfl, hdo, b2⟩; obtain ⟨rfl, rfl⟩ := DR q r hdo; clear hdo))
      go_roundw
      case rel => exact ⟨i + 1, S + r, by omega, by simp, by simp, rfl, by omega, by omega, hSn, below2 hbr hbr.size b2⟩
      case measure =>
        simp [intOf]
        omega
    · obtain rfl : i = xs.length := by omega
      have hS' : Hid (S = xs.sum) := by unfold Hid; rw [hS.out, List.take_of_length_le (Nat.le_refl _)]
      have D := fun W => Big.div_yes S 4294967296 W (by omega) (by omega) (by omega) (by omega) (by omega) (by omega)
      have DR := fun q r h => half_div (x := S) (q := q) (r := r) s0 (by omega) h
      clear hS hb
      go_wp2_with (first
        | (go_at_call 25; (with_reducible refine (D _).mono ?_); rintro e w2 ⟨q, r, rfl, hdo, b2⟩; obtain ⟨rfl, rfl⟩ := DR q r hdo; clear hdo)
        | (go_at_call 26; (with_reducible refine (M _).mono ?_); rintro e w3 ⟨rfl, b3⟩))
      go_ret
      exact ⟨by rw [← hS'.out]; rfl, below2 (below2 hbr hbr.size b2) (Nat.le_trans hbr.size b2.size) b3⟩

set_option maxHeartbeats 1000000 in
theorem fair_any (hl : CL w la ls) (hx : IX w xa xs) (ol : OkL ls) (he : xs.length = ls.length) (hn : ls.length ≤ 1000) (cores start : Int) (hs : I64 start) :
    Calls Try.prog 17 #[.int .i64 cores, .slice la ls.length lc, .int .i64 start, .slice xa ls.length xc] w fun e w' => e = .returned (.bool (decide (xs = divA cores ls start))) ∧ Below w.heap.size w w' := by
  have D := divide_any (lc := lc) hl ol hn cores start hs
  have E := fun W ya yc (h : Below w.heap.size w W) (hy : IX W ya (divA cores ls start)) => equal_any (xc := xc) (yc := yc) (hx.below h) hy (by omega)
  rw [he] at E
  clear he
  generalize divA cores ls start = ys at *
  go_enter Try.func17, Try.ntmps17
  go_wp2_with (first
    | (go_at_call 10; (with_reducible refine D.mono ?_); rintro e w2 ⟨ya, yc, rfl, hy, _, b2⟩)
    | (go_at_call 27; (with_reducible refine (E _ _ _ b2 hy).mono ?_); rintro e w3 ⟨rfl, b3⟩))
  go_ret
  exact ⟨rfl, below2 b2 b2.size b3⟩
end
end Go.Proofs.Ytkeoccjobcdldaa
