/- The walk of ShareOne. -/
import Derived.Test.YtkeoccjobcdldaaTotal
namespace Go.Proofs.Ytkeoccjobcdldaa
open Go.RowKit

/-- With a core more: the same, with one more for the one that is next. -/
theorem divA_succ {cores : Int} {ls : List (Int × Int)} {start : Int} (h0 : 0 ≤ cores) (h1 : cores ≤ 63) (hg : goodB ls = true) :
    divA (cores + 1) ls start = give (divA cores ls start) (nextO ls (divA cores ls start) (atN ls.length start)) := by
  rw [divA_good (by omega) (by omega) hg, divA_good h0 (by omega) hg, show (cores + 1).toNat = cores.toNat + 1 by omega]
  rfl

section
variable {w : World} {la : Option Addr} {lc : Nat} {ls : List (Int × Int)}

set_option maxRecDepth 100000 in
set_option maxHeartbeats 4000000 in
theorem one_any (hl : CL w la ls) (ol : OkL ls) (cores start : Int) (hs : I64 start) :
    Calls Try.prog 6 #[.int .i64 cores, .slice la ls.length lc, .int .i64 start] w fun e w' => e = .returned (.bool true) ∧ Below w.heap.size w w' := by
  by_cases c2 : 64 < ls.length
  · have c2' : (64 : Int) < (ls.length : Int) := by omega
    go_enter Try.func6, Try.ntmps6
    go_wp2_with (first | (go_at_call 8; (with_reducible refine (lives_any _).mono ?_); rintro e w2 ⟨rfl, b2⟩))
    go_ret
    exact ⟨rfl, b2⟩
  have c2' : decide ((64 : Int) < (ls.length : Int)) = false := by simp; omega
  by_cases c3 : cores < 0
  · clear c2
    go_enter Try.func6, Try.ntmps6
    go_wp2_with (first | (go_at_call 8; (with_reducible refine (lives_any _).mono ?_); rintro e w2 ⟨rfl, b2⟩))
    go_ret
    exact ⟨rfl, b2⟩
  have c3' : decide (cores < 0) = false := by simp; omega
  by_cases c4 : 63 < cores
  · clear c2 c3
    go_enter Try.func6, Try.ntmps6
    go_wp2_with (first | (go_at_call 8; (with_reducible refine (lives_any _).mono ?_); rintro e w2 ⟨rfl, b2⟩))
    go_ret
    exact ⟨rfl, b2⟩
  have c4' : decide (63 < cores) = false := by simp; omega
  have RG := rgood_any (lc := lc) hl (by omega)
  cases hg : goodB ls
  · rw [hg] at RG
    clear c2 c3 c4
    go_enter Try.func6, Try.ntmps6
    go_wp2_with (first
      | (go_at_call 13; (with_reducible refine RG.mono ?_); rintro e w2 ⟨rfl, b2⟩)
      | (go_at_call 8; (with_reducible refine (lives_any _).mono ?_); rintro e w3 ⟨rfl, b3⟩))
    go_ret
    exact ⟨rfl, below2 b2 b2.size b3⟩
  · rw [hg] at RG
    obtain ⟨hP, hn64⟩ := good_pos hg
    have hc0 : 0 ≤ cores := by omega
    have hc1 : cores ≤ 63 := by omega
    obtain ⟨hI, D⟩ := divide_good (lc := lc) hl ol hg (show 0 ≤ cores by omega) (show cores ≤ 64 by omega) hs
    obtain ⟨hI2, D2⟩ := divide_good (lc := lc) hl ol hg (show 0 ≤ cores + 1 by omega) (show cores + 1 ≤ 64 by omega) hs
    have hsuc := divA_succ (start := start) hc0 hc1 hg
    have HX : ∀ i, i < ls.length → 0 ≤ ix (divA cores ls start) i ∧ ix (divA cores ls start) i ≤ 64 := fun i hi => ⟨hI.lo i hi, Int.le_trans (hI.hi i hi) (hP i hi).2.2.2⟩
    have hlen : Hid ((divA cores ls start).length = ls.length) := hI.len
    have hlen2 : Hid ((divA (cores + 1) ls start).length = ls.length) := hI2.len
    have oX : OkX (divA cores ls start) := fun i hi => by
      have h := HX i (by rw [← hlen.out]; exact hi)
      exact ⟨by omega, by omega⟩
    have N := fun W xa xc (h : Below w.heap.size w W) (hx : IX W xa (divA cores ls start)) => snext_any (lc := lc) (xc := xc) (hl.below h) hx ol oX hlen.out hg start hs
    have T := fun W xa xc (hx : IX W xa (divA cores ls start)) => total_any (xc := xc) hx (fun i hi => HX i (by rw [← hlen.out]; exact hi)) (by rw [hlen.out]; exact hn64)
    rw [hlen.out] at T
    have F := fun W xa xc (h : Below w.heap.size w W) (hx : IX W xa (divA cores ls start)) => fair_any (lc := lc) (xc := xc) (hl.below h) hx ol hlen.out (by omega) cores start hs
    have F2 := fun W xa xc (h : Below w.heap.size w W) (hx : IX W xa (divA cores ls start)) => fair_any (lc := lc) (xc := xc) (hl.below h) hx ol hlen.out (by omega) (cores + 1) start hs
    rw [show decide (divA cores ls start = divA cores ls start) = true from decide_eq_true rfl] at F
    cases ho : nextO ls (divA cores ls start) (atN ls.length start) with
    | none =>
      rw [ho] at hsuc
      have HY : ∀ i, ix (divA (cores + 1) ls start) i = ix (divA cores ls start) i := fun i => by rw [hsuc]; rfl
      have N : ∀ W xa xc, Below w.heap.size w W → IX W xa (divA cores ls start) → Calls Try.prog 15 #[.slice la ls.length lc, .slice xa ls.length xc, .int .i64 start] W fun e w' => e = .returned (.int .i64 (-1)) ∧ Below W.heap.size W w' := fun W xa xc h hx => by
        have h2 := N W xa xc h hx
        rw [ho] at h2
        exact h2
      clear hI hI2 hsuc ho hP hg oX c2 c3 c4
      generalize divA cores ls start = xs at *
      generalize divA (cores + 1) ls start = ys at *
      go_enter Try.func6, Try.ntmps6
      go_wp2_with (first
        | (go_at_call 13; (with_reducible refine RG.mono ?_); rintro e w2 ⟨rfl, b2⟩)
        | (go_at_call 10; (with_reducible refine (D _ b2).mono ?_); rintro e w3 ⟨xa, xc, rfl, hx3, _, b3'⟩; have b3 := below2 b2 b2.size b3')
        | (go_at_call 10; (with_reducible refine (D2 _ b3).mono ?_); rintro e w4 ⟨ya, yc, rfl, hy4, _, b4'⟩; have b4 := below2 b3 b3.size b4'; have hx4 := hx3.below b4')
        | (go_at_call 15; (with_reducible refine (N _ _ _ b4 hx4).mono ?_); rintro e w5 ⟨rfl, b5'⟩; have b5 := below2 b4 b4.size b5'; have hx5 := hx4.below b5'; have hy5 := hy4.below b5'))
      have hb5 : Hid (Below w.heap.size w w5) := b5
      clear D D2 RG b2 b3 b4 b5 b3' b4' b5' hx3 hx4 hy4 N
      go_loopw [56, 10, 11] (fun v _ _ wr => ∃ i : Nat, i ≤ ls.length ∧ v = .int .i64 i ∧ Below w5.heap.size w5 wr) (fun v _ _ _ => 64 - (intOf v).toNat)
      case atStart => exact ⟨0, Nat.zero_le _, rfl, Below.refl _ _⟩
      case round =>
        obtain ⟨i, hi, rfl, hbr⟩ := hrel
        have hbw : Hid (Below w.heap.size w wr) := below2 hb5.out hb5.out.size hbr
        by_cases hlt : i < ls.length
        · obtain ⟨bx, ox, e1, x0⟩ := hx5.below hbr i (by rw [hlen.out]; exact hlt)
          obtain ⟨by_, oy, e2, y0⟩ := hy5.below hbr i (by rw [hlen2.out]; exact hlt)
          have hlt' : (i : Int) < (ls.length : Int) := by omega
          obtain ⟨h0, h1⟩ := HX i hlt
          have YY := HY i
          have TT := T wr xa xc (hx5.below hbr)
          subst e1
          subst e2
          rw [YY] at y0
          have hne : ((i : Int) == -1) = false := by simp
          clear YY TT F F2 T HX HY
          go_wp2_with fail
          go_roundw
          case rel => exact ⟨i + 1, by omega, by simp, hbr⟩
          case measure =>
            simp [intOf]
            omega
        · obtain rfl : i = ls.length := by omega
          clear T F2
          go_wp2_with (first
            | (go_at_call 17; (with_reducible refine (F _ _ _ hbw.out (hx5.below hbr)).mono ?_); rintro e w6 ⟨rfl, b6⟩)
            | (go_at_call 8; (with_reducible refine (lives_any _).mono ?_); rintro e w9 ⟨rfl, b9⟩))
          go_ret
          exact ⟨rfl, below2 (below2 hbw.out hbw.out.size b6) (Nat.le_trans hbw.out.size b6.size) b9⟩
    | some m =>
      rw [ho] at hsuc
      have hs' : atN ls.length start < ls.length := by
        rcases atN_ok ls start with h | h
        · exact h
        · have e := List.eq_nil_of_length_eq_zero h
          rw [e] at ho
          cases ho
      obtain ⟨m1, m2, _⟩ := next_some hP hs' ho
      have hsl := sum_lt ls _ m hI.len hI.hi m1 m2
      have hsum : Hid ((divA cores ls start).sum = cores) := by
        have h := hI.sum
        unfold Hid
        rw [show ((cores.toNat : Nat) : Int) = cores by omega] at h
        omega
      have HY : ∀ i, ix (divA (cores + 1) ls start) i = if i = m then ix (divA cores ls start) m + 1 else ix (divA cores ls start) i := fun i => by
        rw [hsuc]
        exact ix_set (by rw [hlen.out]; exact m1)
      have hneq : decide (divA cores ls start = divA (cores + 1) ls start) = false := decide_eq_false (fun h => by
        have h2 := HY m
        rw [if_pos rfl, ← h] at h2
        omega)
      rw [hneq] at F2
      have N : ∀ W xa xc, Below w.heap.size w W → IX W xa (divA cores ls start) → Calls Try.prog 15 #[.slice la ls.length lc, .slice xa ls.length xc, .int .i64 start] W fun e w' => e = .returned (.int .i64 (m : Int)) ∧ Below W.heap.size W w' := fun W xa xc h hx => by
        have h2 := N W xa xc h hx
        rw [ho] at h2
        exact h2
      clear hI hI2 hsuc ho hP hg oX c2 c3 c4 hneq hsl m2 hs'
      generalize divA cores ls start = xs at *
      generalize divA (cores + 1) ls start = ys at *
      go_enter Try.func6, Try.ntmps6
      go_wp2_with (first
        | (go_at_call 13; (with_reducible refine RG.mono ?_); rintro e w2 ⟨rfl, b2⟩)
        | (go_at_call 10; (with_reducible refine (D _ b2).mono ?_); rintro e w3 ⟨xa, xc, rfl, hx3, _, b3'⟩; have b3 := below2 b2 b2.size b3')
        | (go_at_call 10; (with_reducible refine (D2 _ b3).mono ?_); rintro e w4 ⟨ya, yc, rfl, hy4, _, b4'⟩; have b4 := below2 b3 b3.size b4'; have hx4 := hx3.below b4')
        | (go_at_call 15; (with_reducible refine (N _ _ _ b4 hx4).mono ?_); rintro e w5 ⟨rfl, b5'⟩; have b5 := below2 b4 b4.size b5'; have hx5 := hx4.below b5'; have hy5 := hy4.below b5'))
      have hb5 : Hid (Below w.heap.size w w5) := b5
      clear D D2 RG b2 b3 b4 b5 b3' b4' b5' hx3 hx4 hy4 N
      go_loopw [56, 10, 11] (fun v _ _ wr => ∃ i : Nat, i ≤ ls.length ∧ v = .int .i64 i ∧ Below w5.heap.size w5 wr) (fun v _ _ _ => 64 - (intOf v).toNat)
      case atStart => exact ⟨0, Nat.zero_le _, rfl, Below.refl _ _⟩
      case round =>
        obtain ⟨i, hi, rfl, hbr⟩ := hrel
        have hbw : Hid (Below w.heap.size w wr) := below2 hb5.out hb5.out.size hbr
        by_cases hlt : i < ls.length
        · obtain ⟨bx, ox, e1, x0⟩ := hx5.below hbr i (by rw [hlen.out]; exact hlt)
          obtain ⟨by_, oy, e2, y0⟩ := hy5.below hbr i (by rw [hlen2.out]; exact hlt)
          have hlt' : (i : Int) < (ls.length : Int) := by omega
          obtain ⟨h0, h1⟩ := HX i hlt
          have YY := HY i
          have TT := T wr xa xc (hx5.below hbr)
          subst e1
          subst e2
          by_cases him : i = m
          · subst him
            rw [if_pos rfl] at YY
            rw [YY] at y0
            rw [hsum.out] at TT
            clear YY F F2 T HX HY
            have hne : ((i : Int) == (i : Int)) = true := by simp
            go_wp2_with (first | (go_at_call 16; (with_reducible refine TT.mono ?_); rintro e w6 ⟨rfl, b6⟩; have y6 := cell_on b6 y0))
            go_roundw
            case rel => exact ⟨i + 1, by omega, by simp, below2 hbr hbr.size b6⟩
            case measure =>
              simp [intOf]
              omega
          · rw [if_neg him] at YY
            rw [YY] at y0
            have hne : ((i : Int) == (m : Int)) = false := by rw [beq_eq_false_iff_ne]; omega
            clear YY TT F F2 T HX HY him
            go_wp2_with fail
            go_roundw
            case rel => exact ⟨i + 1, by omega, by simp, hbr⟩
            case measure =>
              simp [intOf]
              omega
        · obtain rfl : i = ls.length := by omega
          have hmn : decide ((m : Int) < 0) = false := by simp
          clear T
          go_wp2_with (first
            | (go_at_call 17; (with_reducible refine (F _ _ _ hbw.out (hx5.below hbr)).mono ?_); rintro e w6 ⟨rfl, b6⟩; have b6w := below2 hbw.out hbw.out.size b6; have hx6 := (hx5.below hbr).below b6)
            | (go_at_call 17; (with_reducible refine (F2 _ _ _ b6w hx6).mono ?_); rintro e w7 ⟨rfl, b7⟩; have b7w := below2 b6w b6w.size b7)
            | (go_at_call 8; (with_reducible refine (lives_any _).mono ?_); rintro e w9 ⟨rfl, b9⟩))
          go_ret
          exact ⟨rfl, below2 b7w b7w.size b9⟩
end
end Go.Proofs.Ytkeoccjobcdldaa
