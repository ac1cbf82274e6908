/- The walk of ShareAll. -/
import Derived.Test.YtkeoccjobcdldaaUse
namespace Go.Proofs.Ytkeoccjobcdldaa
open Go.RowKit

theorem sum_take {xs : List Int} {i : Nat} (h : i < xs.length) : (xs.take (i + 1)).sum = (xs.take i).sum + ix xs i := by
  rw [List.take_add_one, ix_get h, List.sum_append]
  simp
theorem dsum_take {ls : List (Int × Int)} {i : Nat} (h : i < ls.length) : dsum (ls.take (i + 1)) = dsum (ls.take i) + dm ls i := by
  unfold dsum
  rw [List.take_add_one, cl_get h, List.map_append, List.sum_append]
  simp

section
variable {w : World} {la : Option Addr} {lc : Nat} {ls : List (Int × Int)}

set_option maxRecDepth 100000 in
set_option maxHeartbeats 4000000 in
theorem all_any (hl : CL w la ls) (ol : OkL ls) (cores start : Int) (hs : I64 start) :
    Calls Try.prog 4 #[.int .i64 cores, .slice la ls.length lc, .int .i64 start] w fun e w' => e = .returned (.bool true) ∧ Below w.heap.size w w' := by
  by_cases c2 : 64 < ls.length
  · have c2' : (64 : Int) < (ls.length : Int) := by omega
    go_enter Try.func4, Try.ntmps4
    go_wp2_with (first | (go_at_call 8; (with_reducible refine (lives_any _).mono ?_); rintro e w2 ⟨rfl, b2⟩))
    go_ret
    exact ⟨rfl, b2⟩
  have c2' : decide ((64 : Int) < (ls.length : Int)) = false := by simp; omega
  by_cases c3 : cores < 0
  · clear c2
    go_enter Try.func4, Try.ntmps4
    go_wp2_with (first | (go_at_call 8; (with_reducible refine (lives_any _).mono ?_); rintro e w2 ⟨rfl, b2⟩))
    go_ret
    exact ⟨rfl, b2⟩
  have c3' : decide (cores < 0) = false := by simp; omega
  by_cases c4 : 64 < cores
  · clear c2 c3
    go_enter Try.func4, Try.ntmps4
    go_wp2_with (first | (go_at_call 8; (with_reducible refine (lives_any _).mono ?_); rintro e w2 ⟨rfl, b2⟩))
    go_ret
    exact ⟨rfl, b2⟩
  have c4' : decide (64 < cores) = false := by simp; omega
  have RG := rgood_any (lc := lc) hl (by omega)
  cases hg : goodB ls
  · rw [hg] at RG
    clear c2 c3 c4
    go_enter Try.func4, Try.ntmps4
    go_wp2_with (first
      | (go_at_call 13; (with_reducible refine RG.mono ?_); rintro e w2 ⟨rfl, b2⟩)
      | (go_at_call 8; (with_reducible refine (lives_any _).mono ?_); rintro e w3 ⟨rfl, b3⟩))
    go_ret
    exact ⟨rfl, below2 b2 b2.size b3⟩
  · rw [hg] at RG
    obtain ⟨hP, hn64⟩ := good_pos hg
    obtain ⟨hI, D⟩ := divide_good (lc := lc) hl ol hg (show 0 ≤ cores by omega) (show cores ≤ 64 by omega) hs
    have HX : ∀ i, i < ls.length → 0 ≤ ix (divA cores ls start) i ∧ ix (divA cores ls start) i ≤ dm ls i ∧ dm ls i ≤ 64 := fun i hi => ⟨hI.lo i hi, hI.hi i hi, (hP i hi).2.2.2⟩
    have hlen : Hid ((divA cores ls start).length = ls.length) := hI.len
    have hsum : Hid ((divA cores ls start).sum = cores ∧ cores ≤ dsum ls ∨ (divA cores ls start).sum = dsum ls ∧ dsum ls ≤ cores) := by
      have h := hI.sum
      rw [show ((cores.toNat : Nat) : Int) = cores by omega] at h
      exact h
    have hc0 : 0 ≤ cores := by omega
    have hc1 : cores ≤ 64 := by omega
    clear hI hg hP c2 c3 c4
    generalize divA cores ls start = xs at *
    go_enter Try.func4, Try.ntmps4
    go_wp2_with (first
      | (go_at_call 13; (with_reducible refine RG.mono ?_); rintro e w2 ⟨rfl, b2⟩)
      | (go_at_call 10; (with_reducible refine (D _ b2).mono ?_); rintro e w3 ⟨xa, xc, rfl, hx3, _, b3⟩))
    have hb3 : Hid (Below w.heap.size w w3) := below2 b2 b2.size b3
    clear D RG b2 b3
    go_loopw [35, 8, 9, 10, 11] (fun v s8 s9 _ _ wr => ∃ (i : Nat) (S T : Int), i ≤ ls.length ∧ v = .int .i64 i ∧ s8 = .int .i64 S ∧ s9 = .int .i64 T ∧ 0 ≤ S ∧ S ≤ 64 * (i : Int) ∧ 0 ≤ T ∧ T ≤ 64 * (i : Int) ∧ Hid (S = (xs.take i).sum) ∧ Hid (T = dsum (ls.take i)) ∧ Below w3.heap.size w3 wr) (fun v _ _ _ _ _ => 64 - (intOf v).toNat)
    case atStart => exact ⟨0, 0, 0, Nat.zero_le _, rfl, rfl, rfl, by omega, by omega, by omega, by omega, rfl, rfl, Below.refl _ _⟩
    case round =>
      obtain ⟨i, S, T, hi, rfl, rfl, rfl, s0, s1, t0, t1, hS, hT, hbr⟩ := hrel
      have hbw : Hid (Below w.heap.size w wr) := below2 hb3.out hb3.out.size hbr
      by_cases hlt : i < ls.length
      · obtain ⟨b, o, e0, c0, c1⟩ := hl.below hbw.out i hlt
        obtain ⟨bx, ox, e1, x0⟩ := hx3.below hbr i (by rw [hlen.out]; exact hlt)
        have hlt' : (i : Int) < (ls.length : Int) := by omega
        have hSn : Hid (S + ix xs i = (xs.take (i + 1)).sum) := by unfold Hid; rw [sum_take (by rw [hlen.out]; exact hlt), hS.out]
        have hTn : Hid (T + dm ls i = dsum (ls.take (i + 1))) := by unfold Hid; rw [dsum_take hlt, hT.out]
        obtain ⟨h0, h1, h2⟩ := HX i hlt
        have q0 : decide (ix xs i < 0) = false := by simp; omega
        have q1 : decide (dm ls i < ix xs i) = false := by simp; omega
        subst e0
        subst e1
        clear hS hT HX
        go_wp2_with fail
        have y0 : (wr.alloc (Obj.cells #[Value.int IntKind.i64 (wt ls i), Value.int IntKind.i64 (dm ls i)] 30)).cell? ⟨bx, ox + i, none⟩ = some (.int .i64 (ix xs i)) := cell_on ((Below.refl _ _).alloc (Nat.le_refl _) _) x0
        have y1 : (wr.alloc (Obj.cells #[Value.int IntKind.i64 (wt ls i), Value.int IntKind.i64 (dm ls i)] 30)).cell? ⟨wr.heap.size, 1, none⟩ = some (.int .i64 (dm ls i)) := by simp [go_sem]
        have hbv : Hid (Below w3.heap.size w3 (wr.alloc (Obj.cells #[Value.int IntKind.i64 (wt ls i), Value.int IntKind.i64 (dm ls i)] 30))) := hbr.alloc hbr.size _
        generalize wr.alloc (Obj.cells #[Value.int IntKind.i64 (wt ls i), Value.int IntKind.i64 (dm ls i)] 30) = V at *
        generalize wr.heap.size = g at *
        go_quiet (fail)
        go_wp2_with fail
        go_roundw
        case rel => exact ⟨i + 1, S + ix xs i, T + dm ls i, by omega, by simp, rfl, rfl, by omega, by omega, by omega, by omega, hSn, hTn, below_drewN hbv.out _⟩
        case measure =>
          simp [intOf]
          omega
      · obtain rfl : i = ls.length := by omega
        have hS' : S = xs.sum := by rw [hS.out, List.take_of_length_le (by rw [hlen.out]; exact Nat.le_refl _)]
        have hT' : T = dsum ls := by rw [hT.out, List.take_of_length_le (Nat.le_refl _)]
        have hfin : S = cores ∧ cores ≤ T ∨ S = T ∧ T ≤ cores := by rw [hS', hT']; exact hsum.out
        clear hS' hT' hS hT hsum
        by_cases hct : cores < T
        · obtain rfl : S = cores := by omega
          clear hfin
          go_wp2_with (first | (go_at_call 8; (with_reducible refine (lives_any _).mono ?_); rintro e w9 ⟨rfl, b9⟩))
          go_ret
          exact ⟨rfl, below2 hbw.out hbw.out.size b9⟩
        · obtain rfl : S = T := by omega
          clear hfin
          have hct' : decide (cores < S) = false := by simp; omega
          go_wp2_with (first | (go_at_call 8; (with_reducible refine (lives_any _).mono ?_); rintro e w9 ⟨rfl, b9⟩))
          go_ret
          exact ⟨rfl, below2 hbw.out hbw.out.size b9⟩
end
end Go.Proofs.Ytkeoccjobcdldaa
