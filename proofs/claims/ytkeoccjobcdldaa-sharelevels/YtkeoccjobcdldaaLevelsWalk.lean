/- The walk of ShareLevels. -/
import Derived.Test.YtkeoccjobcdldaaUse
import Derived.Test.YtkeoccjobcdldaaBigCross
namespace Go.Proofs.Ytkeoccjobcdldaa
open Go.RowKit

theorem lev_cmp {ls : List (Int × Int)} {s k : Nat} {xs : List Int} (h : Inv ls s k xs) {i j : Nat} (hi : i < ls.length) (hj : j < ls.length) (hij : i ≠ j) (hu : ix xs i < dm ls i) (hx : 0 < ix xs j) :
    Big.cmpI ((ix xs j - 1) * wt ls i) (ix xs i * wt ls j) = -1 ∨ Big.cmpI ((ix xs j - 1) * wt ls i) (ix xs i * wt ls j) = 0 ∧ (pos ls.length s j : Int) < (pos ls.length s i : Int) := by
  rcases h.lev i j hi hj hij hu hx with h1 | ⟨h1, h2⟩
  · refine .inl ?_
    unfold Big.cmpI
    rw [if_neg (by omega), if_pos h1]
  · refine .inr ⟨?_, by omega⟩
    unfold Big.cmpI
    rw [if_pos h1]

section
variable {w : World} {la : Option Addr} {lc : Nat} {ls : List (Int × Int)}

set_option maxRecDepth 100000 in
set_option maxHeartbeats 4000000 in
theorem levels_any (hl : CL w la ls) (ol : OkL ls) (cores start : Int) (hs : I64 start) :
    Calls Try.prog 5 #[.int .i64 cores, .slice la ls.length lc, .int .i64 start] w fun e w' => e = .returned (.bool true) ∧ Below w.heap.size w w' := by
  by_cases c1 : ls.length = 0
  · have c1' : (ls.length : Int) = 0 := by omega
    clear c1
    go_enter Try.func5, Try.ntmps5
    go_wp2_with (first | (go_at_call 8; (with_reducible refine (lives_any _).mono ?_); rintro e w2 ⟨rfl, b2⟩))
    go_ret
    exact ⟨rfl, b2⟩
  have c1' : ((ls.length : Int) == 0) = false := by rw [beq_eq_false_iff_ne]; omega
  by_cases c2 : 64 < ls.length
  · have c2' : (64 : Int) < (ls.length : Int) := by omega
    clear c1
    go_enter Try.func5, Try.ntmps5
    go_wp2_with (first | (go_at_call 8; (with_reducible refine (lives_any _).mono ?_); rintro e w2 ⟨rfl, b2⟩))
    go_ret
    exact ⟨rfl, b2⟩
  have c2' : decide ((64 : Int) < (ls.length : Int)) = false := by simp; omega
  by_cases c3 : cores < 0
  · clear c1 c2
    go_enter Try.func5, Try.ntmps5
    go_wp2_with (first | (go_at_call 8; (with_reducible refine (lives_any _).mono ?_); rintro e w2 ⟨rfl, b2⟩))
    go_ret
    exact ⟨rfl, b2⟩
  have c3' : decide (cores < 0) = false := by simp; omega
  by_cases c4 : 64 < cores
  · clear c1 c2 c3
    go_enter Try.func5, Try.ntmps5
    go_wp2_with (first | (go_at_call 8; (with_reducible refine (lives_any _).mono ?_); rintro e w2 ⟨rfl, b2⟩))
    go_ret
    exact ⟨rfl, b2⟩
  have c4' : decide (64 < cores) = false := by simp; omega
  have RG := rgood_any (lc := lc) hl (by omega)
  cases hg : goodB ls
  · rw [hg] at RG
    clear c1 c2 c3 c4
    go_enter Try.func5, Try.ntmps5
    go_wp2_with (first
      | (go_at_call 13; (with_reducible refine RG.mono ?_); rintro e w2 ⟨rfl, b2⟩)
      | (go_at_call 8; (with_reducible refine (lives_any _).mono ?_); rintro e w3 ⟨rfl, b3⟩))
    go_ret
    exact ⟨rfl, below2 b2 b2.size b3⟩
  · rw [hg] at RG
    obtain ⟨hP, hn64⟩ := good_pos hg
    obtain ⟨hI, D⟩ := divide_good (lc := lc) hl ol hg (show 0 ≤ cores by omega) (show cores ≤ 64 by omega) hs
    have hsn := atN_lt (n := ls.length) start (by omega)
    have hrn := fun h => rem_neg (n := ls.length) (start := start) (by omega) h
    have hrp := fun h => rem_nn (n := ls.length) (start := start) (by omega) h
    obtain ⟨t0, t1⟩ := tmod_bounds (n := ls.length) start (by omega)
    have PR := fun j hj => pos_rem (n := ls.length) (s := atN ls.length start) (j := j) hsn hj
    have LC := fun i j hi hj hij hu hx => lev_cmp hI (i := i) (j := j) hi hj hij hu hx
    have HX : ∀ i, i < ls.length → 0 ≤ ix (divA cores ls start) i ∧ ix (divA cores ls start) i ≤ 64 := fun i hi => by
      have := hI.lo i hi; have := hI.hi i hi; have := (hP i hi).2.2.2
      omega
    have hlen : Hid ((divA cores ls start).length = ls.length) := hI.len
    clear hI hg
    generalize divA cores ls start = xs at *
    generalize atN ls.length start = s at *
    generalize htm : start.tmod (ls.length : Int) = tm at *
    by_cases hneg : tm < 0
    all_goals
      have htt : Hid (tm < 0 → tm + (ls.length : Int) = (s : Int)) := hrn
      have htp : Hid (¬ tm < 0 → tm = (s : Int)) := hrp
      clear hrn hrp c1 c2 c3 c4
      go_enter Try.func5, Try.ntmps5
      go_wp2_with (first
        | (go_at_call 13; (with_reducible refine RG.mono ?_); rintro e w2 ⟨rfl, b2⟩)
        | (go_at_call 10; (with_reducible refine (D _ b2).mono ?_); rintro e w3 ⟨xa, xc, rfl, hx3, _, b3⟩))
      first
        | (rw [htt.out hneg])
        | (obtain rfl := htp.out hneg)
      have hb3 : Hid (Below w.heap.size w w3) := below2 b2 b2.size b3
      clear D RG b2 b3
      go_loopw [58, 9, 10] (fun v _ _ wr => ∃ i : Nat, i ≤ ls.length ∧ v = .int .i64 i ∧ Below w3.heap.size w3 wr) (fun v _ _ _ => 64 - (intOf v).toNat)
      case atStart => exact ⟨0, Nat.zero_le _, rfl, Below.refl _ _⟩
      case round =>
        obtain ⟨i, hi, rfl, hbr⟩ := hrel
        have hbw : Hid (Below w.heap.size w wr) := below2 hb3.out hb3.out.size hbr
        by_cases hlt : i < ls.length
        · obtain ⟨b, o, e0, c0, c1⟩ := hl.below hbw.out i hlt
          have hlt' : (i : Int) < (ls.length : Int) := by omega
          subst e0
          go_wp2_with fail
          have k0 : (wr.alloc (Obj.cells #[Value.int IntKind.i64 (wt ls i), Value.int IntKind.i64 (dm ls i)] 30)).cell? ⟨wr.heap.size, 0, none⟩ = some (.int .i64 (wt ls i)) := by simp [go_sem]
          have k1 : (wr.alloc (Obj.cells #[Value.int IntKind.i64 (wt ls i), Value.int IntKind.i64 (dm ls i)] 30)).cell? ⟨wr.heap.size, 1, none⟩ = some (.int .i64 (dm ls i)) := by simp [go_sem]
          have hb4 : Hid (Below w3.heap.size w3 (wr.alloc (Obj.cells #[Value.int IntKind.i64 (wt ls i), Value.int IntKind.i64 (dm ls i)] 30))) := hbr.alloc hbr.size _
          generalize wr.alloc (Obj.cells #[Value.int IntKind.i64 (wt ls i), Value.int IntKind.i64 (dm ls i)] 30) = W4 at *
          generalize wr.heap.size = g at *
          clear hbw hbr c0 c1
          go_loopw [65, 11, 12, 13, 14] (fun v _ _ _ _ wj => ∃ j : Nat, j ≤ ls.length ∧ v = .int .i64 j ∧ Below W4.heap.size W4 wj) (fun v _ _ _ _ _ => 64 - (intOf v).toNat)
          case atStart => exact ⟨0, Nat.zero_le _, rfl, Below.refl _ _⟩
          case round =>
            obtain ⟨j, hj, rfl, hbj⟩ := hrel
            have hbx : Hid (Below w3.heap.size w3 wr) := below2 hb4.out hb4.out.size hbj
            have hbw : Hid (Below w.heap.size w wr) := below2 hb3.out hb3.out.size hbx.out
            by_cases hjt : j < ls.length
            · obtain ⟨b', o', e0, c0, c1⟩ := hl.below hbw.out j hjt
              cases e0
              obtain ⟨bx, ox, e1, x0⟩ := hx3.below hbx.out i (by rw [hlen.out]; exact hlt)
              obtain ⟨bx', ox', e2, x1⟩ := hx3.below hbx.out j (by rw [hlen.out]; exact hjt)
              subst e1
              cases e2
              have m0 := cell_on hbj k0
              have m1 := cell_on hbj k1
              have hjt' : (j : Int) < (ls.length : Int) := by omega
              obtain ⟨xi0, xi1⟩ := HX i hlt
              obtain ⟨xj0, xj1⟩ := HX j hjt
              go_wp2_with fail
              have hV : Below wr.heap.size wr (wr.alloc (Obj.cells #[Value.int IntKind.i64 (wt ls j), Value.int IntKind.i64 (dm ls j)] 30)) := (Below.refl _ _).alloc (Nat.le_refl _) _
              have hbV : Hid (Below W4.heap.size W4 (wr.alloc (Obj.cells #[Value.int IntKind.i64 (wt ls j), Value.int IntKind.i64 (dm ls j)] 30))) := hbj.alloc hbj.size _
              have y0 := cell_on hV x0
              have y1 := cell_on hV x1
              have y2 := cell_on hV m0
              have y3 := cell_on hV m1
              have y4 : (wr.alloc (Obj.cells #[Value.int IntKind.i64 (wt ls j), Value.int IntKind.i64 (dm ls j)] 30)).cell? ⟨wr.heap.size, 0, none⟩ = some (.int .i64 (wt ls j)) := by simp [go_sem]
              generalize wr.alloc (Obj.cells #[Value.int IntKind.i64 (wt ls j), Value.int IntKind.i64 (dm ls j)] 30) = V at *
              generalize wr.heap.size = g2 at *
              clear hV x0 x1 m0 m1 c0 c1 hbj
              by_cases hij : i = j
              · subst hij
                clear LC
                go_quiet (fail)
                go_wp2_with fail
                go_roundw
                case rel => exact ⟨i + 1, by omega, by simp, below_drewN hbV.out _⟩
                case measure =>
                  simp [intOf]
                  omega
              · have hij' : ((i : Int) == (j : Int)) = false := by rw [beq_eq_false_iff_ne]; omega
                by_cases hu : ix xs i < dm ls i
                · have hu' : decide (dm ls i ≤ ix xs i) = false := by simp; omega
                  by_cases hz : ix xs j = 0
                  · clear LC hij
                    rw [hz] at y1
                    go_quiet (fail)
                    go_wp2_with fail
                    go_roundw
                    case rel => exact ⟨j + 1, by omega, by simp, below_drewN hbV.out _⟩
                    case measure =>
                      simp [intOf]
                      omega
                  · have hz' : (ix xs j == 0) = false := by rw [beq_eq_false_iff_ne]; exact hz
                    have hR := LC i j hlt hjt hij hu (by omega)
                    have CR := fun W => Big.rcross_any (ix xs j - 1) (wt ls j) (ix xs i) (wt ls i) W (by omega) (by omega) (ol j hjt).1.1 (ol j hjt).1.2 (by omega) (by omega) (ol i hlt).1.1 (ol i hlt).1.2
                    generalize Big.cmpI ((ix xs j - 1) * wt ls i) (ix xs i * wt ls j) = R at *
                    have p1 := PR i hlt
                    have p2 := PR j hjt
                    have q1 : IntKind.i64.wrap (ix xs j - 1) = ix xs j - 1 := by rw [IntKind.wrap_i64]; omega
                    have q2 : IntKind.i64.wrap ((j : Int) - (s : Int)) = (j : Int) - (s : Int) := by rw [IntKind.wrap_i64]; omega
                    have q3 : IntKind.i64.wrap ((j : Int) - (s : Int) + (ls.length : Int)) = (j : Int) - (s : Int) + (ls.length : Int) := by rw [IntKind.wrap_i64]; omega
                    have q4 : IntKind.i64.wrap ((i : Int) - (s : Int)) = (i : Int) - (s : Int) := by rw [IntKind.wrap_i64]; omega
                    have q5 : IntKind.i64.wrap ((i : Int) - (s : Int) + (ls.length : Int)) = (i : Int) - (s : Int) + (ls.length : Int) := by rw [IntKind.wrap_i64]; omega
                    clear LC hij hz hu PR HX
                    generalize pos ls.length s i = pi at *
                    generalize pos ls.length s j = pj at *
                    generalize ix xs i = xi at *
                    generalize ix xs j = xj at *
                    go_quiet (fail)
                    go_wp2_with fail
                    generalize hVQ : V.drewN nq = V2 at *
                    have z0 : V2.cell? ⟨bx, ox + i, none⟩ = some (.int .i64 xi) := by rw [← hVQ]; exact y0
                    have z1 : V2.cell? ⟨bx, ox + j, none⟩ = some (.int .i64 xj) := by rw [← hVQ]; exact y1
                    have z2 : V2.cell? ⟨g, 0, none⟩ = some (.int .i64 (wt ls i)) := by rw [← hVQ]; exact y2
                    have z4 : V2.cell? ⟨g2, 0, none⟩ = some (.int .i64 (wt ls j)) := by rw [← hVQ]; exact y4
                    have hbV2 : Hid (Below W4.heap.size W4 V2) := by rw [← hVQ]; exact below_drewN hbV.out _
                    clear hVQ y0 y1 y2 y3 y4 hbV
                    have S0 : V2.cell? ⟨bx, ox + j, none⟩ = some (.int .i64 xj) ∧ V2.cell? ⟨g2, 0, none⟩ = some (.int .i64 (wt ls j)) ∧ V2.cell? ⟨bx, ox + i, none⟩ = some (.int .i64 xi) ∧ V2.cell? ⟨g, 0, none⟩ = some (.int .i64 (wt ls i)) ∧ Below V2.heap.size V2 V2 ∧ V2.heap.size ≤ V2.heap.size := ⟨z1, z4, z0, z2, Below.refl _ _, Nat.le_refl _⟩
                    go_region_held3 (fun w' => w'.cell? ⟨bx, ox + j, none⟩ = some (.int .i64 xj) ∧ w'.cell? ⟨g2, 0, none⟩ = some (.int .i64 (wt ls j)) ∧ w'.cell? ⟨bx, ox + i, none⟩ = some (.int .i64 xi) ∧ w'.cell? ⟨g, 0, none⟩ = some (.int .i64 (wt ls i)) ∧ Below V2.heap.size V2 w' ∧ V2.heap.size ≤ w'.heap.size) (first | with_reducible assumption | (with_reducible refine lv_drew ?_; with_reducible assumption)) (first | (go_at_call 14; refine (CR _).mono ?_; rintro e w5 ⟨rfl, h5⟩; have key := lv_step (by with_reducible assumption) h5; clear h5))
                    all_goals
                      have hb5 : Hid (Below W4.heap.size W4 w5) := below2 hbV2.out hbV2.out.size key.2.2.2.2.1
                      clear key S0 z0 z1 z2 z4 hbV2 CR
                      rcases hR with rfl | ⟨rfl, hpp⟩
                      · go_wp2_with fail
                        go_quiet (fail)
                        go_wp2_with fail
                        go_roundw
                        case rel => exact ⟨j + 1, by omega, by simp, below_drewN hb5.out _⟩
                        case measure =>
                          simp [intOf]
                          omega
                      · go_wp2_with fail
                        go_quiet (fail)
                        go_wp2_with fail
                        go_roundw
                        case rel => exact ⟨j + 1, by omega, by simp, below_drewN hb5.out _⟩
                        case measure =>
                          simp [intOf]
                          omega
                · have hu' : dm ls i ≤ ix xs i := by omega
                  clear LC hij hu
                  go_quiet (fail)
                  go_wp2_with fail
                  go_roundw
                  case rel => exact ⟨j + 1, by omega, by simp, below_drewN hbV.out _⟩
                  case measure =>
                    simp [intOf]
                    omega
            · obtain rfl : j = ls.length := by omega
              go_wp2_with fail
              go_roundw
              case rel => exact ⟨i + 1, by omega, by simp, hbx.out⟩
              case measure =>
                simp [intOf]
                omega
        · obtain rfl : i = ls.length := by omega
          go_wp2_with (first | (go_at_call 8; (with_reducible refine (lives_any _).mono ?_); rintro e w9 ⟨rfl, b9⟩))
          go_ret
          exact ⟨rfl, below2 hbw.out hbw.out.size b9⟩
end
end Go.Proofs.Ytkeoccjobcdldaa
