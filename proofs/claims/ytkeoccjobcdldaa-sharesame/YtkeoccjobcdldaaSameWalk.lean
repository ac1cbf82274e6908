/- The walk of ShareSame. -/
import Derived.Test.YtkeoccjobcdldaaOwnC
namespace Go.Proofs.Ytkeoccjobcdldaa
open Go.RowKit

section
variable {w : World} {la : Option Addr} {lc : Nat} {ls : List (Int × Int)}

set_option maxRecDepth 100000 in
set_option maxHeartbeats 4000000 in
theorem same_any (hl : CL w la ls) (hlc : la = none → lc = 0) (ol : OkL ls) (cores k : Int) (hk0 : 0 ≤ k) (hk1 : k ≤ 255) :
    Calls Try.prog 7 #[.int .i64 cores, .slice la ls.length lc, .int .u8 k] w fun e w' => e = .returned (.bool true) ∧ Below w.heap.size w w' := by
  by_cases c2 : 63 < ls.length
  · have c2' : (63 : Int) < (ls.length : Int) := by omega
    go_enter Try.func7, Try.ntmps7
    go_wp2_with (first | (go_at_call 8; (with_reducible refine (lives_any _).mono ?_); rintro e w2 ⟨rfl, b2⟩))
    go_ret
    exact ⟨rfl, b2⟩
  have c2' : decide ((63 : Int) < (ls.length : Int)) = false := by simp; omega
  by_cases c3 : cores < 0
  · clear c2
    go_enter Try.func7, Try.ntmps7
    go_wp2_with (first | (go_at_call 8; (with_reducible refine (lives_any _).mono ?_); rintro e w2 ⟨rfl, b2⟩))
    go_ret
    exact ⟨rfl, b2⟩
  have c3' : decide (cores < 0) = false := by simp; omega
  by_cases c4 : 64 < cores
  · clear c2 c3
    go_enter Try.func7, Try.ntmps7
    go_wp2_with (first | (go_at_call 8; (with_reducible refine (lives_any _).mono ?_); rintro e w2 ⟨rfl, b2⟩))
    go_ret
    exact ⟨rfl, b2⟩
  have c4' : decide (64 < cores) = false := by simp; omega
  have RG := rgood_any (lc := lc) hl (by omega)
  cases hg : goodB ls
  · rw [hg] at RG
    clear c2 c3 c4
    go_enter Try.func7, Try.ntmps7
    go_wp2_with (first
      | (go_at_call 13; (with_reducible refine RG.mono ?_); rintro e w2 ⟨rfl, b2⟩)
      | (go_at_call 8; (with_reducible refine (lives_any _).mono ?_); rintro e w3 ⟨rfl, b3⟩))
    go_ret
    exact ⟨rfl, below2 b2 b2.size b3⟩
  · rw [hg] at RG
    obtain ⟨hP, hn64⟩ := good_pos hg
    have hc0 : 0 ≤ cores := by omega
    have hc1 : cores ≤ 64 := by omega
    have hn63 : ls.length ≤ 63 := by omega
    clear c2 c3 c4
    obtain ⟨hI, D⟩ := divide_good (lc := lc) hl ol hg hc0 hc1 (start := 0) ⟨by omega, by omega⟩
    have hkb0 : 1 ≤ 1 + k % 16 := by omega
    have hkb1 : 1 + k % 16 ≤ 16 := by omega
    have hxlen : Hid ((divA cores ls 0).length = ls.length) := hI.len
    have hgg : Hid (goodB ls = true) := hg
    clear hI hg
    go_enter Try.func7, Try.ntmps7
    go_wp2_with (first
      | (go_at_call 13; (with_reducible refine RG.mono ?_); rintro e w2 ⟨rfl, b2⟩)
      | (at_builtin; refine wpList_appC rfl _ _ rfl w.heap.size (.slice (some ⟨w2.heap.size, 0, none⟩) 0 0) [] rfl (oc_none w2 w.heap.size b2.size) _ _ _ ls rfl rfl ((Src.of_cl (hl.below b2) hlc).below ((Below.refl _ _).alloc (Nat.le_refl _) _)) (by simp; omega) (by have := b2.size; simp; omega) ?_; intro v3 w3 ho3 hg3; rw [List.nil_append] at ho3; obtain ⟨ma, mc, rfl, hm3⟩ := ho3.cl))
    have b3 : Hid (Below w.heap.size w w3) := below_grown (b2.alloc b2.size _) hg3 (oc_none w2 w.heap.size b2.size) (by have := b2.size; simp; omega)
    clear hg3 hm3 RG b2 c2' c3' c4'
    generalize 1 + k % 16 = K at *
    go_loopw [38, 9] (fun v _ wr => ∃ i : Nat, i ≤ ls.length ∧ v = .int .i64 i ∧ OC wr w.heap.size (.slice ma ls.length mc) (mulW K ls i) ∧ (∀ j, j < i → wt ls j ≤ 4096) ∧ Below w.heap.size w wr) (fun v _ _ => 64 - (intOf v).toNat)
    case atStart => exact ⟨0, Nat.zero_le _, rfl, by rw [mulW_zero]; exact ho3, fun j hj => by omega, b3.out⟩
    case round =>
      clear ho3
      obtain ⟨i, hi, rfl, ho, hall, hb⟩ := hrel
      by_cases hlt : i < ls.length
      · obtain ⟨g, cap, e, hgb⟩ := ho.form (by rw [mulW_len]; omega)
        obtain ⟨rfl, rfl⟩ : ma = some ⟨g, 0, none⟩ ∧ mc = cap := by simp only [Value.slice.injEq] at e; exact ⟨e.1, e.2.2⟩
        clear e
        have hat := mulW_at (k := K) hlt
        have c0 := ho.at0 (mulW_len _ _ _) hat
        have f0 := ho.fz (mulW_len _ _ _) (i * 2)
        have hlt' : (i : Int) < (ls.length : Int) := by omega
        obtain ⟨w0, w1, _, _⟩ := hP i hlt
        by_cases hbig : 4096 < wt ls i
        · clear hall hat D
          go_wp2_with (first | (go_at_call 8; (with_reducible refine (lives_any _).mono ?_); rintro e w9 ⟨rfl, b9⟩))
          go_ret
          exact ⟨rfl, below2 hb hb.size b9⟩
        · have hbig' : decide (4096 < wt ls i) = false := by simp; omega
          have m0 : 0 ≤ wt ls i * K := Int.mul_nonneg (by omega) (by omega)
          have m1 : wt ls i * K ≤ 4096 * 16 := Int.mul_le_mul (by omega) (by omega) (by omega) (by omega)
          have hnx := OC.set ho (mulW_len _ _ _) hat (wt ls i * K)
          rw [mulW_set hlt] at hnx
          have hall2 : ∀ j, j < i + 1 → wt ls j ≤ 4096 := fun j hj => by
            by_cases h : j = i
            · subst h; omega
            · exact hall j (by omega)
          clear hall hat D hbig
          go_wp2_with fail
          go_roundw
          case rel => exact ⟨i + 1, by omega, by simp, hnx, hall2, hb.setCell (by simp; omega) _⟩
          case measure =>
            simp [intOf]
            omega
      · obtain rfl : i = ls.length := by omega
        rw [mulW_all] at ho
        have hg2 := more_good hgg.out hn63 hall (k := K) (by omega) hkb1
        have hdA := more_divA hc0 hc1 hgg.out hg2 (show 0 < K by omega)
        have ol2 : OkL (more K ls) := fun i hi => by
          have h := (good_pos hg2).1 i hi
          exact ⟨⟨by omega, by omega⟩, ⟨by omega, by omega⟩⟩
        have D2 : ∀ W a c, CL W a (more K ls) → Calls Try.prog 10 #[.int .i64 cores, .slice a (ls.length + 1) c, .int .i64 0] W fun e w' => ∃ ya yc, e = .returned (.slice ya (ls.length + 1) yc) ∧ IX w' ya (divA cores ls 0 ++ [0]) ∧ ls.length ≤ yc ∧ Below W.heap.size W w' := fun W a c hcl => by
          have h := (divide_good (lc := c) hcl ol2 hg2 hc0 hc1 (start := 0) ⟨by omega, by omega⟩).2 W (Below.refl _ _)
          rw [more_len, hdA] at h
          exact h.mono (fun e w' ⟨ya, yc, h1, h2, h3, h4⟩ => ⟨ya, yc, h1, h2, by omega, h4⟩)
        have hml : (more K ls).length = ls.length + 1 := more_len
        have HA : ∀ W, Below wr.heap.size wr W → OC W w.heap.size (.slice ma ls.length mc) (ls.map (scale K)) := fun W h => ho.below h
        have hap : ls.map (scale K) ++ [(1, 0)] = more K ls := rfl
        have hmp : (ls.map (scale K)).length = ls.length := by simp
        clear hall hg2 hdA ol2 ho hP
        have HYI : ∀ W ya, IX W ya (divA cores ls 0 ++ [0]) → ∃ b o, ya = some ⟨b, o, none⟩ ∧ IX W ya (divA cores ls 0) ∧ W.cell? ⟨b, o + ls.length, none⟩ = some (.int .i64 0) := fun W ya h => by
          obtain ⟨b, o, e, hc⟩ := h ls.length (by rw [List.length_append, hxlen.out]; simp)
          refine ⟨b, o, e, fun j hj => ?_, ?_⟩
          · obtain ⟨b', o', e', hc'⟩ := h j (by rw [List.length_append]; omega)
            rw [ix_app hj] at hc'
            exact ⟨b', o', e', hc'⟩
          · rw [← hxlen.out, ix_last] at hc
            rw [← hxlen.out]
            exact hc
        have E := fun W xa xc ya yc (hx : IX W xa (divA cores ls 0)) (hy : IX W ya (divA cores ls 0)) => ints_any (xc := xc) (yc := yc) hx hy (by rw [hxlen.out]; omega)
        rw [show decide (divA cores ls 0 = divA cores ls 0) = true from decide_eq_true rfl, hxlen.out] at E
        clear hxlen
        generalize divA cores ls 0 = xs at *
        go_wp2_with (first
          | (go_at_call 10; (with_reducible refine (D _ hb).mono ?_); rintro e w4 ⟨xa, xc, rfl, hx4, hxn, b4'⟩; have b4 := below2 hb hb.size b4')
          | (at_builtin; refine wpList_appC rfl _ _ rfl w.heap.size (.slice ma ls.length mc) (ls.map (scale K)) rfl ((HA _ b4').below ((Below.refl _ _).alloc (Nat.le_refl _) _)) _ _ _ [(1, 0)] rfl rfl (src_one w4 1 0) (by rw [hmp]; omega) (by have := b4.size; simp; omega) ?_; intro v5 w5 ho5 hg5; rw [hap] at ho5; obtain ⟨qa, qc, rfl, hq5⟩ := ho5.cl; rw [hml]))
        have b5 : Below w.heap.size w w5 := below_grown (b4.alloc b4.size _) hg5 ((HA _ b4').below ((Below.refl _ _).alloc (Nat.le_refl _) _)) (by have := b4.size; simp; omega)
        have hx5 : IX w5 xa xs := ix_grown (hx4.alloc _) hg5 (HA _ (Below.refl _ _)) hxn.2
        clear hg5 hx4 hxn HA ho5 D
        refine (D2 w5 qa qc hq5).mono ?_
        rintro e w6 ⟨ya, yc, rfl, hy6, hyc, b6'⟩
        have b6 := below2 b5 b5.size b6'
        obtain ⟨by_, oy, rfl, hyi, hy0⟩ := HYI _ _ hy6
        have hx6 := hx5.below b6'
        have hyc' : (ls.length : Int) ≤ (yc : Int) := by omega
        have hle : (((ls.length + 1 : Nat) : Int) == (ls.length : Int) + 1) = true := by simp
        clear D2 HYI hy6 hq5 hx5
        go_wp2_with (first
          | (go_at_call 9; (with_reducible refine (E _ _ _ _ _ hx6 hyi).mono ?_); rintro e w7 ⟨rfl, b7⟩; have hy7 := cell_on b7 hy0)
          | (go_at_call 8; (with_reducible refine (lives_any _).mono ?_); rintro e w9 ⟨rfl, b9⟩))
        go_ret
        exact ⟨rfl, below2 (below2 b6 b6.size b7) (Nat.le_trans b6.size b7.size) b9⟩
end
end Go.Proofs.Ytkeoccjobcdldaa
