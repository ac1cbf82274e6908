/- Contracts of the reference's Level and Next. -/
import Derived.Test.YtkeoccjobcdldaaUse
import Derived.Test.YtkeoccjobcdldaaBigCross
namespace Go.Proofs.Ytkeoccjobcdldaa
open Go.RowKit

theorem two_drew {w W : World} {p q : Addr} {a b : Value} (h : W.cell? p = some a ∧ W.cell? q = some b ∧ Below w.heap.size w W ∧ w.heap.size ≤ W.heap.size) : W.drew.cell? p = some a ∧ W.drew.cell? q = some b ∧ Below w.heap.size w W.drew ∧ w.heap.size ≤ W.drew.heap.size :=
  ⟨h.1, h.2.1, h.2.2.1.drew, h.2.2.2⟩
theorem two_step {w W w1 : World} {p q : Addr} {a b : Value} (h : W.cell? p = some a ∧ W.cell? q = some b ∧ Below w.heap.size w W ∧ w.heap.size ≤ W.heap.size) (hb : Below W.heap.size W w1) : w1.cell? p = some a ∧ w1.cell? q = some b ∧ Below w.heap.size w w1 ∧ w.heap.size ≤ w1.heap.size :=
  ⟨cell_on hb h.1, cell_on hb h.2.1, below2 h.2.2.1 h.2.2.2 hb, Nat.le_trans h.2.2.2 hb.size⟩

section
variable {w : World} {la xa : Option Addr} {lc xc : Nat} {ls : List (Int × Int)} {xs : List Int}

set_option maxHeartbeats 1000000 in
theorem rlevel_any (hl : CL w la ls) (hx : IX w xa xs) (ol : OkL ls) (ox : OkX xs) (he : xs.length = ls.length) (hg : goodB ls = true) {i j : Nat} (hi : i < ls.length) (hj : j < ls.length) :
    Calls Try.prog 31 #[.slice la ls.length lc, .slice xa ls.length xc, .int .i64 i, .int .i64 j] w fun e w' => e = .returned (.int .i64 (levI ls xs i j)) ∧ Below w.heap.size w w' := by
  have RG := rgood_any (lc := lc) hl (by have := (good_pos hg).2; omega)
  rw [hg] at RG
  obtain ⟨b, o, rfl, c0, c1⟩ := hl i hi
  obtain ⟨b2, o2, rfl, c2⟩ := hx i (by omega)
  obtain ⟨b', o', e', c3, c4⟩ := hl j hj
  obtain ⟨b2', o2', e2', c5⟩ := hx j (by omega)
  cases e'; cases e2'
  have hi3 : i < xs.length := by omega
  have hj3 : j < xs.length := by omega
  have CR := fun W => Big.rcross_any (ix xs i) (wt ls i) (ix xs j) (wt ls j) W (ox i hi3).1 (ox i hi3).2 (ol i hi).1.1 (ol i hi).1.2 (ox j hj3).1 (ox j hj3).2 (ol j hj).1.1 (ol j hj).1.2
  have hi1 : (i : Int) < (ls.length : Int) := by omega
  have hj1 : (j : Int) < (ls.length : Int) := by omega
  have g1 : decide ((ls.length : Int) ≤ (i : Int)) = false := by simp; omega
  have g2 : decide ((ls.length : Int) ≤ (j : Int)) = false := by simp; omega
  unfold levI
  clear he hl hx ol ox c1 c4 hi3 hj3 hg
  generalize Big.cmpI (ix xs i * wt ls j) (ix xs j * wt ls i) = R at *
  generalize ix xs i = x1 at *
  generalize ix xs j = x2 at *
  generalize wt ls i = w1 at *
  generalize wt ls j = w2 at *
  go_enter Try.func31, Try.ntmps31
  go_wp2_with (first | (go_at_call 13; (with_reducible refine RG.mono ?_); rintro e w4 ⟨rfl, b4⟩))
  have S0 : w4.cell? ⟨b, o + i * 2, none⟩ = some (.int .i64 w1) ∧ w4.cell? ⟨b2, o2 + i, none⟩ = some (.int .i64 x1) ∧ w4.cell? ⟨b, o + j * 2, none⟩ = some (.int .i64 w2) ∧ w4.cell? ⟨b2, o2 + j, none⟩ = some (.int .i64 x2) ∧ Below w4.heap.size w4 w4 ∧ w4.heap.size ≤ w4.heap.size := ⟨cell_on b4 c0, cell_on b4 c2, cell_on b4 c3, cell_on b4 c5, Below.refl _ _, Nat.le_refl _⟩
  clear c0 c2 c3 c5
  go_region_held3 (fun w' => w'.cell? ⟨b, o + i * 2, none⟩ = some (.int .i64 w1) ∧ w'.cell? ⟨b2, o2 + i, none⟩ = some (.int .i64 x1) ∧ w'.cell? ⟨b, o + j * 2, none⟩ = some (.int .i64 w2) ∧ w'.cell? ⟨b2, o2 + j, none⟩ = some (.int .i64 x2) ∧ Below w4.heap.size w4 w' ∧ w4.heap.size ≤ w'.heap.size) (first | with_reducible assumption | (with_reducible refine lv_drew ?_; with_reducible assumption)) (first | (go_at_call 14; refine (CR _).mono ?_; rintro e w5 ⟨rfl, h5⟩; have key := lv_step (by with_reducible assumption) h5; clear h5))
  all_goals
    go_wp2
    go_ret
    exact ⟨rfl, below2 b4 b4.size key.2.2.2.2.1⟩

set_option maxRecDepth 100000 in
set_option maxHeartbeats 2000000 in
theorem rnext_any (hl : CL w la ls) (hx : IX w xa xs) (ol : OkL ls) (ox : OkX xs) (he : xs.length = ls.length) (hg : goodB ls = true) (start : Int) :
    Calls Try.prog 19 #[.slice la ls.length lc, .slice xa ls.length xc, .int .i64 start] w fun e w' => e = .returned (.int .i64 (lI (nextO ls xs (atN ls.length start)))) ∧ Below w.heap.size w w' := by
  obtain ⟨hP, hn⟩ := good_pos hg
  have RG := rgood_any (lc := lc) hl (by omega)
  rw [hg] at RG
  by_cases h0 : ls.length = 0
  · have e0 : ls = [] := List.eq_nil_of_length_eq_zero h0
    have e1 : nextO ls xs (atN ls.length start) = none := by rw [e0]; rfl
    rw [e1]
    have h0' : (ls.length : Int) = 0 := by omega
    clear he e0 e1 h0
    go_enter Try.func19, Try.ntmps19
    go_wp2_with (first | (go_at_call 13; (with_reducible refine RG.mono ?_); rintro e w4 ⟨rfl, b4⟩))
    go_ret
    exact ⟨rfl, b4⟩
  · have h0' : ((ls.length : Int) == 0) = false := by rw [beq_eq_false_iff_ne]; omega
    have hs' := atN_lt (n := ls.length) start (by omega)
    have hrn := fun h => rem_neg (n := ls.length) (start := start) (by omega) h
    have hrp := fun h => rem_nn (n := ls.length) (start := start) (by omega) h
    obtain ⟨t0, t1⟩ := tmod_bounds (n := ls.length) start (by omega)
    have HF : ∀ k m, k ≤ ls.length → foldO ls xs ls.length (atN ls.length start) k = some m → m < ls.length := fun k m hk h => foldO_lt (.inl hs') k hk m h
    have HR : ∀ k, k < ls.length → Int.tmod ((atN ls.length start : Int) + (k : Int)) (ls.length : Int) = ((rd ls.length (atN ls.length start) k : Nat) : Int) := fun k hk => rd_rem hs' hk
    have HL : ∀ k, k < ls.length → rd ls.length (atN ls.length start) k < ls.length := fun k hk => rd_lt hs' hk
    have HN : Hid (nextO ls xs (atN ls.length start) = foldO ls xs ls.length (atN ls.length start) ls.length) := rfl
    rw [HN.out]
    have hhe : Hid (xs.length = ls.length) := he
    have hgg : Hid (goodB ls = true) := hg
    clear he HN hg
    generalize atN ls.length start = s at *
    generalize htm : start.tmod (ls.length : Int) = tm at *
    by_cases hneg : tm < 0
    all_goals
      have htt : Hid (tm < 0 → tm + (ls.length : Int) = (s : Int)) := hrn
      have htp : Hid (¬ tm < 0 → tm = (s : Int)) := hrp
      clear hrn hrp h0
      go_enter Try.func19, Try.ntmps19
      go_wp2_with (first | (go_at_call 13; (with_reducible refine RG.mono ?_); rintro e w4 ⟨rfl, b4⟩))
      first
        | (rw [htt.out hneg])
        | (obtain rfl := htp.out hneg)
      go_loopw [10, 9, 11] (fun v s9 _ wr => ∃ k : Nat, k ≤ ls.length ∧ v = .int .i64 k ∧ s9 = .int .i64 (lI (foldO ls xs ls.length s k)) ∧ Below w4.heap.size w4 wr) (fun v _ _ _ => 64 - (intOf v).toNat)
      case atStart => exact ⟨0, Nat.zero_le _, rfl, rfl, Below.refl _ _⟩
      case round =>
        obtain ⟨k, hk, rfl, rfl, hbr⟩ := hrel
        have hbw : Hid (Below w.heap.size w wr) := below2 b4 b4.size hbr
        by_cases hlt : k < ls.length
        · have hst : foldO ls xs ls.length s (k + 1) = stepO ls xs (foldO ls xs ls.length s k) (rd ls.length s k) := rfl
          have hR := HR k hlt
          have hiL := HL k hlt
          have hiX : rd ls.length s k < xs.length := by rw [hhe.out]; exact hiL
          obtain ⟨b, o, e0, c0, c1⟩ := hl.below hbw.out _ hiL
          obtain ⟨b2, o2, e1, c2⟩ := hx.below hbw.out _ hiX
          have LV := fun W (h : Below wr.heap.size wr W) (m : Nat) (hm : m < ls.length) => rlevel_any (lc := lc) (xc := xc) ((hl.below hbw.out).below h) ((hx.below hbw.out).below h) ol ox hhe.out hgg.out hiL hm
          have hlt' : (k : Int) < (ls.length : Int) := by omega
          have hsb : (s : Int) < 64 := by omega
          generalize hrr : rd ls.length s k = i at *
          have hiL' : (i : Int) < (ls.length : Int) := by omega
          subst e0
          subst e1
          cases hh : hunB ls xs i
          · rw [cons_no hh] at hst
            have hh' : decide (ix xs i < dm ls i) = false := hh
            have HST : Hid (foldO ls xs ls.length s (k + 1) = foldO ls xs ls.length s k) := hst
            clear hh LV hst HF HR HL hrr
            generalize hgf : foldO ls xs ls.length s k = f at *
            go_wp2_with fail
            go_quiet (fail)
            go_wp2_with fail
            go_roundw
            case rel => exact ⟨k + 1, by omega, by simp, by rw [HST.out], below_drewN hbr _⟩
            case measure =>
              simp [intOf]
              omega
          · have hh' : ix xs i < dm ls i := by simpa [hunB] using hh
            cases hf : foldO ls xs ls.length s k with
            | none =>
              rw [hf, cons_new hh] at hst
              have HST : Hid (foldO ls xs ls.length s (k + 1) = some i) := hst
              have hlI : lI (none : Option Nat) = -1 := rfl
              rw [hlI]
              clear hh LV hst HF HR HL hrr hf
              go_wp2_with fail
              go_quiet (fail)
              go_wp2_with fail
              go_roundw
              case rel => exact ⟨k + 1, by omega, by simp, by rw [HST.out]; rfl, below_drewN hbr _⟩
              case measure =>
                simp [intOf]
                omega
            | some m =>
              have hm := HF k m hk hf
              have L := fun W (h : Below wr.heap.size wr W) => LV W h m hm
              have hlI : lI (some m) = (m : Int) := rfl
              rw [hlI]
              rw [hf] at hst
              have hmn : decide ((m : Int) < 0) = false := by simp
              clear LV HF HR HL hrr hf
              have S0 : wr.cell? ⟨b, o + i * 2 + 1, none⟩ = some (.int .i64 (dm ls i)) ∧ wr.cell? ⟨b2, o2 + i, none⟩ = some (.int .i64 (ix xs i)) ∧ Below wr.heap.size wr wr ∧ wr.heap.size ≤ wr.heap.size := ⟨c1, c2, Below.refl _ _, Nat.le_refl _⟩
              by_cases hv : levI ls xs i m < 0
              · rw [cons_lt hh hv] at hst
                have HST : Hid (foldO ls xs ls.length s (k + 1) = some i) := hst
                clear hst hh
                generalize levI ls xs i m = q at *
                go_wp2_with fail
                go_region_held3 (fun w' => w'.cell? ⟨b, o + i * 2 + 1, none⟩ = some (.int .i64 (dm ls i)) ∧ w'.cell? ⟨b2, o2 + i, none⟩ = some (.int .i64 (ix xs i)) ∧ Below wr.heap.size wr w' ∧ wr.heap.size ≤ w'.heap.size) (first | with_reducible assumption | (with_reducible refine two_drew ?_; with_reducible assumption)) (first | (go_at_call 31; have hin := (show _ ∧ _ ∧ _ ∧ _ by with_reducible assumption); (with_reducible refine (L _ hin.2.2.1).mono ?_); rintro e w5 ⟨rfl, h5⟩; have key := two_step hin h5; clear h5))
                go_wp2_with fail
                go_roundw
                case rel => exact ⟨k + 1, by omega, by simp, by rw [HST.out]; rfl, below2 hbr hbr.size key.2.2.1⟩
                case measure =>
                  simp [intOf]
                  omega
              · rw [cons_ge hh hv] at hst
                have HST : Hid (foldO ls xs ls.length s (k + 1) = some m) := hst
                have hv' : decide (levI ls xs i m < 0) = false := by simpa using hv
                clear hst hh hv
                generalize levI ls xs i m = q at *
                go_wp2_with fail
                go_region_held3 (fun w' => w'.cell? ⟨b, o + i * 2 + 1, none⟩ = some (.int .i64 (dm ls i)) ∧ w'.cell? ⟨b2, o2 + i, none⟩ = some (.int .i64 (ix xs i)) ∧ Below wr.heap.size wr w' ∧ wr.heap.size ≤ w'.heap.size) (first | with_reducible assumption | (with_reducible refine two_drew ?_; with_reducible assumption)) (first | (go_at_call 31; have hin := (show _ ∧ _ ∧ _ ∧ _ by with_reducible assumption); (with_reducible refine (L _ hin.2.2.1).mono ?_); rintro e w5 ⟨rfl, h5⟩; have key := two_step hin h5; clear h5))
                go_wp2_with fail
                go_roundw
                case rel => exact ⟨k + 1, by omega, by simp, by rw [HST.out]; rfl, below2 hbr hbr.size key.2.2.1⟩
                case measure =>
                  simp [intOf]
                  omega
        · obtain rfl : k = ls.length := by omega
          go_wp2_with fail
          go_ret
          exact ⟨rfl, hbw.out⟩
end
end Go.Proofs.Ytkeoccjobcdldaa
