/- The walk of MovesSteps. -/
import Derived.Test.YtokigpmkhkldkaaReachWalk
import Derived.Test.YtokigpmkhkldkaaOpens
namespace Go.Proofs.Ytokigpmkhkldkaa
open Go.RowKit

theorem rem_nat {p : Int} {n : Nat} (h0 : 0 ≤ p) (hn : 0 < n) : ∃ k : Nat, k < n ∧ p.tmod (n : Int) = (k : Int) := by
  refine ⟨(p.tmod (n : Int)).toNat, ?_, ?_⟩
  · rw [Int.tmod_eq_emod_of_nonneg h0]
    have := Int.emod_lt_of_pos p (show (0 : Int) < n by omega)
    omega
  · rw [Int.tmod_eq_emod_of_nonneg h0]
    have := Int.emod_nonneg p (show (n : Int) ≠ 0 by omega)
    omega
theorem mv_at {w : World} {b o : Nat} {ms : List (Int × Int × Int)} {k : Nat} (h : MV w (some ⟨b, o, none⟩) ms) (hk : k < ms.length) : MV w (some ⟨b, o + k * 3, none⟩) [mc ms k] := fun j hj => by
  obtain rfl : j = 0 := by simpa using hj
  obtain ⟨b', o', e, h0, h1, h2⟩ := h k hk
  cases e
  exact ⟨b, o + k * 3, rfl, by simpa [mc] using h0, by simpa [mc] using h1, by simpa [mc] using h2⟩
/-- One move, of a slice that is cut out. -/
theorem apply1_any {w : World} {xa ma : Option Addr} {xc kc : Nat} {os : List Int} {m : Int × Int × Int} (hx : IX w xa os) (hl : os.length ≤ 1000) (hm : MV w ma [m]) :
    Calls Try.prog 14 #[.slice xa os.length xc, .slice ma 1 kc] w fun e w' => ∃ a c, e = .returned (.slice a os.length c) ∧ IX w' a (apS os m) ∧ Below w.heap.size w w' :=
  (apply_any (xc := xc) (kc := kc) hx hl hm (by simp)).mono (fun _ _ ⟨a, c, h1, ⟨h2, _, _⟩, h3⟩ => ⟨a, c, h1, h2, h3⟩)

section
variable {w : World} {xa ya pa : Option Addr} {xc yc pc : Nat} {os ts ps : List Int}

set_option maxRecDepth 100000 in
set_option maxHeartbeats 4000000 in
theorem steps_any (hx : IX w xa os) (hy : IX w ya ts) (ot : OkX ts) (hp : IK .u8 w pa ps) (op : ∀ i, i < ps.length → 0 ≤ ix ps i ∧ ix ps i ≤ 255) :
    Calls Try.prog 7 #[.slice xa os.length xc, .slice ya ts.length yc, .slice pa ps.length pc] w fun e w' => e = .returned (.bool true) ∧ Below w.heap.size w w' := by
  by_cases c1 : 20 < ts.length
  · have c1' : (20 : Int) < (ts.length : Int) := by omega
    go_enter Try.func7, Try.ntmps7
    go_wp2_with (first | (go_at_call 8; (with_reducible refine (lives_any _).mono ?_); rintro e w2 ⟨rfl, b2⟩))
    go_ret
    exact ⟨rfl, b2⟩
  have c1' : decide ((20 : Int) < (ts.length : Int)) = false := by simp; omega
  by_cases c2 : 20 < os.length
  · have c2' : (20 : Int) < (os.length : Int) := by omega
    clear c1
    go_enter Try.func7, Try.ntmps7
    go_wp2_with (first | (go_at_call 8; (with_reducible refine (lives_any _).mono ?_); rintro e w2 ⟨rfl, b2⟩))
    go_ret
    exact ⟨rfl, b2⟩
  have c2' : decide ((20 : Int) < (os.length : Int)) = false := by simp; omega
  by_cases c3 : 30 < ps.length
  · have c3' : (30 : Int) < (ps.length : Int) := by omega
    clear c1 c2
    go_enter Try.func7, Try.ntmps7
    go_wp2_with (first | (go_at_call 8; (with_reducible refine (lives_any _).mono ?_); rintro e w2 ⟨rfl, b2⟩))
    go_ret
    exact ⟨rfl, b2⟩
  have c3' : decide ((30 : Int) < (ps.length : Int)) = false := by simp; omega
  have hos : os.length ≤ 20 := by omega
  have hts : ts.length ≤ 20 := by omega
  have hps : ps.length ≤ 30 := by omega
  have hz : Sz os := Sz.small (by omega)
  have hzt : Sz ts := Sz.small (by omega)
  have RG := rgood_any (xc := xc) hx hz (ts.length : Int)
  cases hg : goodB os (ts.length : Int)
  · rw [hg] at RG
    clear c1 c2 c3
    go_enter Try.func7, Try.ntmps7
    go_wp2_with (first
      | (go_at_call 19; (with_reducible refine RG.mono ?_); rintro e w2 ⟨rfl, b2⟩)
      | (go_at_call 8; (with_reducible refine (lives_any _).mono ?_); rintro e w3 ⟨rfl, b3⟩))
    go_ret
    exact ⟨rfl, below2 b2 b2.size b3⟩
  rw [hg] at RG
  have hgg : Hid (goodB os (ts.length : Int) = true) := hg
  clear c1 c2 c3 hg
  go_enter Try.func7, Try.ntmps7
  go_wp2_with (first
      | (go_at_call 19; (with_reducible refine RG.mono ?_); rintro e w2 ⟨rfl, b2⟩))
  clear RG c1' c2' c3'
  go_loopw [38, 7] (fun v u wr => ∃ j : Nat, j ≤ ts.length ∧ v = .int .i64 j ∧ (∃ k : Int, u = .int .i64 k ∧ (0 ≤ k ∧ k ≤ (os.length : Int)) ∧ enB (os.length : Int) ts = enB ((os.length : Int) - k) (ts.drop j) ∧ ∀ i, i < j → 0 ≤ ix ts i) ∧ Below w.heap.size w wr) (fun v _ _ => 100 - (intOf v).toNat)
  case atStart => exact ⟨0, Nat.zero_le _, rfl, ⟨0, rfl, ⟨by omega, by omega⟩, by simp, fun i hi => by omega⟩, b2⟩
  case round =>
    obtain ⟨j, hj, rfl, ⟨k, rfl, ⟨k0, k1⟩, hk, hall⟩, hb⟩ := hrel
    by_cases hlt : j < ts.length
    · obtain ⟨b, o, rfl, c0⟩ := hy.below hb j hlt
      have hlt' : (j : Int) < (ts.length : Int) := by omega
      rw [en_drop hlt] at hk
      have k2 : k ≤ 20 := by omega
      have k3 : (os.length : Int) ≤ 20 := by omega
      by_cases q0 : ix ts j < 0
      · clear hk hall
        generalize ix ts j = x at *
        go_wp2_with (first | (go_at_call 8; (with_reducible refine (lives_any _).mono ?_); rintro e w3 ⟨rfl, b3⟩))
        go_ret
        exact ⟨rfl, below2 hb hb.size b3⟩
      have q0' : decide (ix ts j < 0) = false := by simp; omega
      by_cases q1 : (os.length : Int) - k < ix ts j
      · clear hk hall q0
        generalize ix ts j = x at *
        go_wp2_with (first | (go_at_call 8; (with_reducible refine (lives_any _).mono ?_); rintro e w3 ⟨rfl, b3⟩))
        go_ret
        exact ⟨rfl, below2 hb hb.size b3⟩
      have q1' : decide ((os.length : Int) - k < ix ts j) = false := by simp; omega
      have HALL : Hid (∀ i, i < j + 1 → 0 ≤ ix ts i) := fun i hi => by
        by_cases h : i = j
        · rw [h]; omega
        · exact hall i (by omega)
      have hk2 : Hid (enB (os.length : Int) ts = enB ((os.length : Int) - (k + ix ts j)) (ts.drop (j + 1))) := by
        rw [if_neg q1, show (os.length : Int) - k - ix ts j = (os.length : Int) - (k + ix ts j) by omega] at hk
        exact hk
      have hx0 : 0 ≤ ix ts j := by omega
      have hx1 : k + ix ts j ≤ (os.length : Int) := by omega
      have hx2 : ix ts j ≤ 20 := by omega
      clear hk hall q0 q1
      generalize ix ts j = x at *
      go_wp2_with fail
      go_roundw
      case rel => exact ⟨j + 1, by omega, by simp, ⟨k + x, by simp, ⟨by omega, by omega⟩, hk2.out, HALL.out⟩, hb⟩
      case measure =>
        simp [intOf]
        omega
    · obtain rfl : j = ts.length := by omega
      rw [en_all] at hk
      have hV : Hid (V os ts) := ⟨right_iff.2 ⟨hall, hgg.out⟩, hk⟩
      have hH : OI (wr.alloc (.cells #[] 3)) w.heap.size (.slice (some ⟨wr.heap.size, 0, none⟩) 0 0) [] := World.ownsRow_lit (base := w.heap.size) (e := 3) (size := 1) wr #[] 0 hb.size (Nat.zero_le _) rfl
      clear hk hall hgg b2
      go_wp2_with (first
        | (at_builtin; refine wpList_appI rfl _ _ rfl w.heap.size _ [] rfl hH _ _ _ os rfl rfl ((hx.below hb).alloc _) (by simp; omega) (by have := hb.size; simp; omega) ?_; intro v3 w3 ho3 hg3 _; rw [List.nil_append] at ho3; obtain ⟨a, c, rfl, _, x3⟩ := ho3.ix_))
      have b3 : Below w.heap.size w w3 := below_grown (hb.alloc hb.size _) hg3 hH (by have := hb.size; simp; omega)
      clear ho3 hg3 hH hb
      go_loopw [62, 10] (fun v u wr => ∃ j : Nat, j ≤ ps.length ∧ v = .int .i64 j ∧ (∃ cur a c, u = .slice a cur.length c ∧ IX wr a cur ∧ V cur ts) ∧ Below w.heap.size w wr) (fun v _ _ => 100 - (intOf v).toNat)
      case atStart => exact ⟨0, Nat.zero_le _, rfl, ⟨os, a, c, rfl, x3, hV.out⟩, b3⟩
      case round =>
        clear x3 b3 hV
        obtain ⟨j, hj, rfl, ⟨cur, a, c, rfl, hcur, hV⟩, hb⟩ := hrel
        by_cases hlt : j < ps.length
        · obtain ⟨b, o, rfl, c0⟩ := hp.below hb j hlt
          have hlt' : (j : Int) < (ps.length : Int) := by omega
          obtain ⟨p0, p1⟩ := op j hlt
          have P := plan_any (xc := c) (yc := yc) hcur (hy.below hb) hzt ot
          rw [planA_v hV] at P
          have F := fun W (h : Below wr.heap.size wr W) (h2 : Below w.heap.size w W) => far_any (xc := c) (yc := yc) (hcur.below h) (hy.below h2) hzt ot hV
          have hcl : cur.length ≤ 64 := hV.good.1
          have hVV : Hid (V cur ts) := hV
          have hll := plan_len_le hV
          clear hV
          by_cases hL : (planL cur ts).length = 0
          · have hf : fr cur ts ts.length = 0 := far_nil hVV.out (List.eq_nil_of_length_eq_zero hL)
            rw [hf] at F
            rw [hL] at P
            clear hf hL
            generalize ix ps j = x at *
            go_wp2_with (first
              | (go_at_call 11; (with_reducible refine P.mono ?_); rintro e w4 ⟨la, lc, rfl, _, _, b4'⟩; have b4 := below2 hb hb.size b4')
              | (go_at_call 22; (with_reducible refine (F _ b4' b4).mono ?_); rintro e w5 ⟨rfl, b5'⟩; have b5 := below2 b4 b4.size b5')
              | (go_at_call 8; (with_reducible refine (lives_any _).mono ?_); rintro e w9 ⟨rfl, b9⟩))
            go_ret
            exact ⟨rfl, below2 b5 b5.size b9⟩
          · obtain ⟨K, hK, hrem⟩ := rem_nat (p := ix ps j) (n := (planL cur ts).length) p0 (by omega)
            obtain ⟨hV2, hlt2⟩ := nearer hVV.out (mc_mem hK)
            have hV2' : Hid (V (apS cur (mc (planL cur ts) K)) ts) := hV2
            have AP := fun W (h : Below wr.heap.size wr W) a2 c2 (hm : MV W a2 [mc (planL cur ts) K]) => apply1_any (xc := c) (kc := c2) (hcur.below h) (by omega) hm
            have F2 := fun W (h2 : Below w.heap.size w W) a c (hc : IX W a (apS cur (mc (planL cur ts) K))) => far_any (xc := c) (yc := yc) hc (hy.below h2) hzt ot hV2
            rw [apS_len] at F2
            have hge : decide (fr cur ts ts.length ≤ fr (apS cur (mc (planL cur ts) K)) ts ts.length) = false := by simp; omega
            have hnl : Hid ((apS cur (mc (planL cur ts) K)).length = cur.length) := apS_len _ _
            have hLz : ((planL cur ts).length == 0) = false := by simpa using hL
            have hLz' : (((planL cur ts).length : Int) == 0) = false := by rw [beq_eq_false_iff_ne]; omega
            have hKi : (K : Int) < ((planL cur ts).length : Int) := by omega
            clear hV2 hlt2
            generalize fr cur ts ts.length = f1 at *
            generalize fr (apS cur (mc (planL cur ts) K)) ts ts.length = f2 at *
            generalize hN : apS cur (mc (planL cur ts) K) = cur2 at *
            clear hN
            generalize hm : mc (planL cur ts) K = m at *
            have hmm : Hid (mc (planL cur ts) K = m) := hm
            clear hm
            generalize planL cur ts = L at *
            generalize ix ps j = x at *
            go_wp2_with (first
              | (go_at_call 11; (with_reducible refine P.mono ?_); rintro e w4 ⟨la, lc, rfl, hm4, hlc, b4'⟩; have b4 := below2 hb hb.size b4'; obtain ⟨lb, lo, rfl, _⟩ := hm4 K hK; have hm4' := mv_at hm4 hK; rw [hmm.out] at hm4')
              | (go_at_call 22; (with_reducible refine (F _ b4' b4).mono ?_); rintro e w5 ⟨rfl, b5'⟩; have b5 := below2 b4 b4.size b5')
              | (go_at_call 14; (with_reducible refine (AP _ (b4'.trans (b5'.mono b4'.size)) _ _ (hm4'.below b5')).mono ?_); rintro e w6 ⟨a6, c6, rfl, x6, b6'⟩; have b6 := below2 b5 b5.size b6')
              | (go_at_call 22; (with_reducible refine (F2 _ b6 _ _ x6).mono ?_); rintro e w7 ⟨rfl, b7'⟩; have b7 := below2 b6 b6.size b7'))
            go_roundw
            case rel => exact ⟨j + 1, by omega, by simp, ⟨cur2, a6, c6, by rw [hnl.out], x6.below b7', hV2'.out⟩, b7⟩
            case measure =>
              simp [intOf]
              omega
        · obtain rfl : j = ps.length := by omega
          go_wp2_with (first | (go_at_call 8; (with_reducible refine (lives_any _).mono ?_); rintro e w9 ⟨rfl, b9⟩))
          go_ret
          exact ⟨rfl, below2 hb hb.size b9⟩
end
end Go.Proofs.Ytokigpmkhkldkaa
