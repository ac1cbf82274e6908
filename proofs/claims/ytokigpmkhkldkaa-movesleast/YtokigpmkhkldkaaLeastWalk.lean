/- The walk of MovesLeast. -/
import Derived.Test.YtokigpmkhkldkaaReachWalk
namespace Go.Proofs.Ytokigpmkhkldkaa
open Go.RowKit

section
variable {w : World} {xa ya : Option Addr} {xc yc : Nat} {os ts : List Int}

set_option maxRecDepth 100000 in
set_option maxHeartbeats 4000000 in
theorem least_any (hx : IX w xa os) (hz : Sz os) (hy : IX w ya ts) (ot : OkX ts) :
    Calls Try.prog 6 #[.slice xa os.length xc, .slice ya ts.length yc] w fun e w' => e = .returned (.bool true) ∧ Below w.heap.size w w' := by
  by_cases c2 : 64 < ts.length
  · have c2' : (64 : Int) < (ts.length : Int) := by omega
    go_enter Try.func6, Try.ntmps6
    go_wp2_with (first | (go_at_call 8; (with_reducible refine (lives_any _).mono ?_); rintro e w2 ⟨rfl, b2⟩))
    go_ret
    exact ⟨rfl, b2⟩
  have c2' : decide ((64 : Int) < (ts.length : Int)) = false := by simp; omega
  have hts : ts.length ≤ 64 := by omega
  have hzt : Sz ts := Sz.small (by omega)
  have RG := rgood_any (xc := xc) hx hz (ts.length : Int)
  cases hg : goodB os (ts.length : Int)
  · rw [hg] at RG
    clear c2
    go_enter Try.func6, Try.ntmps6
    go_wp2_with (first
      | (go_at_call 19; (with_reducible refine RG.mono ?_); rintro e w2 ⟨rfl, b2⟩)
      | (go_at_call 8; (with_reducible refine (lives_any _).mono ?_); rintro e w3 ⟨rfl, b3⟩))
    go_ret
    exact ⟨rfl, below2 b2 b2.size b3⟩
  rw [hg] at RG
  have g1 : os.length ≤ 64 := (good_iff.1 hg).1
  have P := fun W (h : Below w.heap.size w W) => plan_any (xc := xc) (yc := yc) (hx.below h) (hy.below h) hzt ot
  have N := fun W (h : Below w.heap.size w W) => need_any (xc := xc) (yc := yc) (hx.below h) (hy.below h) hzt ot
  have hEX : Hid ((exA os ts).length = (lkA os ts).length ∧ (exA os ts).length ≤ 64) := by
    unfold Hid exA lkA
    split
    · rw [exL_len, lkL_len]; exact ⟨rfl, hts⟩
    · exact ⟨rfl, Nat.zero_le _⟩
  have hFR : Hid (∀ j, V os ts → j < ts.length → ix (exA os ts) j = exI os ts j ∧ ix (lkA os ts) j = lkI os ts j) := fun j h hj => by
    rw [exA_v h, lkA_v h, ix_exL hj, ix_lkL hj]
    exact ⟨rfl, rfl⟩
  have hVL : Hid (V os ts → (exA os ts).length = ts.length) := fun h => by rw [exA_v h, exL_len]
  have A := fun W (h : Below w.heap.size w W) a c (hm : MV W a (planA os ts)) (hV : V os ts) => apply_any (xc := xc) (kc := c) (hx.below h) (by omega) hm (by rw [planA_v hV]; have := plan_len_le hV; omega)
  have P2 := fun W (h : Below w.heap.size w W) a c (hm : IX W a (apL os (planA os ts))) (hV : V os ts) => plan_any (xc := c) (yc := yc) hm (hy.below h) hzt ot
  have hP2 : Hid (V os ts → planA (apL os (planA os ts)) ts = []) := fun h => by
    rw [planA_v h]
    exact plan_none (reach h)
  have hPL : Hid (V os ts → ((planA os ts).length : Int) ≤ fr os ts ts.length) := fun h => by
    rw [planA_v h]
    exact plan_len h
  have hPE : Hid (¬ V os ts → planA os ts = []) := fun h => if_neg h
  have hal : Hid ((apL os (planA os ts)).length = os.length) := apL_len _ _
  clear c2 hg
  go_enter Try.func6, Try.ntmps6
  go_wp2_with (first
      | (go_at_call 19; (with_reducible refine RG.mono ?_); rintro e w2 ⟨rfl, b2⟩)
      | (go_at_call 11; (with_reducible refine (P _ b2).mono ?_); rintro e w3 ⟨la, lc, rfl, hl3, hlc, b3'⟩; have b3 := below2 b2 b2.size b3')
      | (go_at_call 16; (with_reducible refine (N _ b3).mono ?_); rintro e w4 ⟨na, nc, nb, nd, rfl, hnd⟩; obtain ⟨⟨nx, nl, _⟩, ⟨ny, nm, _⟩, _, b4'⟩ := hnd; have b4 := below2 b3 b3.size b4'))
  have hl4 := hl3.below b4'
  clear RG c2' P N nl nm b2 b3 b3' b4' hl3 hlc
  generalize exA os ts = EX at *
  generalize lkA os ts = LK at *
  go_loopw [32, 8] (fun v u wr => ∃ j : Nat, j ≤ EX.length ∧ v = .int .i64 j ∧ (∃ f : Int, u = .int .i64 f ∧ (V os ts → f = fr os ts j)) ∧ Below w4.heap.size w4 wr) (fun v _ _ => 100 - (intOf v).toNat)
  case atStart => exact ⟨0, Nat.zero_le _, rfl, ⟨0, rfl, fun _ => rfl⟩, Below.refl _ _⟩
  case round =>
    obtain ⟨j, hj, rfl, ⟨f, rfl, hf⟩, hb⟩ := hrel
    by_cases hlt : j < EX.length
    · have hlt2 : j < LK.length := by rw [← hEX.out.1]; exact hlt
      obtain ⟨b, o, rfl, c0⟩ := nx.below hb j hlt
      obtain ⟨b2, o2, rfl, c1⟩ := ny.below hb j hlt2
      have hlt' : (j : Int) < (EX.length : Int) := by omega
      have hlt2' : (j : Int) < (LK.length : Int) := by omega
      have hj64 : j < 64 := by have := hEX.out.2; omega
      have hnx : Hid (V os ts → wrap64 (f + wrap64 (ix EX j + ix LK j)) = fr os ts (j + 1)) := fun h => by
        have hjt : j < ts.length := by rw [← hVL.out h]; exact hlt
        obtain ⟨e1, e2⟩ := hFR.out j h hjt
        obtain ⟨x0, x1⟩ := h.ex_bd hjt
        obtain ⟨y0, y1⟩ := h.lk_bd hjt
        obtain ⟨f0, f1⟩ := h.fr_bd j (by omega)
        have e : fr os ts (j + 1) = fr os ts j + (exI os ts j + lkI os ts j) := rfl
        rw [e1, e2, hf h, e]
        unfold wrap64
        omega
      clear hf
      generalize ix EX j = x at *
      generalize ix LK j = y at *
      go_wp2_with fail
      go_quiet (fail)
      go_wp2_with fail
      go_roundw
      case rel => exact ⟨j + 1, by omega, by simp, ⟨_, rfl, hnx.out⟩, below_drewN hb _⟩
      case measure =>
        simp [intOf]
        omega
    · obtain rfl : j = EX.length := by omega
      have hb4 := below2 b4 b4.size hb
      have hl5 := hl4.below hb
      by_cases hV : V os ts
      · have hF : Hid (f = fr os ts ts.length) := by unfold Hid; rw [hf hV, hVL.out hV]
        have A' := A wr hb4 la lc hl5 hV
        have hp2 := hP2.out hV
        have P2' := fun W (h : Below w.heap.size w W) a c (hm : IX W a (apL os (planA os ts))) => P2 W h a c hm hV
        rw [hp2, hal.out] at P2'
        have hple : ((planA os ts).length : Int) ≤ f := by rw [hF.out]; exact hPL.out hV
        clear hf A P2 hp2
        by_cases h0 : (planA os ts).length = 0
        · rw [h0]
          clear hple A' P2' h0
          go_wp2_with (first | (go_at_call 8; (with_reducible refine (lives_any _).mono ?_); rintro e w9 ⟨rfl, b9⟩))
          go_ret
          exact ⟨rfl, below2 hb4 hb4.size b9⟩
        · have h0' : (((planA os ts).length : Int) == 0) = false := by simp; intro h; rw [h] at h0; simp at h0
          have h0'' : ((planA os ts).length == 0) = false := by simpa using h0
          clear h0
          generalize hPA : planA os ts = L at *
          clear hPA
          go_wp2_with (first
            | (go_at_call 14; (with_reducible refine A'.mono ?_); rintro e w5 ⟨aa, ac, rfl, ⟨ha5, _, _⟩, b5'⟩; have b5 := below2 hb4 hb4.size b5')
            | (go_at_call 11; (with_reducible refine (P2' _ b5 _ _ ha5).mono ?_); rintro e w6 ⟨ka, kc, rfl, _, _, b6'⟩; have b6 := below2 b5 b5.size b6')
            | (go_at_call 8; (with_reducible refine (lives_any _).mono ?_); rintro e w9 ⟨rfl, b9⟩))
          go_ret
          exact ⟨rfl, below2 b6 b6.size b9⟩
      · rw [hPE.out hV] at *
        clear hf A P2 hV
        go_wp2_with (first | (go_at_call 8; (with_reducible refine (lives_any _).mono ?_); rintro e w9 ⟨rfl, b9⟩))
        go_ret
        exact ⟨rfl, below2 hb4 hb4.size b9⟩
end
end Go.Proofs.Ytokigpmkhkldkaa
