/- The walk of MovesReach. -/
import Derived.Test.YtokigpmkhkldkaaLives
namespace Go.Proofs.Ytokigpmkhkldkaa
open Go.RowKit

theorem good_apS {os : List Int} {n : Int} {m : Int × Int × Int} (h : goodB os n = true) (hm : 0 ≤ m.2.2 ∧ m.2.2 ≤ n) : goodB (apS os m) n = true := by
  obtain ⟨g1, g2, g3, g4⟩ := good_iff.1 h
  refine good_iff.2 ⟨by rw [apS_len]; exact g1, g2, g3, fun c hc => ?_⟩
  rw [apS_len] at hc
  unfold apS
  split
  · rename_i q
    rw [ix_set (by omega)]
    split
    · exact hm
    · exact g4 c hc
  · exact g4 c hc
theorem good_apL {n : Int} : ∀ (l : List (Int × Int × Int)) (os : List Int), goodB os n = true → (∀ m ∈ l, 0 ≤ m.2.2 ∧ m.2.2 ≤ n) → goodB (apL os l) n = true
  | [], _, h, _ => h
  | m :: l, os, h, hm => by
    rw [apL, List.foldl_cons]
    exact good_apL l (apS os m) (good_apS h (hm m (List.mem_cons_self ..))) (fun x hx => hm x (List.mem_cons_of_mem _ hx))
section
variable {os ts : List Int}
theorem plan_pt : ∀ m ∈ planL os ts, 0 ≤ m.2.2 ∧ m.2.2 ≤ (ts.length : Int) := fun m hm => by
  obtain ⟨c, _, _, _, _, _, h6⟩ := plan_mem hm
  rcases h6 with h6 | ⟨i, hi, h6, _⟩ <;> omega
theorem count_plan (h : V os ts) : countA (apL os (planL os ts)) (ts.length : Int) = ts := by
  unfold countA
  rw [if_pos (good_apL _ _ (right_iff.1 h.1).2 plan_pt), show ((ts.length : Nat) : Int).toNat = ts.length from Int.toNat_natCast _]
  exact reach h
theorem plan_len_le (h : V os ts) : (planL os ts).length ≤ 10000 := by
  have h1 := plan_len h
  have h2 := h.fr_bd ts.length (Nat.le_refl _)
  have h3 := h.good.2.1
  omega
theorem plan_once {i j : Nat} (hj : j < (planL os ts).length) (hi : i < j) : (mc (planL os ts) i).1 ≠ (mc (planL os ts) j).1 := by
  have h := plan_nodup (os := os) (ts := ts)
  unfold List.Nodup at h
  rw [List.pairwise_map, List.pairwise_iff_getElem] at h
  have h1 := h i j (by omega) hj hi
  have e1 := mc_get (ms := planL os ts) (i := i) (by omega)
  have e2 := mc_get hj
  rw [List.getElem?_eq_getElem (by omega), Option.some.injEq] at e1
  rw [List.getElem?_eq_getElem hj, Option.some.injEq] at e2
  rw [← e1, ← e2]
  exact h1
end

/-- Nothing was seen yet that is not among the first j. -/
def Sn (L : List (Int × Int × Int)) (n j : Nat) (sn : List Int) : Prop := ∀ c : Nat, c < n → (∀ i, i < j → (mc L i).1 ≠ (c : Int)) → ix sn c = 0
theorem Sn.next {L : List (Int × Int × Int)} {n j c : Nat} {sn : List Int} (h : Sn L n j sn) (hl : sn.length = n) (hc : c < n) (e : (mc L j).1 = (c : Int)) (v : Int) : Sn L n (j + 1) (sn.set c v) := fun d hd ha => by
  have hne : d ≠ c := fun q => ha j (by omega) (by rw [e, q])
  rw [ix_set (by omega), if_neg hne]
  exact h d hd (fun i hi => ha i (by omega))

section
variable {w : World} {xa ya : Option Addr} {xc yc : Nat} {os ts : List Int}

set_option maxRecDepth 100000 in
set_option maxHeartbeats 4000000 in
theorem reach_any (hx : IX w xa os) (hz : Sz os) (hy : IX w ya ts) (ot : OkX ts) :
    Calls Try.prog 5 #[.slice xa os.length xc, .slice ya ts.length yc] w fun e w' => e = .returned (.bool true) ∧ Below w.heap.size w w' := by
  by_cases c2 : 64 < ts.length
  · have c2' : (64 : Int) < (ts.length : Int) := by omega
    go_enter Try.func5, Try.ntmps5
    go_wp2_with (first | (go_at_call 8; (with_reducible refine (lives_any _).mono ?_); rintro e w2 ⟨rfl, b2⟩))
    go_ret
    exact ⟨rfl, b2⟩
  have c2' : decide ((64 : Int) < (ts.length : Int)) = false := by simp; omega
  have hts : ts.length ≤ 64 := by omega
  have hzt : Sz ts := Sz.small (by omega)
  have RG := rgood_any (xc := xc) hx hz (ts.length : Int)
  cases hg : goodB os (ts.length : Int)
  · rw [hg] at RG
    clear c2
    go_enter Try.func5, Try.ntmps5
    go_wp2_with (first
      | (go_at_call 19; (with_reducible refine RG.mono ?_); rintro e w2 ⟨rfl, b2⟩)
      | (go_at_call 8; (with_reducible refine (lives_any _).mono ?_); rintro e w3 ⟨rfl, b3⟩))
    go_ret
    exact ⟨rfl, below2 b2 b2.size b3⟩
  rw [hg] at RG
  have hgg : Hid (goodB os (ts.length : Int) = true) := hg
  have g1 : os.length ≤ 64 := (good_iff.1 hg).1
  clear c2 hg
  go_enter Try.func5, Try.ntmps5
  go_wp2_with (first
      | (go_at_call 19; (with_reducible refine RG.mono ?_); rintro e w2 ⟨rfl, b2⟩))
  clear RG c2'
  go_loopw [29, 5] (fun v u wr => ∃ j : Nat, j ≤ ts.length ∧ v = .int .i64 j ∧ (∃ k : Int, u = .int .i64 k ∧ (0 ≤ k ∧ k ≤ 64) ∧ enB (os.length : Int) ts = enB k (ts.drop j) ∧ ∀ i, i < j → 0 ≤ ix ts i) ∧ Below w.heap.size w wr) (fun v _ _ => 100 - (intOf v).toNat)
  case atStart => exact ⟨0, Nat.zero_le _, rfl, ⟨(os.length : Int), rfl, ⟨by omega, by omega⟩, rfl, fun i hi => by omega⟩, b2⟩
  case round =>
    obtain ⟨j, hj, rfl, ⟨k, rfl, ⟨k0, k1⟩, hk, hall⟩, hb⟩ := hrel
    by_cases hlt : j < ts.length
    · obtain ⟨b, o, rfl, c0⟩ := hy.below hb j hlt
      have hlt' : (j : Int) < (ts.length : Int) := by omega
      rw [en_drop hlt] at hk
      by_cases q0 : ix ts j < 0
      · clear hk hall
        generalize ix ts j = x at *
        go_wp2_with (first | (go_at_call 8; (with_reducible refine (lives_any _).mono ?_); rintro e w3 ⟨rfl, b3⟩))
        go_ret
        exact ⟨rfl, below2 hb hb.size b3⟩
      have q0' : decide (ix ts j < 0) = false := by simp; omega
      by_cases q1 : k < ix ts j
      · clear hk hall q0
        generalize ix ts j = x at *
        go_wp2_with (first | (go_at_call 8; (with_reducible refine (lives_any _).mono ?_); rintro e w3 ⟨rfl, b3⟩))
        go_ret
        exact ⟨rfl, below2 hb hb.size b3⟩
      have q1' : decide (k < ix ts j) = false := by simp; omega
      have HALL : Hid (∀ i, i < j + 1 → 0 ≤ ix ts i) := fun i hi => by
        by_cases h : i = j
        · rw [h]; omega
        · exact hall i (by omega)
      have hk2 : Hid (enB (os.length : Int) ts = enB (k - ix ts j) (ts.drop (j + 1))) := by rw [if_neg q1] at hk; exact hk
      have hx0 : 0 ≤ ix ts j := by omega
      have hx1 : ix ts j ≤ k := by omega
      clear hk hall q0 q1
      generalize ix ts j = x at *
      go_wp2_with fail
      go_roundw
      case rel => exact ⟨j + 1, by omega, by simp, ⟨k - x, by simp, ⟨by omega, by omega⟩, hk2.out, HALL.out⟩, hb⟩
      case measure =>
        simp [intOf]
        omega
    · obtain rfl : j = ts.length := by omega
      rw [en_all] at hk
      have hV : V os ts := ⟨right_iff.2 ⟨hall, hgg.out⟩, hk⟩
      have P := plan_any (xc := xc) (yc := yc) (hx.below hb) (hy.below hb) hzt ot
      rw [planA_v hV] at P
      have A := fun W (h : Below w.heap.size w W) a c (hm : MV W a (planL os ts)) => apply_any (xc := xc) (kc := c) (hx.below h) (by omega) hm (by have := plan_len_le hV; omega)
      have hal : (apL os (planL os ts)).length = os.length := apL_len _ _
      have C := fun W a c (hm : IX W a (apL os (planL os ts))) => count_any (xc := c) hm (ts.length : Int)
      rw [count_plan hV, hal] at C
      have I := fun W a c (h : Below w.heap.size w W) (ha : IX W a ts) => ints_any (xc := c) (yc := yc) ha (hy.below h) (by omega)
      rw [show decide (ts = ts) = true from decide_eq_true rfl] at I
      have N := fun W (h : Below w.heap.size w W) => need_any (xc := xc) (yc := yc) (hx.below h) (hy.below h) hzt ot
      rw [exA_v hV, lkA_v hV, exL_len, lkL_len] at N
      have hmk := make22 (n := os.length) (by omega)
      have hVV : Hid (V os ts) := hV
      have hLn : (planL os ts).length ≤ 10000 := plan_len_le hV
      clear hall hk hV hal
      generalize hL : planL os ts = L at *
      have hLL : Hid (planL os ts = L) := hL
      clear hL
      go_wp2_with (first
        | (go_at_call 11; (with_reducible refine P.mono ?_); rintro e w3 ⟨la, lc, rfl, hl3, hlc, b3'⟩; have b3 := below2 hb hb.size b3')
        | (go_at_call 14; (with_reducible refine (A _ b3 _ _ hl3).mono ?_); rintro e w4 ⟨aa, ac, rfl, ⟨ha4, _, _⟩, b4'⟩; have b4 := below2 b3 b3.size b4')
        | (go_at_call 20; (with_reducible refine (C _ _ _ ha4).mono ?_); rintro e w5 ⟨ca, cc, rfl, hc5, _, b5'⟩; have b5 := below2 b4 b4.size b5')
        | (go_at_call 13; (with_reducible refine (I _ _ _ b5 hc5).mono ?_); rintro e w6 ⟨rfl, b6'⟩; have b6 := below2 b5 b5.size b6')
        | (go_at_call 16; (with_reducible refine (N _ b6).mono ?_); rintro e w7 ⟨na, nc, nb, nd, rfl, hnd⟩; obtain ⟨⟨nx, nl, _⟩, ⟨ny, nm, _⟩, _, b7'⟩ := hnd; have b7 := below2 b6 b6.size b7'))
      have hW := WB.new w7 os.length
      have hB : Hid (Below w7.heap.size w7 (w7.alloc (.cells (madeCells #[.int .i64 0] os.length) 3))) := (Below.refl _ _).alloc (Nat.le_refl _) _
      have hsz0 : Hid (w7.heap.size < (w7.alloc (.cells (madeCells #[.int .i64 0] os.length) 3)).heap.size) := Hid.mk (by simp)
      have hl7 : MV w7 la L := (((hl3.below b4').below b5').below b6').below b7'
      have hx7 := hx.below b7
      clear P A C I N hmk hb b2 b3 b3' b4 b4' b5 b5' b6 b6' b7' hl3 ha4 hc5 ny nl nm hlc
      generalize w7.alloc (.cells (madeCells #[.int .i64 0] os.length) 3) = W0 at *
      go_loopw [68, 13] (fun v _ wr => ∃ j : Nat, j ≤ L.length ∧ v = .int .i64 j ∧ (∃ sn, WB wr w7.heap.size os.length sn ∧ Sn L os.length j sn) ∧ Below w7.heap.size w7 wr ∧ w7.heap.size < wr.heap.size) (fun v _ _ => 10000 - (intOf v).toNat)
      case atStart => exact ⟨0, Nat.zero_le _, rfl, ⟨_, hW, fun c _ _ => ix_rep _ _⟩, hB.out, hsz0.out⟩
      case round =>
        clear hW hB hsz0
        obtain ⟨j, hj, rfl, ⟨sn, hW, hS⟩, hb, hsz⟩ := hrel
        by_cases hlt : j < L.length
        · obtain ⟨b, o, rfl, c0, c1, c2⟩ := hl7.below hb j hlt
          have hlt' : (j : Int) < (L.length : Int) := by omega
          obtain ⟨c, hM1, hM2, hM3, hM4, hM5, hM6⟩ := plan_mem (os := os) (ts := ts) (m := mc L j) (by rw [hLL.out]; exact mc_mem hlt)
          have hs0 : ix sn c = 0 := hS c hM2 (fun i hi => by
            rw [← hM1]
            have := plan_once (os := os) (ts := ts) (j := j) (i := i) (by rw [hLL.out]; exact hlt) hi
            rw [hLL.out] at this
            exact this)
          have hS2 : Hid (Sn L os.length (j + 1) (sn.set c 1)) := hS.next hW.1 hM2 hM1 1
          obtain ⟨p, q, r, hpq⟩ : ∃ p q r, Hid (mc L j = (p, q, r)) := ⟨_, _, _, rfl⟩
          rw [hpq.out] at c0 c1 c2 hM1 hM3 hM4 hM5 hM6
          simp only at c0 c1 c2 hM1 hM3 hM4 hM5 hM6
          subst hM1
          clear hM6 hpq
          have hcl' : (c : Int) < (os.length : Int) := by omega
          have hx2 : decide (os.length ≤ c) = false := by simp; omega
          have hx3 : decide ((os.length : Int) ≤ (c : Int)) = false := by simp; omega
          have hqr : (q == r) = false := by simpa using hM4
          clear hM4
          go_wp2_with fail
          have d0 : (wr.alloc (.cells #[.int .i64 (c : Int), .int .i64 q, .int .i64 r] 40)).cell? ⟨wr.heap.size, 0, none⟩ = some (.int .i64 (c : Int)) := by simp [go_sem]
          have d1 : (wr.alloc (.cells #[.int .i64 (c : Int), .int .i64 q, .int .i64 r] 40)).cell? ⟨wr.heap.size, 1, none⟩ = some (.int .i64 q) := by simp [go_sem]
          have d2 : (wr.alloc (.cells #[.int .i64 (c : Int), .int .i64 q, .int .i64 r] 40)).cell? ⟨wr.heap.size, 2, none⟩ = some (.int .i64 r) := by simp [go_sem]
          have bal : Below wr.heap.size wr (wr.alloc (.cells #[.int .i64 (c : Int), .int .i64 q, .int .i64 r] 40)) := (Below.refl _ _).alloc (Nat.le_refl _) _
          have hW2 := hW.below bal
          have hb2 := below2 hb hb.size bal
          have hsz2 := Nat.lt_of_lt_of_le hsz bal.size
          obtain ⟨xb, xo, rfl, e0⟩ := hx7.below hb2 c hM2
          rw [hM3] at e0
          have hhg : wr.heap.size ≠ w7.heap.size := by omega
          clear hW hb c0 c1 c2 bal hM3 hsz
          generalize wr.alloc (.cells #[.int .i64 (c : Int), .int .i64 q, .int .i64 r] 40) = W1 at *
          generalize wr.heap.size = h at *
          have s0 := hW2.2.1 c hM2
          have s1 := hW2.2.2 c hM2
          rw [hs0] at s0
          clear hs0
          go_quiet (fail)
          rcases hM5 with rfl | ⟨i, hi, rfl, hpos⟩
          · go_wp2_with fail
            go_roundw
            case rel => exact ⟨j + 1, by omega, by simp, ⟨_, hW2.set hM2, hS2.out⟩, (below_drewN hb2 _).setCell (Nat.le_refl _) _, by simpa using hsz2⟩
            case measure =>
              simp [intOf]
              omega
          · obtain ⟨nb, no, rfl, e1⟩ := nx.below hb2 i (by rw [exL_len]; exact hi)
            rw [ix_exL hi] at e1
            have hpz : (exI os ts i == 0) = false := by simp; omega
            have hil : (i : Int) < (ts.length : Int) := by omega
            have hng : nb ≠ w7.heap.size := by
              obtain ⟨b5, o5, e5, c5⟩ := nx i (by rw [exL_len]; exact hi)
              cases e5
              have := World.block_lt_of_cell? w7 _ c5
              simp at this
              omega
            clear hpos
            generalize exI os ts i = y at *
            go_wp2_with fail
            go_roundw
            case rel => exact ⟨j + 1, by omega, by simp, ⟨_, hW2.set hM2, hS2.out⟩, (below_drewN hb2 _).setCell (Nat.le_refl _) _, by simpa using hsz2⟩
            case measure =>
              simp [intOf]
              omega
        · obtain rfl : j = L.length := by omega
          go_wp2_with (first | (go_at_call 8; (with_reducible refine (lives_any _).mono ?_); rintro e w9 ⟨rfl, b9⟩))
          go_ret
          have b8 := below2 b7 b7.size hb
          exact ⟨rfl, below2 b8 b8.size b9⟩
end
end Go.Proofs.Ytokigpmkhkldkaa
