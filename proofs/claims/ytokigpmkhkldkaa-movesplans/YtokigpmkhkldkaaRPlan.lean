/- Contract of the reference's Plan. -/
import Derived.Test.YtokigpmkhkldkaaRNeed
import Derived.Test.YtokigpmkhkldkaaReachWalk
namespace Go.Proofs.Ytokigpmkhkldkaa
open Go.RowKit

theorem WB.belowB {w w' : World} {B G n : Nat} {xs : List Int} (h : WB w G n xs) (hb : Below B w w') (hg : G < B) : WB w' G n xs :=
  ⟨h.1, fun j hj => (hb.cell (p := ⟨G, j, none⟩) hg).trans (h.2.1 j hj), fun j hj => (hb.frozen (p := ⟨G, j, none⟩) hg).trans (h.2.2 j hj)⟩
theorem OI.other {w : World} {B G j : Nat} {v u : Value} {xs : List Int} (h : OI w B v xs) (hg : G < B) : OI (w.setCell ⟨G, j, none⟩ u) B v xs :=
  ownsRow_put h (fun k hk => Below.heap_setCell w ⟨G, j, none⟩ u k (fun e => by
    have := (World.ownsRow.lt h k hk).1
    have e' : k = G := e
    omega))
theorem OI.at_ {w : World} {B : Nat} {v : Value} {xs : List Int} (h : OI w B v xs) : ∃ a c, v = .slice a xs.length c := by
  obtain ⟨a, c, e, _⟩ := h.ix_
  exact ⟨a, c, e⟩
/-- What is grown at B or above turns nothing below. -/
theorem grown_below {B : Nat} {w w1 : World} {v : Value} {xs : List Int} (hg : w.grownBy w1 v.ownBlock) (ho : OI w B v xs) (hB : B ≤ w.heap.size) : Below B w w1 := below_grown (Below.refl _ _) hg ho hB
theorem dropN {CS : List Nat} {k : Nat} (hk : k < CS.length) : CS.drop k = CS.getD k 0 :: CS.drop (k + 1) := by
  rw [List.drop_eq_getElem_cons hk, List.getD_eq_getElem?_getD, List.getElem?_eq_getElem hk]; rfl
theorem dropI {PS : List Int} {k : Nat} (hk : k < PS.length) : PS.drop k = ix PS k :: PS.drop (k + 1) := by
  unfold ix
  rw [List.drop_eq_getElem_cons hk, List.getD_eq_getElem?_getD, List.getElem?_eq_getElem hk]; rfl
theorem cz_ix {CS : List Nat} {k : Nat} (hk : k < CS.length) : ix (cz CS) k = ((CS.getD k 0 : Nat) : Int) := by
  unfold ix cz
  rw [List.getD_eq_getElem?_getD, List.getElem?_map, List.getD_eq_getElem?_getD, List.getElem?_eq_getElem hk]; rfl

section
variable {w : World} {xa ya : Option Addr} {xc yc : Nat} {os ts : List Int}

set_option maxRecDepth 100000 in
set_option maxHeartbeats 8000000 in
theorem rplan_any (hx : IX w xa os) (hy : IX w ya ts) (hz : Sz os) (hzt : Sz ts) (ot : OkX ts) :
    Calls Try.prog 12 #[.slice xa os.length xc, .slice ya ts.length yc] w fun e w' => ∃ a c, e = .returned (.slice a (planA os ts).length c) ∧ MV w' a (planA os ts) ∧ Below w.heap.size w w' := by
  have A := right_any (xc := xc) (yc := yc) hx hy hz hzt
  cases hg : rightB os ts
  · have h1 : planA os ts = [] := if_neg (fun h => by rw [hg] at h; exact absurd h.1 (by decide))
    rw [h1]
    rw [hg] at A
    clear hg h1
    go_enter Try.func12, Try.ntmps12
    go_wp2_with (first | (go_at_call 29; (with_reducible refine A.mono ?_); rintro e w2 ⟨rfl, b2⟩))
    go_ret
    exact ⟨none, 0, rfl, MV.nil _ _, b2⟩
  rw [hg] at A
  obtain ⟨t0, hgood⟩ := right_iff.1 hg
  obtain ⟨g1, g2, g3, g4⟩ := good_iff.1 hgood
  have hts : ts.length ≤ 64 := by omega
  have N := fun W (h : Below w.heap.size w W) => rneedV_any (xc := xc) (yc := yc) (hx.below h) (hy.below h) hz hzt ot hg
  have hgg : Hid (rightB os ts = true) := hg
  clear hg hgood g2 g3 g4
  go_enter Try.func12, Try.ntmps12
  go_wp2_with (first | (go_at_call 29; (with_reducible refine A.mono ?_); rintro e w2 ⟨rfl, b2⟩))
  clear A
  go_loopw [30, 5] (fun v u wr => ∃ j : Nat, j ≤ ts.length ∧ v = .int .i64 j ∧ (∃ k : Int, u = .int .i64 k ∧ (0 ≤ k ∧ k ≤ 64) ∧ enB (os.length : Int) ts = enB k (ts.drop j)) ∧ Below w.heap.size w wr) (fun v _ _ => 100 - (intOf v).toNat)
  case atStart => exact ⟨0, Nat.zero_le _, rfl, ⟨(os.length : Int), rfl, ⟨by omega, by omega⟩, rfl⟩, b2⟩
  case round =>
    clear b2
    obtain ⟨j, hj, rfl, ⟨k, rfl, ⟨k0, k1⟩, hk⟩, hb⟩ := hrel
    by_cases hlt : j < ts.length
    · obtain ⟨b, o, rfl, c0⟩ := hy.below hb j hlt
      have hlt' : (j : Int) < (ts.length : Int) := by omega
      rw [en_drop hlt] at hk
      have hx0 := t0 j hlt
      by_cases q1 : k < ix ts j
      · have h1 : Hid (planA os ts = []) := if_neg (fun h => by rw [hk, if_pos q1] at h; exact absurd h.2 (by decide))
        clear hk N
        generalize ix ts j = x at *
        go_wp2_with fail
        go_ret
        exact ⟨none, 0, by rw [h1.out]; rfl, by rw [h1.out]; exact MV.nil _ _, hb⟩
      have q1' : decide (k < ix ts j) = false := by simp; omega
      have hk2 : Hid (enB (os.length : Int) ts = enB (k - ix ts j) (ts.drop (j + 1))) := by rw [if_neg q1] at hk; exact hk
      have hx1 : ix ts j ≤ k := by omega
      clear hk q1 N
      generalize ix ts j = x at *
      go_wp2_with fail
      go_roundw
      case rel => exact ⟨j + 1, by omega, by simp, ⟨k - x, by simp, ⟨by omega, by omega⟩, hk2.out⟩, hb⟩
      case measure =>
        simp [intOf]
        omega
    · obtain rfl : j = ts.length := by omega
      rw [en_all] at hk
      have hV : V os ts := ⟨hgg.out, hk⟩
      have hPA : Hid (planA os ts = planL os ts) := planA_v hV
      have hexb : ∀ i, i < ts.length → 0 ≤ exI os ts i ∧ exI os ts i ≤ 64 := fun i hi => hV.ex_bd hi
      have hlkb : ∀ i, i < ts.length → 0 ≤ lkI os ts i ∧ lkI os ts i ≤ 64 := fun i hi => hV.lk_bd hi
      have hlkb2 : ∀ i, i < (lkL os ts).length → 0 ≤ ix (lkL os ts) i ∧ ix (lkL os ts) i ≤ 64 := fun i hi => by
        rw [lkL_len] at hi
        rw [ix_lkL hi]
        exact hV.lk_bd hi
      clear hk hV k0 k1 hgg t0
      have N' := N _ hb
      clear N
      go_wp2_with (first | (go_at_call 17; (with_reducible refine N'.mono ?_); rintro e w4 ⟨e1, e2, rfl, hee, wb1, wb2, b4'⟩; have b4 := below2 hb hb.size b4'))
      have hE : Hid (e1 ≠ e2 ∧ w.heap.size ≤ e1 ∧ w.heap.size ≤ e2 ∧ e1 < w4.heap.size ∧ e2 < w4.heap.size) := ⟨hee.1, Nat.le_trans hb.size hee.2.1, Nat.le_trans hb.size hee.2.2.1, hee.2.2.2⟩
      clear hee b4' hb N'
      go_loopw [49, 10] (fun v u wr => ∃ j : Nat, j ≤ os.length ∧ v = .int .i64 j ∧ (∃ a c, u = .slice a (cz (up os 0 j)).length c ∧ OI wr w4.heap.size (.slice a (cz (up os 0 j)).length c) (cz (up os 0 j))) ∧ Below w4.heap.size w4 wr) (fun v _ _ => 100 - (intOf v).toNat)
      case atStart => exact ⟨0, Nat.zero_le _, rfl, ⟨none, 0, rfl, OI.nil _ _⟩, Below.refl _ _⟩
      case round =>
        obtain ⟨j, hj, rfl, ⟨a, c, rfl, ho⟩, hb⟩ := hrel
        by_cases hlt : j < os.length
        · have hb0 := b4.trans (hb.mono b4.size)
          obtain ⟨b, o, rfl, c0⟩ := hx.below hb0 j hlt
          have hlt' : (j : Int) < (os.length : Int) := by omega
          by_cases he : ix os j = 0
          · have hnx : Hid (up os 0 (j + 1) = up os 0 j ++ [j]) := by unfold Hid; rw [up, if_pos he]
            have ho2 := ho.below ((Below.refl _ _).alloc (Nat.le_refl _) (.cells #[.int .i64 (j : Int)] 3))
            have hb2 := hb.alloc hb.size (.cells #[.int .i64 (j : Int)] 3)
            have hm1 := ix_one wr (j : Int)
            have hll : Hid ((cz (up os 0 j)).length ≤ 64) := by unfold Hid; have := up_len_le os 0 j; rw [cz_len]; omega
            rw [he] at c0
            clear he ho
            go_wp2_with (first
              | (at_builtin; refine wpList_appI rfl _ _ rfl w4.heap.size _ (cz (up os 0 j)) rfl ho2 _ _ _ [(j : Int)] rfl rfl hm1 (by have := hll.out; omega) hb2.size ?_; intro v3 w3 ho3 hg3 _; rw [← cz_one, ← cz_app, ← hnx.out] at ho3; obtain ⟨a3, c3, rfl⟩ := ho3.at_))
            have hb3 := below_grown hb2 hg3 ho2 hb2.size
            go_roundw
            case rel => exact ⟨j + 1, by omega, by simp, ⟨a3, c3, rfl, ho3⟩, hb3⟩
            case measure =>
              simp [intOf]
              omega
          · have hnx : Hid (up os 0 (j + 1) = up os 0 j) := by unfold Hid; rw [up, if_neg he]
            have he' : (ix os j == 0) = false := by simpa using he
            clear he
            generalize ix os j = q at *
            go_wp2_with fail
            go_roundw
            case rel => exact ⟨j + 1, by omega, by simp, ⟨a, c, by rw [hnx.out], by rw [hnx.out]; exact ho⟩, hb⟩
            case measure =>
              simp [intOf]
              omega
        · obtain rfl : j = os.length := by omega
          have e0 : up os 0 os.length = goC os (exL os ts) 0 := by rw [goC, fl, List.append_nil]
          rw [e0] at ho ⊢
          clear e0
          have hb0 := b4.trans (hb.mono b4.size)
          have wb1' := wb1.below hb
          have wb2' := wb2.below hb
          have hsz0 : w4.heap.size ≤ wr.heap.size := hb.size
          have hexL : ∀ k, 0 ≤ k → k < ts.length → ix (exL os ts) k = exI os ts k := fun k _ hk => ix_exL hk
          clear wb1 wb2 b4 hb
          generalize w4.heap.size = B0 at *
          go_wp2_with fail
          go_loopw [63, 10] (fun v u wr => ∃ i : Nat, i ≤ ts.length ∧ v = .int .i64 i ∧ (∃ a c, u = .slice a (cz (goC os (exL os ts) i)).length c ∧ OI wr B0 (.slice a (cz (goC os (exL os ts) i)).length c) (cz (goC os (exL os ts) i))) ∧ (∃ mr, WB wr e1 ts.length mr ∧ ∀ k, i ≤ k → k < ts.length → ix mr k = exI os ts k) ∧ WB wr e2 ts.length (lkL os ts) ∧ Below w.heap.size w wr ∧ B0 ≤ wr.heap.size) (fun v _ _ => 100 - (intOf v).toNat)
          case atStart => exact ⟨0, Nat.zero_le _, rfl, ⟨a, c, rfl, ho⟩, ⟨_, wb1', hexL⟩, wb2', hb0, hsz0⟩
          case round =>
            clear wb1' wb2' ho hexL hb0 hsz0
            obtain ⟨i, hi, rfl, ⟨a, c, rfl, ho⟩, ⟨mr, hm1, hm2⟩, hw2, hb, hsz⟩ := hrel
            by_cases hlt : i < ts.length
            · have hlt' : (i : Int) < (ts.length : Int) := by omega
              have hmi := hm2 i (Nat.le_refl _) hlt
              have hxi := hexb i hlt
              have hgn : Hid (goC os (exL os ts) i ++ (dn os ((i : Int) + 1) os.length).take (ix mr i).toNat = goC os (exL os ts) (i + 1)) := by unfold Hid; rw [goC_next, ix_exL hlt, hmi]; rfl
              have hgl : Hid ((goC os (exL os ts) (i + 1)).length ≤ 5000) := by unfold Hid; have := goC_len_le (os := os) (exL os ts) g1 (i + 1); omega
              have hm3 : Hid ((0 ≤ ix mr i ∧ ix mr i ≤ 64) ∧ ∀ k, i < k → k < ts.length → ix mr k = exI os ts k) := ⟨by rw [hmi]; exact hxi, fun k h1 h2 => hm2 k (by omega) h2⟩
              clear hm2 hmi hxi
              go_wp2_with fail
              go_loopw [15, 10] (fun v u wr => ∃ (k : Nat) (z : Int), k ≤ os.length ∧ v = .int .i64 z ∧ z = (k : Int) - 1 ∧ (∃ (X : List Nat) (mr : List Int) (a : Option Addr) (c : Nat), u = .slice a (cz X).length c ∧ OI wr B0 (.slice a (cz X).length c) (cz X) ∧ WB wr e1 ts.length mr ∧ (0 ≤ ix mr i ∧ ix mr i ≤ 64) ∧ X ++ (dn os ((i : Int) + 1) k).take (ix mr i).toNat = goC os (exL os ts) (i + 1) ∧ ∀ k, i < k → k < ts.length → ix mr k = exI os ts k) ∧ WB wr e2 ts.length (lkL os ts) ∧ Below w.heap.size w wr ∧ B0 ≤ wr.heap.size) (fun v _ _ => (intOf v + 1).toNat)
              case atStart => exact ⟨os.length, (os.length : Int) - 1, Nat.le_refl _, rfl, rfl, ⟨_, mr, a, c, rfl, ho, hm1, hm3.out.1, hgn.out, hm3.out.2⟩, hw2, hb, hsz⟩
              case round =>
                clear ho hm1 hm3 hgn hw2 hb hsz
                obtain ⟨k, z, hk, rfl, hz1, ⟨X, mr, a, c, rfl, ho, hm1, ⟨hr0, hr1⟩, heq, hm2⟩, hw2, hb, hsz⟩ := hrel
                by_cases h0 : k = 0
                · subst h0
                  have hz' : decide (0 ≤ z) = false := by simp; omega
                  have heq' : Hid (X = goC os (exL os ts) (i + 1)) := Hid.mk (by simpa [dn] using heq)
                  clear heq hz1
                  go_wp2_with fail
                  go_roundw
                  case rel => exact ⟨i + 1, by omega, by simp, ⟨a, c, by rw [← heq'.out], by rw [← heq'.out]; exact ho⟩, ⟨mr, hm1, fun k h1 h2 => hm2 k (by omega) h2⟩, hw2, hb, hsz⟩
                  case measure =>
                    simp [intOf]
                    omega
                · obtain ⟨k, rfl⟩ : ∃ k', k = k' + 1 := ⟨k - 1, by omega⟩
                  obtain rfl : z = (k : Int) := by omega
                  have hkl : k < os.length := by omega
                  have hkl' : (k : Int) < (os.length : Int) := by omega
                  have x1 := hm1.2.1 i hlt
                  obtain ⟨b, o, rfl, c0⟩ := hx.below hb k hkl
                  by_cases hN : 0 < ix mr i
                  · obtain ⟨M, hM⟩ : ∃ M : Nat, ix mr i = (M : Int) + 1 := ⟨(ix mr i - 1).toNat, by omega⟩
                    by_cases he : ix os k = (i : Int) + 1
                    · have heq2 : Hid ((X ++ [k]) ++ (dn os ((i : Int) + 1) k).take M = goC os (exL os ts) (i + 1)) := by
                        unfold Hid
                        rw [← heq, dn, if_pos he, hM, show ((M : Int) + 1).toNat = M + 1 by omega, List.take_succ_cons]
                        simp
                      have hXl : Hid ((cz X).length ≤ 5000) := by
                        unfold Hid
                        have h1 := congrArg List.length heq
                        have h2 := hgl.out
                        rw [List.length_append] at h1
                        rw [cz_len]
                        omega
                      have ho2 := ho.below ((Below.refl _ _).alloc (Nat.le_refl _) (.cells #[.int .i64 (k : Int)] 3))
                      have hb2 := hb.alloc hb.size (.cells #[.int .i64 (k : Int)] 3)
                      have hq1 := ix_one wr (k : Int)
                      have bal : Below wr.heap.size wr (wr.alloc (.cells #[.int .i64 (k : Int)] 3)) := (Below.refl _ _).alloc (Nat.le_refl _) _
                      have hsz2 : B0 ≤ (wr.alloc (.cells #[.int .i64 (k : Int)] 3)).heap.size := Nat.le_trans hsz bal.size
                      have hm1' := hm1.below bal
                      have hw2' := hw2.below bal
                      have hset : Hid (∀ k', i < k' → k' < ts.length → ix (mr.set i (M : Int)) k' = exI os ts k') := fun k' h1 h2 => by
                        rw [ix_set (by rw [hm1.1]; exact hlt), if_neg (by omega)]
                        exact hm2 k' h1 h2
                      have hseti : Hid (ix (mr.set i (M : Int)) i = (M : Int)) := by unfold Hid; rw [ix_set (by rw [hm1.1]; exact hlt), if_pos rfl]
                      have hM64 : M ≤ 64 := by omega
                      have hEo := hE.out
                      rw [he] at c0
                      rw [hM] at x1
                      have hMi : Hid (ix mr i = (M : Int) + 1) := hM
                      clear heq hz1 he hN h0 hM hr0 hr1 ho hm2 bal hEo
                      go_wp2_with (first
                        | (at_builtin; refine wpList_appI rfl _ _ rfl B0 _ (cz X) rfl ho2 _ _ _ [(k : Int)] rfl rfl hq1 (by have := hXl.out; omega) hsz2 ?_; intro v3 w3 ho3 hg3 _; rw [← cz_one, ← cz_app] at ho3; obtain ⟨a3, c3, rfl⟩ := ho3.at_; have gb := grown_below hg3 ho2 hsz2; have hm3 := hm1'.belowB gb hE.out.2.2.2.1; have hw3 := hw2'.belowB gb hE.out.2.2.2.2; have y1 := hm3.2.1 i hlt; have y2 := hm3.2.2 i hlt; rw [hMi.out] at y1))
                      have hb3 := hb2.trans (gb.mono (Nat.le_trans hE.out.2.1 (Nat.le_of_lt hE.out.2.2.2.1)))
                      have hsz3 := Nat.le_trans hsz2 hg3.size
                      go_roundw
                      case rel =>
                        refine ⟨k, (k : Int) - 1, by omega, by simp, rfl, ⟨X ++ [k], mr.set i (M : Int), a3, c3, rfl, ho3.other hE.out.2.2.2.1, hm3.set hlt, by rw [hseti.out]; exact ⟨by omega, by omega⟩, by rw [hseti.out, show ((M : Nat) : Int).toNat = M from Int.toNat_natCast M]; exact heq2.out, hset.out⟩, hw3.other hE.out.1 _, hb3.setCell hE.out.2.1 _, by simpa using hsz3⟩
                      case measure =>
                        simp [intOf]
                    · have heq2 : Hid (X ++ (dn os ((i : Int) + 1) k).take (ix mr i).toNat = goC os (exL os ts) (i + 1)) := by
                        rw [dn, if_neg he] at heq
                        exact heq
                      have he' : (ix os k == (i : Int) + 1) = false := by simpa using he
                      have hr2 : Hid (0 ≤ ix mr i ∧ ix mr i ≤ 64) := ⟨hr0, hr1⟩
                      clear heq hz1 he h0 hM hr0 hr1
                      generalize ix os k = q at *
                      go_wp2_with fail
                      go_roundw
                      case rel => exact ⟨k, (k : Int) - 1, by omega, by simp, rfl, ⟨X, mr, a, c, rfl, ho, hm1, hr2.out, heq2.out, hm2⟩, hw2, hb, hsz⟩
                      case measure =>
                        simp [intOf]
                  · have hN' : decide (0 < ix mr i) = false := by simp; omega
                    have heq' : Hid (X = goC os (exL os ts) (i + 1)) := Hid.mk (by
                      rw [show (ix mr i).toNat = 0 by omega] at heq
                      simpa using heq)
                    clear heq hz1 hN hr0 hr1
                    generalize ix mr i = x at *
                    go_wp2_with fail
                    go_roundw
                    case rel => exact ⟨i + 1, by omega, by simp, ⟨a, c, by rw [← heq'.out], by rw [← heq'.out]; exact ho⟩, ⟨mr, hm1, fun k h1 h2 => hm2 k (by omega) h2⟩, hw2, hb, hsz⟩
                    case measure =>
                      simp [intOf]
                      omega
            · obtain rfl : i = ts.length := by omega
              have hcs : IX wr a (cz (goC os (exL os ts) ts.length)) := by
                obtain ⟨ca, cc, ecs, _, hcs⟩ := ho.ix_
                cases ecs
                exact hcs
              have hlk := hw2.ix
              have hgo := goC_spec os (exL os ts) ts.length
              have hlen1 := goC_len_le (os := os) (exL os ts) g1 ts.length
              have hL : Hid ((∀ x ∈ goC os (exL os ts) ts.length, x < os.length) ∧ (goC os (exL os ts) ts.length).length ≤ 5000 ∧ mk os (goC os (exL os ts) ts.length) (plC (lkL os ts) ts.length) = planL os ts) := ⟨fun x hx => (hgo.2 x hx).1, by omega, rfl⟩
              clear ho hm1 hm2 hw2 hsz hgo hlen1 hE hexb
              generalize goC os (exL os ts) ts.length = CS at *
              obtain ⟨WD, hWD⟩ : ∃ W, W = wr := ⟨_, rfl⟩
              subst hWD
              have hbD : Hid (Below w.heap.size w WD) := hb
              clear hb
              go_wp2_with fail
              go_loopw [100, 11] (fun v u wr => ∃ j : Nat, j ≤ ts.length ∧ v = .int .i64 j ∧ (∃ a c, u = .slice a (plC (lkL os ts) j).length c ∧ OI wr WD.heap.size (.slice a (plC (lkL os ts) j).length c) (plC (lkL os ts) j)) ∧ Below WD.heap.size WD wr) (fun v _ _ => 100 - (intOf v).toNat)
              case atStart => exact ⟨0, Nat.zero_le _, rfl, ⟨none, 0, rfl, OI.nil _ _⟩, Below.refl _ _⟩
              case round =>
                obtain ⟨j, hj, rfl, ⟨pa, pc, rfl, ho⟩, hb⟩ := hrel
                by_cases hlt : j < ts.length
                · have hlt' : (j : Int) < (ts.length : Int) := by omega
                  obtain ⟨b, o, e5, c0⟩ := hlk.below hb j (by rw [lkL_len]; exact hlt)
                  obtain ⟨rfl, rfl⟩ : e2 = b ∧ 0 = o := by cases e5; exact ⟨rfl, rfl⟩
                  clear e5
                  rw [Nat.zero_add, ix_lkL hlt] at c0
                  obtain ⟨N, hN⟩ := Int.eq_ofNat_of_zero_le (hlkb j hlt).1
                  have hN64 : N ≤ 64 := by have := (hlkb j hlt).2; omega
                  have hnx : Hid (plC (lkL os ts) j ++ List.replicate N ((j : Int) + 1) = plC (lkL os ts) (j + 1)) := Hid.mk (by rw [plC_next, ix_lkL hlt, hN]; rfl)
                  have hlen : Hid ((plC (lkL os ts) j).length ≤ 5000) := by
                    unfold Hid
                    have := plC_len_le hlkb2 j (by rw [lkL_len]; omega)
                    omega
                  rw [hN] at c0
                  clear hN
                  generalize plC (lkL os ts) j = PJ at *
                  go_wp2_with fail
                  go_loopw [17, 11] (fun v u wr => ∃ (m : Nat) (z : Int), m ≤ N ∧ v = .int .i64 z ∧ z = (m : Int) ∧ (∃ Y a c, Y = PJ ++ List.replicate (N - m) ((j : Int) + 1) ∧ u = .slice a Y.length c ∧ OI wr WD.heap.size (.slice a Y.length c) Y) ∧ Below WD.heap.size WD wr) (fun v _ _ => (intOf v).toNat)
                  case atStart => exact ⟨N, (N : Int), Nat.le_refl _, rfl, rfl, ⟨PJ, pa, pc, by simp, rfl, ho⟩, hb⟩
                  case round =>
                    clear ho hb c0
                    obtain ⟨m, z, hm, rfl, hz1, ⟨Y, a2, c2, hY, rfl, ho⟩, hb⟩ := hrel
                    by_cases h0 : m = 0
                    · subst h0
                      obtain rfl : z = 0 := hz1
                      rw [Nat.sub_zero, hnx.out] at hY
                      have hY' : Hid (Y = plC (lkL os ts) (j + 1)) := hY
                      clear hY hnx
                      go_wp2_with fail
                      go_roundw
                      case rel => exact ⟨j + 1, by omega, by simp, ⟨a2, c2, by rw [← hY'.out], by rw [← hY'.out]; exact ho⟩, hb⟩
                      case measure =>
                        simp [intOf]
                        omega
                    · have hzp : 0 < z := by omega
                      have hz64 : z ≤ 64 := by omega
                      have hYn : Hid (Y ++ [(j : Int) + 1] = PJ ++ List.replicate (N - (m - 1)) ((j : Int) + 1)) := by
                        unfold Hid
                        rw [hY, List.append_assoc, ← List.replicate_succ', show N - m + 1 = N - (m - 1) by omega]
                      have hYl : Hid (Y.length ≤ 6000) := by
                        unfold Hid
                        rw [hY, List.length_append, List.length_replicate]
                        have := hlen.out
                        omega
                      have hzm : Hid (z - 1 = ((m - 1 : Nat) : Int)) := Hid.mk (by omega)
                      have ho2 := ho.below ((Below.refl _ _).alloc (Nat.le_refl _) (.cells #[.int .i64 ((j : Int) + 1)] 3))
                      have hb2 := hb.alloc hb.size (.cells #[.int .i64 ((j : Int) + 1)] 3)
                      have hq1 := ix_one wr ((j : Int) + 1)
                      clear hY hz1 ho
                      go_wp2_with (first
                        | (at_builtin; refine wpList_appI rfl _ _ rfl WD.heap.size _ Y rfl ho2 _ _ _ [(j : Int) + 1] rfl rfl hq1 (by have := hYl.out; omega) hb2.size ?_; intro v3 w3 ho3 hg3 _; obtain ⟨a3, c3, rfl⟩ := ho3.at_))
                      have hb3 := below_grown hb2 hg3 ho2 hb2.size
                      go_roundw
                      case rel => exact ⟨m - 1, z - 1, by omega, by simp, hzm.out, ⟨Y ++ [(j : Int) + 1], a3, c3, hYn.out, by simp, ho3⟩, hb3⟩
                      case measure =>
                        simp [intOf]
                        omega
                · obtain rfl : j = ts.length := by omega
                  have hps : IX wr pa (plC (lkL os ts) ts.length) := by
                    obtain ⟨ca, cc, ecs, _, hcs⟩ := ho.ix_
                    cases ecs
                    exact hcs
                  have hcs2 := hcs.below hb
                  have hbE : Hid (Below w.heap.size w wr) := below2 hbD.out hbD.out.size hb
                  clear ho hb hbD hcs hlk hlkb hlkb2
                  generalize plC (lkL os ts) ts.length = PS at *
                  obtain ⟨WE, hWE⟩ : ∃ W, W = wr := ⟨_, rfl⟩
                  subst hWE
                  have hcl : (cz CS).length = CS.length := cz_len CS
                  have hCS : (cz CS).length ≤ 5000 := by rw [hcl]; exact hL.out.2.1
                  have hcl' : Hid ((cz CS).length = CS.length) := hcl
                  clear hcl
                  go_wp2_with fail
                  go_loopw [117, 18] (fun v u wr => ∃ k : Nat, k ≤ (cz CS).length ∧ v = .int .i64 k ∧ (∃ acc a c, u = .slice a acc.length c ∧ OM wr WE.heap.size (.slice a acc.length c) acc ∧ acc ++ mk os (CS.drop k) (PS.drop k) = planL os ts ∧ acc.length ≤ k) ∧ Below WE.heap.size WE wr) (fun v _ _ => 6000 - (intOf v).toNat)
                  case atStart => exact ⟨0, Nat.zero_le _, rfl, ⟨[], none, 0, rfl, OM.nil _ _, hL.out.2.2, Nat.le_refl _⟩, Below.refl _ _⟩
                  case round =>
                    obtain ⟨k, hk, rfl, ⟨acc, a2, c2, rfl, ho, hacc, hale⟩, hb⟩ := hrel
                    have hbw := below2 hbE.out hbE.out.size hb
                    by_cases hlt : k < (cz CS).length
                    · have hlt' : (k : Int) < ((cz CS).length : Int) := by omega
                      have hlt2 : k < CS.length := by rw [← hcl'.out]; exact hlt
                      obtain ⟨b, o, rfl, c0⟩ := hcs2.below hb k hlt
                      rw [cz_ix hlt2] at c0
                      have hcm : CS.getD k 0 < os.length := hL.out.1 _ (by rw [List.getD_eq_getElem?_getD, List.getElem?_eq_getElem hlt2]; exact List.getElem_mem hlt2)
                      have hdr := dropN hlt2
                      rw [hdr] at hacc
                      clear hdr
                      generalize CS.getD k 0 = cc at *
                      have hcm' : (cc : Int) < (os.length : Int) := by omega
                      obtain ⟨b3, o3, rfl, d0⟩ := hx.below hbw cc hcm
                      by_cases hp : k < PS.length
                      · have hp' : (k : Int) < (PS.length : Int) := by omega
                        obtain ⟨b4, o4, rfl, f0⟩ := hps.below hb k hp
                        have hmk : mk os (cc :: CS.drop (k + 1)) (PS.drop k) = if ix os cc = ix PS k then mk os (CS.drop (k + 1)) (PS.drop (k + 1)) else ((cc : Int), ix os cc, ix PS k) :: mk os (CS.drop (k + 1)) (PS.drop (k + 1)) := by
                          rw [mk, dropI hp]; rfl
                        generalize ix PS k = pt at *
                        by_cases he : pt = ix os cc
                        · have hm2 : Hid (acc ++ mk os (CS.drop (k + 1)) (PS.drop (k + 1)) = planL os ts) := by unfold Hid; rw [← hacc, hmk, if_pos he.symm]
                          rw [← he] at d0
                          clear hacc hmk he
                          go_wp2_with fail
                          go_roundw
                          case rel => exact ⟨k + 1, by omega, by simp, ⟨acc, a2, c2, rfl, ho, hm2.out, by omega⟩, hb⟩
                          case measure =>
                            simp [intOf]
                            omega
                        · have hm2 : Hid ((acc ++ [((cc : Int), ix os cc, pt)]) ++ mk os (CS.drop (k + 1)) (PS.drop (k + 1)) = planL os ts) := by unfold Hid; rw [← hacc, hmk, if_neg (fun e => he e.symm)]; simp
                          have hne : (pt != ix os cc) = true := by simpa using he
                          have hal : Hid (acc.length ≤ 6000) := Hid.mk (by omega)
                          have hal2 : Hid ((acc ++ [((cc : Int), ix os cc, pt)]).length ≤ k + 1) := Hid.mk (by rw [List.length_append]; simp; omega)
                          clear hacc hmk he
                          generalize ix os cc = f at *
                          have ho2 := ho.below ((Below.refl _ _).alloc (Nat.le_refl _) (.cells #[.int .i64 (cc : Int), .int .i64 f, .int .i64 pt] 44))
                          have hb2 := hb.alloc hb.size (.cells #[.int .i64 (cc : Int), .int .i64 f, .int .i64 pt] 44)
                          have hq1 := mv_one wr (cc : Int) f pt 44
                          clear ho
                          go_wp2_with (first
                            | (at_builtin; refine wpList_appM rfl _ _ rfl WE.heap.size _ acc rfl ho2 _ _ _ [((cc : Int), f, pt)] rfl rfl hq1 (by have := hal.out; omega) hb2.size ?_; intro v3 w3 ho3 hg3 _; obtain ⟨a3, c3, rfl⟩ := ho3.at_ rfl))
                          have hb3 := below_grown hb2 hg3 ho2 hb2.size
                          go_roundw
                          case rel => exact ⟨k + 1, by omega, by simp, ⟨acc ++ [((cc : Int), f, pt)], a3, c3, by simp, ho3, hm2.out, hal2.out⟩, hb3⟩
                          case measure =>
                            simp [intOf]
                            omega
                      · have hp' : decide (k < PS.length) = false := by simpa using hp
                        have hmk : mk os (cc :: CS.drop (k + 1)) (PS.drop k) = if ix os cc = 0 then mk os (CS.drop (k + 1)) (PS.drop (k + 1)) else ((cc : Int), ix os cc, 0) :: mk os (CS.drop (k + 1)) (PS.drop (k + 1)) := by
                          rw [List.drop_eq_nil_of_le (show PS.length ≤ k by omega), List.drop_eq_nil_of_le (show PS.length ≤ k + 1 by omega), mk]; rfl
                        clear hp
                        by_cases he : 0 = ix os cc
                        · have hm2 : Hid (acc ++ mk os (CS.drop (k + 1)) (PS.drop (k + 1)) = planL os ts) := by unfold Hid; rw [← hacc, hmk, if_pos he.symm]
                          rw [← he] at d0
                          clear hacc hmk he
                          go_wp2_with fail
                          go_roundw
                          case rel => exact ⟨k + 1, by omega, by simp, ⟨acc, a2, c2, rfl, ho, hm2.out, by omega⟩, hb⟩
                          case measure =>
                            simp [intOf]
                            omega
                        · have hm2 : Hid ((acc ++ [((cc : Int), ix os cc, 0)]) ++ mk os (CS.drop (k + 1)) (PS.drop (k + 1)) = planL os ts) := by unfold Hid; rw [← hacc, hmk, if_neg (fun e => he e.symm)]; simp
                          have hne : ((0 : Int) != ix os cc) = true := by simpa using he
                          have hal : Hid (acc.length ≤ 6000) := Hid.mk (by omega)
                          have hal2 : Hid ((acc ++ [((cc : Int), ix os cc, 0)]).length ≤ k + 1) := Hid.mk (by rw [List.length_append]; simp; omega)
                          clear hacc hmk he
                          generalize ix os cc = f at *
                          have ho2 := ho.below ((Below.refl _ _).alloc (Nat.le_refl _) (.cells #[.int .i64 (cc : Int), .int .i64 f, .int .i64 0] 44))
                          have hb2 := hb.alloc hb.size (.cells #[.int .i64 (cc : Int), .int .i64 f, .int .i64 0] 44)
                          have hq1 := mv_one wr (cc : Int) f 0 44
                          clear ho
                          go_wp2_with (first
                            | (at_builtin; refine wpList_appM rfl _ _ rfl WE.heap.size _ acc rfl ho2 _ _ _ [((cc : Int), f, 0)] rfl rfl hq1 (by have := hal.out; omega) hb2.size ?_; intro v3 w3 ho3 hg3 _; obtain ⟨a3, c3, rfl⟩ := ho3.at_ rfl))
                          have hb3 := below_grown hb2 hg3 ho2 hb2.size
                          go_roundw
                          case rel => exact ⟨k + 1, by omega, by simp, ⟨acc ++ [((cc : Int), f, 0)], a3, c3, by simp, ho3, hm2.out, hal2.out⟩, hb3⟩
                          case measure =>
                            simp [intOf]
                            omega
                    · obtain rfl : k = (cz CS).length := by omega
                      have hfin : Hid (acc = planA os ts) := by
                        unfold Hid
                        rw [hPA.out, ← hacc, hcl'.out, List.drop_length]
                        simp [mk]
                      have hmv : MV wr a2 acc := by
                        obtain ⟨ca, cc, ecs, _, hmv⟩ := ho.mv_
                        cases ecs
                        exact hmv
                      clear hacc ho
                      go_wp2_with fail
                      go_ret
                      exact ⟨a2, c2, by rw [← hfin.out]; rfl, by rw [← hfin.out]; exact hmv, hbw⟩
end
end Go.Proofs.Ytokigpmkhkldkaa
