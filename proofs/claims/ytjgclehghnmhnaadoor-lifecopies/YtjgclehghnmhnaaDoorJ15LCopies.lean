/- LifeCopies, walked. -/
/- From what the rows list of variables to what the walks ask. -/
import Derived.Test.YtjgclehghnmhnaaDoorJ14LCopies
import Derived.Test.YtjgclehghnmhnaaDoorLfT
import Derived.Test.YtjgclehghnmhnaaDoorRows
import Derived.Lib.LaidTab
import Derived.OpenShut
import Derived.MakeChecks
import Derived.Stop.LaidErr
namespace Go.Proofs.YtjgclehghnmhnaaDoor
open Go Go.RowKit

set_option maxHeartbeats 8000000 in
set_option maxRecDepth 100000 in
theorem copies_any (w : World) (hV : Env w) {a0 a1 : Option Addr} {xs ys : List Sp} (c0 c1 : Nat) (hx : SV w a0 xs) (hy : SV w a1 ys) :
    Calls Tryd.prog 6 #[.slice a0 xs.length c0, .slice a1 ys.length c1] w fun e w' => e = .returned (.bool true) ∧ Below w.heap.size w w' := by
  have HL : ∀ W, Below w.heap.size w W → Calls Tryd.prog 8 #[] W fun e w' => e = .returned (.bool true) ∧ Below W.heap.size W w' := fun W h => lives_any W (hV.on h)
  obtain ⟨n, hN⟩ : ∃ n, Hid (xs.length = n) := ⟨_, rfl⟩
  obtain ⟨m, hM⟩ : ∃ m, Hid (ys.length = m) := ⟨_, rfl⟩
  rw [hN.out, hM.out]
  by_cases h60 : 60 < n
  · have h60' : (60 : Int) < (n : Int) := by omega
    clear h60
    go_enter Tryd.func6, Tryd.ntmps6
    go_wp2_with (first | (go_at_call 9; (refine (tnew_some 6 (by decide) (by decide) _).mono ?_); rintro e w1 ⟨B, T0, rfl, q1, s1⟩) | (go_at_call 10; (refine (rtnew_some 6 (by decide) (by decide) _).mono ?_); rintro e w2 ⟨M, R0, rfl, q2, s2⟩; have hP0 := Pr.new q1 s1 q2 s2) | (go_at_call 8; (with_reducible refine (HL _ hP0.s.below).mono ?_); rintro e w3 ⟨rfl, b3⟩))
    go_ret
    exact ⟨rfl, hP0.s.below.trans (b3.mono hP0.s.below.size)⟩
  · have h60' : ¬ (60 : Int) < (n : Int) := by omega
    have hn60 : n ≤ 60 := by omega
    clear h60
    by_cases m60 : 60 < m
    · have m60' : (60 : Int) < (m : Int) := by omega
      clear m60
      go_enter Tryd.func6, Tryd.ntmps6
      go_wp2_with (first | (go_at_call 9; (refine (tnew_some 6 (by decide) (by decide) _).mono ?_); rintro e w1 ⟨B, T0, rfl, q1, s1⟩) | (go_at_call 10; (refine (rtnew_some 6 (by decide) (by decide) _).mono ?_); rintro e w2 ⟨M, R0, rfl, q2, s2⟩; have hP0 := Pr.new q1 s1 q2 s2) | (go_at_call 8; (with_reducible refine (HL _ hP0.s.below).mono ?_); rintro e w3 ⟨rfl, b3⟩))
      go_ret
      exact ⟨rfl, hP0.s.below.trans (b3.mono hP0.s.below.size)⟩
    · have m60' : ¬ (60 : Int) < (m : Int) := by omega
      have hm60 : m ≤ 60 := by omega
      clear m60
      go_enter Tryd.func6, Tryd.ntmps6
      go_upto_region 5 with (first | (go_at_call 9; (refine (tnew_some 6 (by decide) (by decide) _).mono ?_); rintro e w1 ⟨B, T0, rfl, q1, s1⟩) | (go_at_call 10; (refine (rtnew_some 6 (by decide) (by decide) _).mono ?_); rintro e w2 ⟨M, R0, rfl, q2, s2⟩; have hP0 := Pr.new q1 s1 q2 s2))
      clear q1 q2 s1 s2
      go_loopw [34, 8] (fun v _ wr => ∃ (j : Nat) (T R : List Nat) (σ : Sta), j ≤ n ∧ v = .int .i64 j ∧ Pr w wr B T M R 6 σ) (fun v _ _ => 60 - (intOf v).toNat)
      case atStart => exact ⟨0, T0, R0, _, Nat.zero_le _, rfl, hP0⟩
      case round =>
        obtain ⟨j, T, R, σ, hj, rfl, hp⟩ := hrel
        by_cases hlt : j < n
        · have hlt' : (j : Int) < (n : Int) := by omega
          obtain ⟨b, o, rfl, hat⟩ := hx.below hp.s.below j (by rw [hN.out]; exact hlt)
          have hsr := hat.1
          have hrg := Hid.mk hat.2
          clear hat
          generalize sp xs j = s at *
          have hz0 := Cel.new wr (spA zS) 32
          have hth := hz0.there15
          have hcx : Cel ((wr.alloc (.cells (spA zS) 32)).setCells wr.heap.size 0 (s15 s)) wr.heap.size (spA s) 32 := hz0.st _
          have bA : Below wr.heap.size wr ((wr.alloc (.cells (spA zS) 32)).setCells wr.heap.size 0 (s15 s)) := ((Below.refl _ wr).alloc (Nat.le_refl _) (.cells (spA zS) 32)).trans ((But.setCells _ 0 _).below (by simp) (by simp))
          have p1 := hp.below bA
          have hXo : wr.heap.size ∉ T ++ R := fun e => by have := hp.lt _ e; omega
          rw [zS_A] at *
          go_upto_region 6 with fail
          refine wp_region_lit ?_
          iterate 3 go_step
          refine wpList_load_mid rfl 32 (.tmp 36) rfl b (o + j * 15) rfl (s15 s) _ hsr Tryd.underlying32 rfl size15 ?_
          iterate 3 go_step
          refine wpList_store_mid rfl 32 (.tmp 8) (.tmp 37) rfl wr.heap.size 0 (s15 s).toArray rfl rfl hth size15 (s15_one _) ?_
          rw [show (s15 s).toArray.toList = s15 s from rfl]
          generalize (World.setCells _ wr.heap.size 0 (s15 s)) = w1 at *
          generalize wr.heap.size = X at *
          have hXT : X ∉ T := fun e => hXo (List.mem_append.2 (.inl e))
          have hXR : X ∉ R := fun e => hXo (List.mem_append.2 (.inr e))
          have hrX : w1.rangeAt X 0 (s15 s) := hcx.range15
          generalize (Value.agg (s15 s).toArray) = gs0 at *
          clear hth hsr hcx hXo
          have hA := act_any p1 hV s hrg.out
          clear hp bA
          go_upto_region 7 with fail
          refine wp_region_lit ?_
          iterate 6 go_step
          refine wpList_load_mid rfl 32 (.tmp 8) rfl X 0 rfl (s15 s) _ hrX Tryd.underlying32 rfl size15 ?_
          go_wp2_with (go_at_call 11; (with_reducible refine hA.mono ?_); rintro e w3 ⟨rfl, T2, R2, p2, st2⟩)
          go_roundw
          case rel => exact ⟨j + 1, T2, R2, _, by omega, by simp, p2⟩
          case measure =>
            simp [intOf]
            omega
        · obtain rfl : j = n := by omega
          obtain ⟨wc, hwc⟩ : ∃ x, x = wr := ⟨_, rfl⟩
          subst hwc
          have hVr := hp.env hV
          have hCT := tcopy_any hp.a
          have hCR := fun W (b : Below wc.heap.size wc W) => rtcopy_any (hp.below b).r (by decide)
          go_upto_region 11 with (first | (go_at_call 26; (with_reducible refine hCT.mono ?_); rintro e w3 ⟨B2, T3, rfl, q3, s3⟩; have hCR3 := hCR w3 s3.below) | (go_at_call 27; (with_reducible refine hCR3.mono ?_); rintro e w4 ⟨M2, R4, rfl, q4, s4⟩; have hQ0 := Pr.new q3 s3 q4 s4))
          clear q3 q4 s3 s4 hCT hCR hCR3
          go_loopw [49, 12] (fun v _ w5 => ∃ (j : Nat) (T' R' : List Nat) (τ : Sta), j ≤ m ∧ v = .int .i64 j ∧ Pr wc w5 B2 T' M2 R' 6 τ) (fun v _ _ => 60 - (intOf v).toNat)
          case atStart => exact ⟨0, T3, R4, _, Nat.zero_le _, rfl, hQ0⟩
          case round =>
            obtain ⟨j, T', R', τ, hj, rfl, hq⟩ := hrel
            by_cases hlt : j < m
            · have hlt' : (j : Int) < (m : Int) := by omega
              obtain ⟨b, o, rfl, hat⟩ := (hy.below hp.s.below).below hq.s.below j (by rw [hM.out]; exact hlt)
              have hsr := hat.1
              have hrg := Hid.mk hat.2
              clear hat
              generalize sp ys j = s at *
              have hz0 := Cel.new wr (spA zS) 32
              have hth := hz0.there15
              have hcx : Cel ((wr.alloc (.cells (spA zS) 32)).setCells wr.heap.size 0 (s15 s)) wr.heap.size (spA s) 32 := hz0.st _
              have bA : Below wr.heap.size wr ((wr.alloc (.cells (spA zS) 32)).setCells wr.heap.size 0 (s15 s)) := ((Below.refl _ wr).alloc (Nat.le_refl _) (.cells (spA zS) 32)).trans ((But.setCells _ 0 _).below (by simp) (by simp))
              have p1 := hq.below bA
              have hXo : wr.heap.size ∉ T' ++ R' := fun e => by have := hq.lt _ e; omega
              rw [zS_A] at *
              go_upto_region 12 with fail
              refine wp_region_lit ?_
              iterate 3 go_step
              refine wpList_load_mid rfl 32 (.tmp 51) rfl b (o + j * 15) rfl (s15 s) _ hsr Tryd.underlying32 rfl size15 ?_
              iterate 3 go_step
              refine wpList_store_mid rfl 32 (.tmp 12) (.tmp 52) rfl wr.heap.size 0 (s15 s).toArray rfl rfl hth size15 (s15_one _) ?_
              rw [show (s15 s).toArray.toList = s15 s from rfl]
              generalize (World.setCells _ wr.heap.size 0 (s15 s)) = w1 at *
              generalize wr.heap.size = X at *
              have hXT : X ∉ T' := fun e => hXo (List.mem_append.2 (.inl e))
              have hXR : X ∉ R' := fun e => hXo (List.mem_append.2 (.inr e))
              have hrX : w1.rangeAt X 0 (s15 s) := hcx.range15
              generalize (Value.agg (s15 s).toArray) = gs0 at *
              clear hth hsr hcx hXo
              have hA := act_any p1 hVr s hrg.out
              clear hq bA
              go_upto_region 13 with fail
              refine wp_region_lit ?_
              iterate 6 go_step
              refine wpList_load_mid rfl 32 (.tmp 12) rfl X 0 rfl (s15 s) _ hrX Tryd.underlying32 rfl size15 ?_
              go_wp2_with (go_at_call 11; (with_reducible refine hA.mono ?_); rintro e w6 ⟨rfl, T2, R2, p2, st2⟩)
              go_roundw
              case rel => exact ⟨j + 1, T2, R2, _, by omega, by simp, p2⟩
              case measure =>
                simp [intOf]
                omega
            · obtain rfl : j = m := by omega
              have hpo := hp.below hq.s.below
              clear hQ0 hP0
              have bd : But [] wr wr.drew := (But.refl [] wr).drew
              have po := hpo.keep bd
              have qo := hq.keep bd
              have hVo : Env wr.drew := po.env hV
              have HLO := fun W (b : Below wr.drew.heap.size wr.drew W) => lives_any W (hVo.on b)
              have hFin : Hid (∀ W, Below wr.drew.heap.size wr.drew W → Below w.heap.size w W) := fun W b => po.s.below.trans (b.mono po.s.below.size)
              clear hpo hq hp
              obtain ⟨sl, cc, m1, hav⟩ := po.r.row
              obtain ⟨sl2, cc2, m2, hav2⟩ := qo.r.row
              have hlen := po.r.facts.1
              have hlen2 := qo.r.facts.1
              obtain ⟨l, hl⟩ : ∃ l, Hid (σ.xs.length = l) := ⟨_, rfl⟩
              obtain ⟨l2, hl2⟩ : ∃ l, Hid (τ.xs.length = l) := ⟨_, rfl⟩
              rw [hl.out] at m1 hlen
              rw [hl2.out] at m2 hlen2
              go_upto_region 16 with fail
              refine wp_region_held_drew (S := (fun w' : World => w'.cell? ⟨M, 1, none⟩ = some (.slice sl l cc) ∧ w'.cell? ⟨M2, 1, none⟩ = some (.slice sl2 l2 cc2))) (by kernel_rfl) ⟨m1, m2⟩ (fun hHeld => ?_)
              generalize wr.drew = W1 at *
              have HALL := fun W (b : Below W1.heap.size W1 W) => tall_any (po.below b).a
              have HALL2 := fun W (b : Below W1.heap.size W1 W) => tall_any (qo.below b).a
              have HPL := fun W c a (h : AV W a σ.xs) => plain_any (w := W) (a := a) c h (by rw [hl.out]; exact hlen)
              have HPL2 := fun W c a (h : AV W a τ.xs) => plain_any (w := W) (a := a) c h (by rw [hl2.out]; exact hlen2)
              have HSM := fun W c d a b (h1 : AV W a σ.xs) (h2 : AV W b σ.xs) => rsame_any (w := W) (a := a) (b := b) c d h1 h2 (by rw [hl.out]; exact hlen)
              have HSM2 := fun W c d a b (h1 : AV W a τ.xs) (h2 : AV W b τ.xs) => rsame_any (w := W) (a := a) (b := b) c d h1 h2 (by rw [hl2.out]; exact hlen2)
              rw [hl.out] at HPL HSM
              rw [hl2.out] at HPL2 HSM2
              have b1 : Below W1.heap.size W1 W1 := Below.refl _ _
              refine anyH_take (i := 0) (v := ?_) (some 59) rfl rfl (by kernel_rfl) (fun _ _ _ h => h) (Or.inl ⟨by rfl, ?_⟩) (by assumption) ?_
              rotate_left
              · (intro w hSw; obtain ⟨z0, z1⟩ := hSw; go_simp; all_goals with_reducible rfl)
              try simp only [Act.put, List.setIfInBounds_toArray, List.set_cons_zero, List.set_cons_succ]
              refine anyH_take (i := 3) (v := ?_) (some 62) rfl rfl (by kernel_rfl) (fun _ _ _ h => h) (Or.inl ⟨by rfl, ?_⟩) (by assumption) ?_
              rotate_left
              · (intro w hSw; obtain ⟨z0, z1⟩ := hSw; go_simp; all_goals with_reducible rfl)
              try simp only [Act.put, List.setIfInBounds_toArray, List.set_cons_zero, List.set_cons_succ]
              refine anyH_take (i := 4) (v := ?_) (some 63) rfl rfl (by kernel_rfl) (fun _ _ _ h => h) (Or.inl ⟨by rfl, ?_⟩) (by assumption) ?_
              rotate_left
              · (intro w hSw; obtain ⟨z0, z1⟩ := hSw; go_simp; all_goals with_reducible rfl)
              try simp only [Act.put, List.setIfInBounds_toArray, List.set_cons_zero, List.set_cons_succ]
              refine anyH_take (i := 5) (v := ?_) (some 64) rfl rfl (by kernel_rfl) (fun _ _ _ h => h) (Or.inl ⟨by rfl, ?_⟩) (by assumption) ?_
              rotate_left
              · (intro w hSw; obtain ⟨z0, z1⟩ := hSw; go_simp; all_goals with_reducible rfl)
              try simp only [Act.put, List.setIfInBounds_toArray, List.set_cons_zero, List.set_cons_succ]
              refine anyH_take (i := 6) (v := ?_) (some 65) rfl rfl (by kernel_rfl) (fun _ _ _ h => h) (Or.inl ⟨by rfl, ?_⟩) (by assumption) ?_
              rotate_left
              · (intro w hSw; obtain ⟨z0, z1⟩ := hSw; go_simp; all_goals with_reducible rfl)
              try simp only [Act.put, List.setIfInBounds_toArray, List.set_cons_zero, List.set_cons_succ]
              refine anyH_one (i := 1) (by kernel_rfl) rfl (fun K hK => ?_)
              go_simp
              go_at_call 14
              (with_reducible refine (HALL W1 b1).mono ?_)
              rintro e W2 ⟨v2, rfl, o2, f2⟩
              obtain ⟨a2, c2, e2, -, av2, -⟩ := o2.sl
              rw [hl.out] at e2
              subst e2
              have b2 := b1.trans (f2.mono b1.size)
              refine hK.out _ _ ⟨cell_on b2 m1, cell_on b2 m2⟩ (fun hHeld => ?_)
              clear hK K
              try simp only [Act.put, List.setIfInBounds_toArray, List.set_cons_zero, List.set_cons_succ]
              refine anyH_one (i := 2) (by kernel_rfl) rfl (fun K hK => ?_)
              go_simp
              go_at_call 13
              (with_reducible refine (HPL W2 c2 a2 av2).mono ?_)
              rintro e W3 ⟨v3, rfl, o3, f3⟩
              obtain ⟨a3, c3, e3, -, av3, -⟩ := o3.sl
              rw [hl.out] at e3
              subst e3
              have b3 := b2.trans (f3.mono b2.size)
              refine hK.out _ _ ⟨cell_on b3 m1, cell_on b3 m2⟩ (fun hHeld => ?_)
              clear hK K
              try simp only [Act.put, List.setIfInBounds_toArray, List.set_cons_zero, List.set_cons_succ]
              refine anyH_one (i := 7) (by kernel_rfl) rfl (fun K hK => ?_)
              go_simp
              go_at_call 12
              (with_reducible refine (HSM W3 c3 cc a3 sl av3 (hav W3 b3)).mono ?_)
              rintro e W4 ⟨rfl, f4⟩
              have b4 := b3.trans (f4.mono b3.size)
              refine hK.out _ _ ⟨cell_on b4 m1, cell_on b4 m2⟩ (fun hHeld => ?_)
              clear hK K
              try simp only [Act.put, List.setIfInBounds_toArray, List.set_cons_zero, List.set_cons_succ]
              refine anyH_take (i := 8) (v := ?_) (some 67) rfl rfl (by kernel_rfl) (fun _ _ _ h => h) (Or.inl ⟨by rfl, ?_⟩) (by assumption) ?_
              rotate_left
              · (intro w hSw; obtain ⟨z0, z1⟩ := hSw; go_simp; all_goals with_reducible rfl)
              try simp only [Act.put, List.setIfInBounds_toArray, List.set_cons_zero, List.set_cons_succ]
              refine anyH_take (i := 9) (v := ?_) (some 68) rfl rfl (by kernel_rfl) (fun _ _ _ h => h) (Or.inl ⟨by rfl, ?_⟩) (by assumption) ?_
              rotate_left
              · (intro w hSw; obtain ⟨z0, z1⟩ := hSw; go_simp; all_goals with_reducible rfl)
              try simp only [Act.put, List.setIfInBounds_toArray, List.set_cons_zero, List.set_cons_succ]
              refine anyH_take (i := 12) (v := ?_) (some 71) rfl rfl (by kernel_rfl) (fun _ _ _ h => h) (Or.inl ⟨by rfl, ?_⟩) (by assumption) ?_
              rotate_left
              · (intro w hSw; obtain ⟨z0, z1⟩ := hSw; go_simp; all_goals with_reducible rfl)
              try simp only [Act.put, List.setIfInBounds_toArray, List.set_cons_zero, List.set_cons_succ]
              refine anyH_take (i := 13) (v := ?_) (some 72) rfl rfl (by kernel_rfl) (fun _ _ _ h => h) (Or.inl ⟨by rfl, ?_⟩) (by assumption) ?_
              rotate_left
              · (intro w hSw; obtain ⟨z0, z1⟩ := hSw; go_simp; all_goals with_reducible rfl)
              try simp only [Act.put, List.setIfInBounds_toArray, List.set_cons_zero, List.set_cons_succ]
              refine anyH_take (i := 14) (v := ?_) (some 73) rfl rfl (by kernel_rfl) (fun _ _ _ h => h) (Or.inl ⟨by rfl, ?_⟩) (by assumption) ?_
              rotate_left
              · (intro w hSw; obtain ⟨z0, z1⟩ := hSw; go_simp; all_goals with_reducible rfl)
              try simp only [Act.put, List.setIfInBounds_toArray, List.set_cons_zero, List.set_cons_succ]
              refine anyH_take (i := 15) (v := ?_) (some 74) rfl rfl (by kernel_rfl) (fun _ _ _ h => h) (Or.inl ⟨by rfl, ?_⟩) (by assumption) ?_
              rotate_left
              · (intro w hSw; obtain ⟨z0, z1⟩ := hSw; go_simp; all_goals with_reducible rfl)
              try simp only [Act.put, List.setIfInBounds_toArray, List.set_cons_zero, List.set_cons_succ]
              refine anyH_one (i := 10) (by kernel_rfl) rfl (fun K hK => ?_)
              go_simp
              go_at_call 14
              (with_reducible refine (HALL2 W4 b4).mono ?_)
              rintro e W5 ⟨v5, rfl, o5, f5⟩
              obtain ⟨a5, c5, e5, -, av5, -⟩ := o5.sl
              rw [hl2.out] at e5
              subst e5
              have b5 := b4.trans (f5.mono b4.size)
              refine hK.out _ _ ⟨cell_on b5 m1, cell_on b5 m2⟩ (fun hHeld => ?_)
              clear hK K
              try simp only [Act.put, List.setIfInBounds_toArray, List.set_cons_zero, List.set_cons_succ]
              refine anyH_one (i := 11) (by kernel_rfl) rfl (fun K hK => ?_)
              go_simp
              go_at_call 13
              (with_reducible refine (HPL2 W5 c5 a5 av5).mono ?_)
              rintro e W6 ⟨v6, rfl, o6, f6⟩
              obtain ⟨a6, c6, e6, -, av6, -⟩ := o6.sl
              rw [hl2.out] at e6
              subst e6
              have b6 := b5.trans (f6.mono b5.size)
              refine hK.out _ _ ⟨cell_on b6 m1, cell_on b6 m2⟩ (fun hHeld => ?_)
              clear hK K
              try simp only [Act.put, List.setIfInBounds_toArray, List.set_cons_zero, List.set_cons_succ]
              refine anyH_one (i := 16) (by kernel_rfl) rfl (fun K hK => ?_)
              go_simp
              go_at_call 12
              (with_reducible refine (HSM2 W6 c6 cc2 a6 sl2 av6 (hav2 W6 b6)).mono ?_)
              rintro e W7 ⟨rfl, f7⟩
              have b7 := b6.trans (f7.mono b6.size)
              refine hK.out _ _ ⟨cell_on b7 m1, cell_on b7 m2⟩ (fun hHeld => ?_)
              clear hK K
              try simp only [Act.put, List.setIfInBounds_toArray, List.set_cons_zero, List.set_cons_succ]
              refine anyH_take (i := 17) (v := ?_) (some 76) rfl rfl (by kernel_rfl) (fun _ _ _ h => h) (Or.inl ⟨by rfl, ?_⟩) (by assumption) ?_
              rotate_left
              · (intro w hSw; obtain ⟨z0, z1⟩ := hSw; go_simp; all_goals with_reducible rfl)
              try simp only [Act.put, List.setIfInBounds_toArray, List.set_cons_zero, List.set_cons_succ]
              refine anyH_take (i := 18) (v := ?_) (some 77) rfl rfl (by kernel_rfl) (fun _ _ _ h => h) (Or.inl ⟨by rfl, ?_⟩) (by assumption) ?_
              rotate_left
              · (intro w hSw; obtain ⟨z0, z1⟩ := hSw; go_simp; all_goals with_reducible rfl)
              try simp only [Act.put, List.setIfInBounds_toArray, List.set_cons_zero, List.set_cons_succ]
              refine anyH_one (i := 19) (by kernel_rfl) rfl (fun K hK => ?_)
              go_simp
              go_at_call 8
              (with_reducible refine (HLO W7 b7).mono ?_)
              rintro e W8 ⟨rfl, f8⟩
              have b8 := b7.trans (f8.mono b7.size)
              refine hK.out _ _ ⟨cell_on b8 m1, cell_on b8 m2⟩ (fun hHeld => ?_)
              clear hK K
              try simp only [Act.put, List.setIfInBounds_toArray, List.set_cons_zero, List.set_cons_succ]
              refine anyH_take (i := 20) (v := ?_) (some 79) rfl rfl (by kernel_rfl) (fun _ _ _ h => h) (Or.inl ⟨by rfl, ?_⟩) (by assumption) ?_
              rotate_left
              · (intro w hSw; obtain ⟨z0, z1⟩ := hSw; go_simp; all_goals with_reducible rfl)
              try simp only [Act.put, List.setIfInBounds_toArray, List.set_cons_zero, List.set_cons_succ]
              refine anyH_take (i := 21) (v := ?_) (some 4) rfl rfl (by kernel_rfl) (fun _ _ _ h => h) (Or.inl ⟨by rfl, ?_⟩) (by assumption) ?_
              rotate_left
              · (intro w hSw; obtain ⟨z0, z1⟩ := hSw; go_simp; all_goals with_reducible rfl)
              try simp only [Act.put, List.setIfInBounds_toArray, List.set_cons_zero, List.set_cons_succ]
              refine wpAnyH_done (by kernel_rfl) ?_ _
              have hfin := hFin.out _ b8
              go_wp2_with fail
              go_ret
              exact ⟨rfl, hfin⟩
end Go.Proofs.YtjgclehghnmhnaaDoor
namespace Go.Proofs.YtjgclehghnmhnaaDoor
open Go Go.RowKit

theorem deb_datum : Rows.laid_math_bits_deBruijn64tab (H := Unit) = Lib.tabData .u8 (Lib.deBruijn64tab.map Int.ofNat) := by kernel_rfl
theorem deb_global : Tryd.prog.globalNamed "math/bits.deBruijn64tab" = some 1 := by kernel_rfl
theorem deb_type : (Tryd.prog.globals[1]?).map (·.type) = some 125 := by kernel_rfl
theorem fol_datum : Rows.laid_wherry_life_follows (H := Unit) = Lib.tabData .u8 (folL.map Int.ofNat) := by kernel_rfl
theorem fol_global : Tryd.prog.globalNamed "wherry/life.follows" = some 0 := by kernel_rfl
theorem fol_type : (Tryd.prog.globals[0]?).map (·.type) = some 112 := by kernel_rfl
theorem lt_of_cell {W : World} {b j : Nat} {v : Value} (h : W.cell? ⟨b, j, none⟩ = some v) : b < W.heap.size := World.block_lt_of_cell? W ⟨b, j, none⟩ h
theorem deb_of {W : World} {rest : List (String × DataW Unit)} (h : laidMet Tryd.prog (("math/bits.deBruijn64tab", Rows.laid_math_bits_deBruijn64tab) :: rest) W) : Tab W := by
  rw [deb_datum] at h
  have hT := Lib.tabIs_of_head deb_global deb_type Tryd.underlying125 Tryd.underlying5 (by kernel_rfl) (by kernel_rfl) h
  have hc : TabAt 1 Lib.deBruijn64tab W := by
    intro j hj
    have := hT.cell deb_global j (by simpa using hj)
    rw [this]
    congr 2
    simp only [List.getD_eq_getElem?_getD, List.getElem?_map]
    cases Lib.deBruijn64tab[j]? <;> rfl
  exact ⟨lt_of_cell (hc 0 (by decide)), hc⟩
theorem fol_of {W : World} {rest : List (String × DataW Unit)} (h : laidMet Tryd.prog (("wherry/life.follows", Rows.laid_wherry_life_follows) :: rest) W) : Fol W := by
  rw [fol_datum] at h
  have hT := Lib.tabIs_of_head fol_global fol_type Tryd.underlying112 Tryd.underlying86 (by kernel_rfl) (by kernel_rfl) h
  have hc : ∀ (j x : Nat), folL[j]? = some x → W.cell? ⟨0, j, none⟩ = some (.int .u8 (x : Int)) := fun j x hx => by
    have hj := (List.getElem?_eq_some_iff.1 hx).1
    have := hT.cell fol_global j (by simpa using hj)
    rw [this]
    congr 2
    simp only [List.getD_eq_getElem?_getD, List.getElem?_map, hx]
    rfl
  exact ⟨lt_of_cell (hc 0 0 rfl), hc⟩
end Go.Proofs.YtjgclehghnmhnaaDoor
