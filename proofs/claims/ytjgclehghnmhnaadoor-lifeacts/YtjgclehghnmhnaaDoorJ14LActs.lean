/- LifeActs, walked. -/
/- From what the rows list of variables to what the walks ask. -/
import Derived.Test.YtjgclehghnmhnaaDoorJ13LActs
import Derived.Test.YtjgclehghnmhnaaDoorLfT
import Derived.Test.YtjgclehghnmhnaaDoorRows
import Derived.Lib.LaidTab
import Derived.OpenShut
import Derived.MakeChecks
import Derived.Stop.LaidErr
namespace Go.Proofs.YtjgclehghnmhnaaDoor
open Go Go.RowKit

set_option maxHeartbeats 8000000 in
set_option maxRecDepth 100000 in
theorem acts_any (w : World) (hV : Env w) (m : Int) {a0 : Option Addr} {xs : List Sp} (c0 : Nat) (hx : SV w a0 xs) :
    Calls Tryd.prog 3 #[.int .i64 m, .slice a0 xs.length c0] w fun e w' => e = .returned (.bool true) ∧ Below w.heap.size w w' := by
  have HL : ∀ W, Below w.heap.size w W → Calls Tryd.prog 8 #[] W fun e w' => e = .returned (.bool true) ∧ Below W.heap.size W w' := fun W h => lives_any W (hV.on h)
  obtain ⟨n, hN⟩ : ∃ n, Hid (xs.length = n) := ⟨_, rfl⟩
  rw [hN.out]
  by_cases h80 : 80 < n
  · have h80' : (80 : Int) < (n : Int) := by omega
    clear h80
    go_enter Tryd.func3, Tryd.ntmps3
    go_wp2_with (go_at_call 8; (with_reducible refine (HL _ (Below.refl _ _)).mono ?_); rintro e w1 ⟨rfl, b1⟩)
    go_ret
    exact ⟨rfl, b1⟩
  · have h80' : ¬ (80 : Int) < (n : Int) := by omega
    have hn80 : n ≤ 80 := by omega
    clear h80
    by_cases hm : m < 1 ∨ 4096 < m
    · have hT := tnew_none m hm
      have hR := rtnew_none m hm
      clear hm
      go_enter Tryd.func3, Tryd.ntmps3
      go_wp2_with (first | (go_at_call 9; (with_reducible refine (hT _).mono ?_); rintro e w1 ⟨rfl, h1⟩; rw [h1]; clear h1) | (go_at_call 10; (with_reducible refine (hR _).mono ?_); rintro e w2 ⟨rfl, h2⟩; rw [h2]; clear h2) | (go_at_call 8; (with_reducible refine (HL _ (Below.refl _ _)).mono ?_); rintro e w3 ⟨rfl, b3⟩))
      go_ret
      exact ⟨rfl, b3⟩
    · obtain ⟨N, hNm⟩ : ∃ N : Nat, m = N := ⟨m.toNat, by omega⟩
      subst hNm
      have h1 : 1 ≤ N := by omega
      have h2 : N ≤ 4096 := by omega
      have hT := tnew_some N h1 h2
      have hR := rtnew_some N h1 h2
      clear hm h1 h2
      go_enter Tryd.func3, Tryd.ntmps3
      go_upto_region 9 with (first | (go_at_call 9; (with_reducible refine (hT _).mono ?_); rintro e w1 ⟨B, T0, rfl, q1, s1⟩) | (go_at_call 10; (with_reducible refine (hR _).mono ?_); rintro e w2 ⟨M, R0, rfl, q2, s2⟩; have hP0 := Pr.new q1 s1 q2 s2))
      clear hT hR q1 q2 s1 s2
      go_loopw [31, 8, 9, 10, 11, 12] (fun v _ _ _ _ _ wr => ∃ (j : Nat) (T R : List Nat) (σ : Sta), j ≤ n ∧ v = .int .i64 j ∧ Pr w wr B T M R N σ) (fun v _ _ _ _ _ _ => 80 - (intOf v).toNat)
      case atStart => exact ⟨0, T0, R0, _, Nat.zero_le _, rfl, hP0⟩
      case round =>
        obtain ⟨j, T, R, σ, hj, rfl, hp⟩ := hrel
        by_cases hlt : j < n
        · have hlt' : (j : Int) < (n : Int) := by omega
          obtain ⟨b, o, rfl, hat⟩ := hx.below hp.s.below j (by rw [hN.out]; exact hlt)
          have hsr := hat.1
          have hrg := Hid.mk hat.2
          clear hat
          generalize sp xs j = s at *
          have hz0 := Cel.new wr (spA zS) 32
          have hth := hz0.there15
          have hcx : Cel ((wr.alloc (.cells (spA zS) 32)).setCells wr.heap.size 0 (s15 s)) wr.heap.size (spA s) 32 := hz0.st _
          have bA : Below wr.heap.size wr ((wr.alloc (.cells (spA zS) 32)).setCells wr.heap.size 0 (s15 s)) := ((Below.refl _ wr).alloc (Nat.le_refl _) (.cells (spA zS) 32)).trans ((But.setCells _ 0 _).below (by simp) (by simp))
          have p1 := hp.below bA
          have hXo : wr.heap.size ∉ T ++ R := fun e => by have := hp.lt _ e; omega
          rw [zS_A] at *
          go_upto_region 10 with fail
          refine wp_region_lit ?_
          iterate 3 go_step
          refine wpList_load_mid rfl 32 (.tmp 33) rfl b (o + j * 15) rfl (s15 s) _ hsr Tryd.underlying32 rfl size15 ?_
          iterate 3 go_step
          refine wpList_store_mid rfl 32 (.tmp 8) (.tmp 34) rfl wr.heap.size 0 (s15 s).toArray rfl rfl hth size15 (s15_one _) ?_
          rw [show (s15 s).toArray.toList = s15 s from rfl]
          generalize (World.setCells _ wr.heap.size 0 (s15 s)) = w1 at *
          generalize wr.heap.size = X at *
          have hXT : X ∉ T := fun e => hXo (List.mem_append.2 (.inl e))
          have hXR : X ∉ R := fun e => hXo (List.mem_append.2 (.inr e))
          have hrX : w1.rangeAt X 0 (s15 s) := hcx.range15
          generalize (Value.agg (s15 s).toArray) = gs0 at *
          clear hth hsr hcx hXo
          have bd : But [] w1 w1.drew := (But.refl [] w1).drew
          have pd := p1.keep bd
          have z0 : w1.drew.rangeAt X 0 (s15 s) := hrX
          have hA := act_any pd hV s hrg.out
          clear hp bA p1 bd hrX
          go_upto_region 11 with fail
          refine wp_region_held_drew (S := (fun w' : World => w'.rangeAt X 0 (s15 s))) (by kernel_rfl) z0 (fun hHeld => ?_)
          generalize w1.drew = W1 at *
          refine anyH_take (i := 0) (v := ?_) (some 35) rfl rfl (by kernel_rfl) (fun _ _ _ h => h) (Or.inl ⟨by rfl, ?_⟩) (by assumption) ?_
          rotate_left
          · (intro w hSw; go_simp; all_goals with_reducible rfl)
          try simp only [Act.put, List.setIfInBounds_toArray, List.set_cons_zero, List.set_cons_succ]
          refine anyH_take (i := 1) (v := ?_) (some 36) rfl rfl (by kernel_rfl) (fun _ _ _ h => h) (Or.inl ⟨by rfl, ?_⟩) (by assumption) ?_
          rotate_left
          · (intro w hSw; go_simp; all_goals with_reducible rfl)
          try simp only [Act.put, List.setIfInBounds_toArray, List.set_cons_zero, List.set_cons_succ]
          refine anyH_take (i := 2) (v := .agg (s15 s).toArray) (some 37) rfl rfl (by kernel_rfl) (fun _ _ _ h => h) (yieldsIf_load_mid (by rfl) 32 (.tmp 8) rfl _ 0 rfl (s15 s) _ (fun w hSw => hSw) Tryd.underlying32 rfl size15) (by assumption) ?_
          try simp only [Act.put, List.setIfInBounds_toArray, List.set_cons_zero, List.set_cons_succ]
          refine anyH_one (i := 3) (by kernel_rfl) rfl (fun K hK => ?_)
          go_simp
          go_at_call 11
          (with_reducible refine hA.mono ?_)
          rintro e w2 ⟨rfl, T2, R2, p2, st2⟩
          have z2 : w2.rangeAt X 0 (s15 s) := range_but z0 st2.but (fun e => (List.mem_append.1 e).elim hXT hXR)
          refine hK.out _ _ z2 (fun hHeld => ?_)
          clear hK K hA
          try simp only [Act.put, List.setIfInBounds_toArray, List.set_cons_zero, List.set_cons_succ]
          generalize actS σ s = τ at *
          obtain ⟨sl, cc, m1, hav⟩ := p2.r.row
          have hlen := p2.r.facts.1
          have k1 : w2.cell? ⟨X, 1, none⟩ = some (.int .i64 s.i) := z2 1 _ rfl
          have k2 : w2.cell? ⟨X, 2, none⟩ = some (.int .i64 s.n) := z2 2 _ rfl
          obtain ⟨l, hl⟩ : ∃ l, Hid (τ.xs.length = l) := ⟨_, rfl⟩
          rw [hl.out] at m1 hlen
          have HALL := fun W (b : Below w2.heap.size w2 W) => tall_any (p2.below b).a
          have HPL := fun W c a (h : AV W a τ.xs) => plain_any (w := W) (a := a) c h (by rw [hl.out]; exact hlen)
          have HSM := fun W c d a b (h1 : AV W a τ.xs) (h2 : AV W b τ.xs) => rsame_any (w := W) (a := a) (b := b) c d h1 h2 (by rw [hl.out]; exact hlen)
          have HCN := fun W (b : Below w2.heap.size w2 W) => tcount_any (p2.below b).a s.n s.i
          have HCR := fun W (b : Below w2.heap.size w2 W) => rcount_any (p2.below b).r s.n s.i
          rw [hl.out] at HPL HSM
          refine anyH_mono (S2 := (fun w' : World => w'.rangeAt X 0 (s15 s) ∧ w'.cell? ⟨M, 1, none⟩ = some (.slice sl l cc))) (fun _ h => h.1) ?_
          replace hHeld : ((fun w' : World => w'.rangeAt X 0 (s15 s) ∧ w'.cell? ⟨M, 1, none⟩ = some (.slice sl l cc))) _ := ⟨z2, m1⟩
          refine anyH_take (i := 4) (v := ?_) (some 39) rfl rfl (by kernel_rfl) (fun _ _ _ h => h) (Or.inl ⟨by rfl, ?_⟩) (by assumption) ?_
          rotate_left
          · (intro w hSw; obtain ⟨zr, zm⟩ := hSw; have q1 : w.cell? ⟨X, 1, none⟩ = some (.int .i64 s.i) := zr 1 _ rfl; have q2 : w.cell? ⟨X, 2, none⟩ = some (.int .i64 s.n) := zr 2 _ rfl; go_simp; all_goals with_reducible rfl)
          try simp only [Act.put, List.setIfInBounds_toArray, List.set_cons_zero, List.set_cons_succ]
          refine anyH_take (i := 5) (v := ?_) (some 40) rfl rfl (by kernel_rfl) (fun _ _ _ h => h) (Or.inl ⟨by rfl, ?_⟩) (by assumption) ?_
          rotate_left
          · (intro w hSw; obtain ⟨zr, zm⟩ := hSw; have q1 : w.cell? ⟨X, 1, none⟩ = some (.int .i64 s.i) := zr 1 _ rfl; have q2 : w.cell? ⟨X, 2, none⟩ = some (.int .i64 s.n) := zr 2 _ rfl; go_simp; all_goals with_reducible rfl)
          try simp only [Act.put, List.setIfInBounds_toArray, List.set_cons_zero, List.set_cons_succ]
          refine anyH_take (i := 6) (v := ?_) (some 41) rfl rfl (by kernel_rfl) (fun _ _ _ h => h) (Or.inl ⟨by rfl, ?_⟩) (by assumption) ?_
          rotate_left
          · (intro w hSw; obtain ⟨zr, zm⟩ := hSw; have q1 : w.cell? ⟨X, 1, none⟩ = some (.int .i64 s.i) := zr 1 _ rfl; have q2 : w.cell? ⟨X, 2, none⟩ = some (.int .i64 s.n) := zr 2 _ rfl; go_simp; all_goals with_reducible rfl)
          try simp only [Act.put, List.setIfInBounds_toArray, List.set_cons_zero, List.set_cons_succ]
          refine anyH_take (i := 9) (v := ?_) (some 44) rfl rfl (by kernel_rfl) (fun _ _ _ h => h) (Or.inl ⟨by rfl, ?_⟩) (by assumption) ?_
          rotate_left
          · (intro w hSw; obtain ⟨zr, zm⟩ := hSw; have q1 : w.cell? ⟨X, 1, none⟩ = some (.int .i64 s.i) := zr 1 _ rfl; have q2 : w.cell? ⟨X, 2, none⟩ = some (.int .i64 s.n) := zr 2 _ rfl; go_simp; all_goals with_reducible rfl)
          try simp only [Act.put, List.setIfInBounds_toArray, List.set_cons_zero, List.set_cons_succ]
          refine anyH_take (i := 10) (v := ?_) (some 45) rfl rfl (by kernel_rfl) (fun _ _ _ h => h) (Or.inl ⟨by rfl, ?_⟩) (by assumption) ?_
          rotate_left
          · (intro w hSw; obtain ⟨zr, zm⟩ := hSw; have q1 : w.cell? ⟨X, 1, none⟩ = some (.int .i64 s.i) := zr 1 _ rfl; have q2 : w.cell? ⟨X, 2, none⟩ = some (.int .i64 s.n) := zr 2 _ rfl; go_simp; all_goals with_reducible rfl)
          try simp only [Act.put, List.setIfInBounds_toArray, List.set_cons_zero, List.set_cons_succ]
          refine anyH_take (i := 11) (v := ?_) (some 46) rfl rfl (by kernel_rfl) (fun _ _ _ h => h) (Or.inl ⟨by rfl, ?_⟩) (by assumption) ?_
          rotate_left
          · (intro w hSw; obtain ⟨zr, zm⟩ := hSw; have q1 : w.cell? ⟨X, 1, none⟩ = some (.int .i64 s.i) := zr 1 _ rfl; have q2 : w.cell? ⟨X, 2, none⟩ = some (.int .i64 s.n) := zr 2 _ rfl; go_simp; all_goals with_reducible rfl)
          try simp only [Act.put, List.setIfInBounds_toArray, List.set_cons_zero, List.set_cons_succ]
          refine anyH_take (i := 12) (v := ?_) (some 47) rfl rfl (by kernel_rfl) (fun _ _ _ h => h) (Or.inl ⟨by rfl, ?_⟩) (by assumption) ?_
          rotate_left
          · (intro w hSw; obtain ⟨zr, zm⟩ := hSw; have q1 : w.cell? ⟨X, 1, none⟩ = some (.int .i64 s.i) := zr 1 _ rfl; have q2 : w.cell? ⟨X, 2, none⟩ = some (.int .i64 s.n) := zr 2 _ rfl; go_simp; all_goals with_reducible rfl)
          try simp only [Act.put, List.setIfInBounds_toArray, List.set_cons_zero, List.set_cons_succ]
          refine anyH_one (i := 7) (by kernel_rfl) rfl (fun K hK => ?_)
          go_simp
          go_at_call 14
          (with_reducible refine (HALL w2 (Below.refl _ _)).mono ?_)
          rintro e w3 ⟨v3, rfl, o3, b3⟩
          obtain ⟨a3, c3, e3, -, av3, -⟩ := o3.sl
          rw [hl.out] at e3
          subst e3
          have y3 := range_below z2 b3
          have x3 := cell_on b3 m1
          refine hK.out _ _ ⟨y3, x3⟩ (fun hHeld => ?_)
          clear hK K
          try simp only [Act.put, List.setIfInBounds_toArray, List.set_cons_zero, List.set_cons_succ]
          refine anyH_one (i := 8) (by kernel_rfl) rfl (fun K hK => ?_)
          go_simp
          go_at_call 13
          (with_reducible refine (HPL w3 c3 a3 av3).mono ?_)
          rintro e w4 ⟨v4, rfl, o4, b4⟩
          obtain ⟨a4, c4, e4, -, av4, -⟩ := o4.sl
          rw [hl.out] at e4
          subst e4
          have b34 := b3.trans (b4.mono b3.size)
          have y4 := range_below z2 b34
          have x4 := cell_on b34 m1
          refine hK.out _ _ ⟨y4, x4⟩ (fun hHeld => ?_)
          clear hK K
          try simp only [Act.put, List.setIfInBounds_toArray, List.set_cons_zero, List.set_cons_succ]
          refine anyH_one (i := 13) (by kernel_rfl) rfl (fun K hK => ?_)
          go_simp
          go_at_call 12
          (with_reducible refine (HSM w4 c4 cc a4 sl av4 (hav w4 b34)).mono ?_)
          rintro e w5 ⟨rfl, b5⟩
          have b35 := b34.trans (b5.mono b34.size)
          have y5 := range_below z2 b35
          have x5 := cell_on b35 m1
          refine hK.out _ _ ⟨y5, x5⟩ (fun hHeld => ?_)
          clear hK K
          try simp only [Act.put, List.setIfInBounds_toArray, List.set_cons_zero, List.set_cons_succ]
          refine anyH_take (i := 14) (v := ?_) (some 49) rfl rfl (by kernel_rfl) (fun _ _ _ h => h) (Or.inl ⟨by rfl, ?_⟩) (by assumption) ?_
          rotate_left
          · (intro w hSw; obtain ⟨zr, zm⟩ := hSw; have q1 : w.cell? ⟨X, 1, none⟩ = some (.int .i64 s.i) := zr 1 _ rfl; have q2 : w.cell? ⟨X, 2, none⟩ = some (.int .i64 s.n) := zr 2 _ rfl; go_simp; all_goals with_reducible rfl)
          try simp only [Act.put, List.setIfInBounds_toArray, List.set_cons_zero, List.set_cons_succ]
          refine anyH_take (i := 15) (v := ?_) (some 50) rfl rfl (by kernel_rfl) (fun _ _ _ h => h) (Or.inl ⟨by rfl, ?_⟩) (by assumption) ?_
          rotate_left
          · (intro w hSw; obtain ⟨zr, zm⟩ := hSw; have q1 : w.cell? ⟨X, 1, none⟩ = some (.int .i64 s.i) := zr 1 _ rfl; have q2 : w.cell? ⟨X, 2, none⟩ = some (.int .i64 s.n) := zr 2 _ rfl; go_simp; all_goals with_reducible rfl)
          try simp only [Act.put, List.setIfInBounds_toArray, List.set_cons_zero, List.set_cons_succ]
          refine anyH_take (i := 16) (v := ?_) (some 51) rfl rfl (by kernel_rfl) (fun _ _ _ h => h) (Or.inl ⟨by rfl, ?_⟩) (by assumption) ?_
          rotate_left
          · (intro w hSw; obtain ⟨zr, zm⟩ := hSw; have q1 : w.cell? ⟨X, 1, none⟩ = some (.int .i64 s.i) := zr 1 _ rfl; have q2 : w.cell? ⟨X, 2, none⟩ = some (.int .i64 s.n) := zr 2 _ rfl; go_simp; all_goals with_reducible rfl)
          try simp only [Act.put, List.setIfInBounds_toArray, List.set_cons_zero, List.set_cons_succ]
          refine anyH_take (i := 17) (v := ?_) (some 52) rfl rfl (by kernel_rfl) (fun _ _ _ h => h) (Or.inl ⟨by rfl, ?_⟩) (by assumption) ?_
          rotate_left
          · (intro w hSw; obtain ⟨zr, zm⟩ := hSw; have q1 : w.cell? ⟨X, 1, none⟩ = some (.int .i64 s.i) := zr 1 _ rfl; have q2 : w.cell? ⟨X, 2, none⟩ = some (.int .i64 s.n) := zr 2 _ rfl; go_simp; all_goals with_reducible rfl)
          try simp only [Act.put, List.setIfInBounds_toArray, List.set_cons_zero, List.set_cons_succ]
          refine anyH_take (i := 18) (v := ?_) (some 53) rfl rfl (by kernel_rfl) (fun _ _ _ h => h) (Or.inl ⟨by rfl, ?_⟩) (by assumption) ?_
          rotate_left
          · (intro w hSw; obtain ⟨zr, zm⟩ := hSw; have q1 : w.cell? ⟨X, 1, none⟩ = some (.int .i64 s.i) := zr 1 _ rfl; have q2 : w.cell? ⟨X, 2, none⟩ = some (.int .i64 s.n) := zr 2 _ rfl; go_simp; all_goals with_reducible rfl)
          try simp only [Act.put, List.setIfInBounds_toArray, List.set_cons_zero, List.set_cons_succ]
          refine anyH_take (i := 19) (v := ?_) (some 54) rfl rfl (by kernel_rfl) (fun _ _ _ h => h) (Or.inl ⟨by rfl, ?_⟩) (by assumption) ?_
          rotate_left
          · (intro w hSw; obtain ⟨zr, zm⟩ := hSw; have q1 : w.cell? ⟨X, 1, none⟩ = some (.int .i64 s.i) := zr 1 _ rfl; have q2 : w.cell? ⟨X, 2, none⟩ = some (.int .i64 s.n) := zr 2 _ rfl; go_simp; all_goals with_reducible rfl)
          try simp only [Act.put, List.setIfInBounds_toArray, List.set_cons_zero, List.set_cons_succ]
          refine anyH_take (i := 20) (v := ?_) (some 55) rfl rfl (by kernel_rfl) (fun _ _ _ h => h) (Or.inl ⟨by rfl, ?_⟩) (by assumption) ?_
          rotate_left
          · (intro w hSw; obtain ⟨zr, zm⟩ := hSw; have q1 : w.cell? ⟨X, 1, none⟩ = some (.int .i64 s.i) := zr 1 _ rfl; have q2 : w.cell? ⟨X, 2, none⟩ = some (.int .i64 s.n) := zr 2 _ rfl; go_simp; all_goals with_reducible rfl)
          try simp only [Act.put, List.setIfInBounds_toArray, List.set_cons_zero, List.set_cons_succ]
          refine anyH_take (i := 21) (v := ?_) (some 56) rfl rfl (by kernel_rfl) (fun _ _ _ h => h) (Or.inl ⟨by rfl, ?_⟩) (by assumption) ?_
          rotate_left
          · (intro w hSw; obtain ⟨zr, zm⟩ := hSw; have q1 : w.cell? ⟨X, 1, none⟩ = some (.int .i64 s.i) := zr 1 _ rfl; have q2 : w.cell? ⟨X, 2, none⟩ = some (.int .i64 s.n) := zr 2 _ rfl; go_simp; all_goals with_reducible rfl)
          try simp only [Act.put, List.setIfInBounds_toArray, List.set_cons_zero, List.set_cons_succ]
          refine anyH_take (i := 23) (v := ?_) (some 58) rfl rfl (by kernel_rfl) (fun _ _ _ h => h) (Or.inl ⟨by rfl, ?_⟩) (by assumption) ?_
          rotate_left
          · (intro w hSw; obtain ⟨zr, zm⟩ := hSw; have q1 : w.cell? ⟨X, 1, none⟩ = some (.int .i64 s.i) := zr 1 _ rfl; have q2 : w.cell? ⟨X, 2, none⟩ = some (.int .i64 s.n) := zr 2 _ rfl; go_simp; all_goals with_reducible rfl)
          try simp only [Act.put, List.setIfInBounds_toArray, List.set_cons_zero, List.set_cons_succ]
          refine anyH_take (i := 24) (v := ?_) (some 59) rfl rfl (by kernel_rfl) (fun _ _ _ h => h) (Or.inl ⟨by rfl, ?_⟩) (by assumption) ?_
          rotate_left
          · (intro w hSw; obtain ⟨zr, zm⟩ := hSw; have q1 : w.cell? ⟨X, 1, none⟩ = some (.int .i64 s.i) := zr 1 _ rfl; have q2 : w.cell? ⟨X, 2, none⟩ = some (.int .i64 s.n) := zr 2 _ rfl; go_simp; all_goals with_reducible rfl)
          try simp only [Act.put, List.setIfInBounds_toArray, List.set_cons_zero, List.set_cons_succ]
          refine anyH_take (i := 25) (v := ?_) (some 60) rfl rfl (by kernel_rfl) (fun _ _ _ h => h) (Or.inl ⟨by rfl, ?_⟩) (by assumption) ?_
          rotate_left
          · (intro w hSw; obtain ⟨zr, zm⟩ := hSw; have q1 : w.cell? ⟨X, 1, none⟩ = some (.int .i64 s.i) := zr 1 _ rfl; have q2 : w.cell? ⟨X, 2, none⟩ = some (.int .i64 s.n) := zr 2 _ rfl; go_simp; all_goals with_reducible rfl)
          try simp only [Act.put, List.setIfInBounds_toArray, List.set_cons_zero, List.set_cons_succ]
          refine anyH_take (i := 26) (v := ?_) (some 61) rfl rfl (by kernel_rfl) (fun _ _ _ h => h) (Or.inl ⟨by rfl, ?_⟩) (by assumption) ?_
          rotate_left
          · (intro w hSw; obtain ⟨zr, zm⟩ := hSw; have q1 : w.cell? ⟨X, 1, none⟩ = some (.int .i64 s.i) := zr 1 _ rfl; have q2 : w.cell? ⟨X, 2, none⟩ = some (.int .i64 s.n) := zr 2 _ rfl; go_simp; all_goals with_reducible rfl)
          try simp only [Act.put, List.setIfInBounds_toArray, List.set_cons_zero, List.set_cons_succ]
          refine anyH_take (i := 27) (v := ?_) (some 62) rfl rfl (by kernel_rfl) (fun _ _ _ h => h) (Or.inl ⟨by rfl, ?_⟩) (by assumption) ?_
          rotate_left
          · (intro w hSw; obtain ⟨zr, zm⟩ := hSw; have q1 : w.cell? ⟨X, 1, none⟩ = some (.int .i64 s.i) := zr 1 _ rfl; have q2 : w.cell? ⟨X, 2, none⟩ = some (.int .i64 s.n) := zr 2 _ rfl; go_simp; all_goals with_reducible rfl)
          try simp only [Act.put, List.setIfInBounds_toArray, List.set_cons_zero, List.set_cons_succ]
          refine anyH_one (i := 22) (by kernel_rfl) rfl (fun K hK => ?_)
          go_simp
          go_at_call 15
          (with_reducible refine (HCN w5 b35).mono ?_)
          rintro e w6 ⟨rfl, b6⟩
          have b36 := b35.trans (b6.mono b35.size)
          have y6 := range_below z2 b36
          have x6 := cell_on b36 m1
          refine hK.out _ _ ⟨y6, x6⟩ (fun hHeld => ?_)
          clear hK K
          try simp only [Act.put, List.setIfInBounds_toArray, List.set_cons_zero, List.set_cons_succ]
          refine anyH_one (i := 28) (by kernel_rfl) rfl (fun K hK => ?_)
          go_simp
          go_at_call 16
          (with_reducible refine (HCR w6 b36).mono ?_)
          rintro e w7 ⟨rfl, b7⟩
          have b37 := b36.trans (b7.mono b36.size)
          have y7 := range_below z2 b37
          have x7 := cell_on b37 m1
          refine hK.out _ _ ⟨y7, x7⟩ (fun hHeld => ?_)
          clear hK K
          try simp only [Act.put, List.setIfInBounds_toArray, List.set_cons_zero, List.set_cons_succ]
          refine anyH_take (i := 29) (v := ?_) (some 64) rfl rfl (by kernel_rfl) (fun _ _ _ h => h) (Or.inl ⟨by rfl, ?_⟩) (by assumption) ?_
          rotate_left
          · (intro w hSw; obtain ⟨zr, zm⟩ := hSw; have q1 : w.cell? ⟨X, 1, none⟩ = some (.int .i64 s.i) := zr 1 _ rfl; have q2 : w.cell? ⟨X, 2, none⟩ = some (.int .i64 s.n) := zr 2 _ rfl; go_simp; all_goals with_reducible rfl)
          try simp only [Act.put, List.setIfInBounds_toArray, List.set_cons_zero, List.set_cons_succ]
          refine anyH_take (i := 30) (v := ?_) (some 65) rfl rfl (by kernel_rfl) (fun _ _ _ h => h) (Or.inl ⟨by rfl, ?_⟩) (by assumption) ?_
          rotate_left
          · (intro w hSw; obtain ⟨zr, zm⟩ := hSw; have q1 : w.cell? ⟨X, 1, none⟩ = some (.int .i64 s.i) := zr 1 _ rfl; have q2 : w.cell? ⟨X, 2, none⟩ = some (.int .i64 s.n) := zr 2 _ rfl; go_simp; all_goals with_reducible rfl)
          try simp only [Act.put, List.setIfInBounds_toArray, List.set_cons_zero, List.set_cons_succ]
          refine wpAnyH_done (by kernel_rfl) ?_ _
          have p7 := p2.below b37
          have r7 : w7.rangeAt X 0 (s15 s) := y7
          have g1 : w7.cell? ⟨X, 1, none⟩ = some (.int .i64 s.i) := r7 1 _ rfl
          have hG := get_any p7.a (i := s.i) hrg.out.2.1
          clear HALL HPL HSM HCN HCR hav o3 o4 av3 av4 b3 b4 b5 b6 b7 b34 b35 b36 b37 y3 y4 y5 y6 x3 x4 x5 x6 x7 y7 z2 z0 k1 k2 m1 hHeld pd p2
          obtain ⟨gv, hgv⟩ : ∃ g, Hid (getV τ.xs s.i = g) := ⟨_, rfl⟩
          obtain ⟨gb, hgb⟩ : ∃ g, Hid (getB τ.xs s.i = g) := ⟨_, rfl⟩
          rw [hgv.out, hgb.out] at hG
          go_upto_region 13 with fail
          refine wp_region_lit ?_
          iterate 11 go_step
          go_at_call 17
          with_reducible refine hG.mono ?_
          rintro e w8 ⟨rfl, b8⟩
          dsimp only
          iterate 13 go_step
          have p8 := p7.below b8
          have g8 := cell_on b8 g1
          have hy0 := Cel.new w8 (acA zA) 44
          have hth := hy0.there
          have hcy : Cel ((w8.alloc (.cells (acA zA) 44)).setCells w8.heap.size 0 (c16 gv)) w8.heap.size (acA gv) 44 := hy0.ac _
          have bB : Below w8.heap.size w8 ((w8.alloc (.cells (acA zA) 44)).setCells w8.heap.size 0 (c16 gv)) := ((Below.refl _ w8).alloc (Nat.le_refl _) (.cells (acA zA) 44)).trans ((But.setCells _ 0 _).below (by simp) (by simp))
          have p9 := p8.below bB
          have g9 := cell_on bB g8
          rw [zA_A] at *
          refine wpList_store_mid rfl 44 (.tmp 9) (.tmp 71) rfl w8.heap.size 0 (c16 gv).toArray rfl rfl hth size16L (c16_one _) ?_
          rw [show (c16 gv).toArray.toList = c16 gv from rfl]
          generalize (World.setCells _ w8.heap.size 0 (c16 gv)) = w9 at *
          generalize w8.heap.size = Y at *
          generalize (Value.agg (acA gv)) = ga at *
          have hrY : w9.rangeAt Y 0 (c16 gv) := hcy.range
          clear hy0 hth hcy bB p8 g8 b8 hG p7 g1 r7 w8
          have hG2 := rget_any p9.r s.i
          rw [hgv.out, hgb.out] at hG2
          go_upto_region 14 with fail
          refine wp_region_lit ?_
          iterate 11 go_step
          go_at_call 18
          with_reducible refine hG2.mono ?_
          rintro e w10 ⟨rfl, b10⟩
          dsimp only
          iterate 13 go_step
          have p10 := p9.below b10
          have y10 := range_below hrY b10
          have hy0 := Cel.new w10 (acA zA) 47
          have hth := hy0.there
          have hcy : Cel ((w10.alloc (.cells (acA zA) 47)).setCells w10.heap.size 0 (c16 gv)) w10.heap.size (acA gv) 47 := hy0.ac _
          have bB : Below w10.heap.size w10 ((w10.alloc (.cells (acA zA) 47)).setCells w10.heap.size 0 (c16 gv)) := ((Below.refl _ w10).alloc (Nat.le_refl _) (.cells (acA zA) 47)).trans ((But.setCells _ 0 _).below (by simp) (by simp))
          have p11 := p10.below bB
          have y11 := range_below y10 bB
          rw [zA_A] at *
          refine wpList_store_mid rfl 47 (.tmp 11) (.tmp 78) rfl w10.heap.size 0 (c16 gv).toArray rfl rfl hth size16R (c16_one _) ?_
          rw [show (c16 gv).toArray.toList = c16 gv from rfl]
          generalize (World.setCells _ w10.heap.size 0 (c16 gv)) = w11 at *
          generalize w10.heap.size = Z at *
          generalize (Value.agg (acA gv)) = gc at *
          have hrZ : w11.rangeAt Z 0 (c16 gv) := hcy.range
          have NE : ∀ W, (binOp .neq 47 (.agg (c16 gv).toArray) (.agg (c16 gv).toArray)).run Tryd.prog W = .ok (.bool false) W := fun W => by
            have := neAc gv gv W
            rw [eqA_refl] at this
            exact this
          clear hy0 hth hcy bB p10 p9 y10 b10 hG2 hrY g9 w10
          go_upto_region 15 with fail
          refine wp_region_lit ?_
          refine wpList_load_mid rfl 44 (.tmp 9) rfl Y 0 rfl (c16 gv) _ y11 Tryd.underlying44 rfl size16L ?_
          refine wpList_load_mid rfl 47 (.tmp 11) rfl Z 0 rfl (c16 gv) _ hrZ Tryd.underlying47 rfl size16R ?_
          go_wp2_with fail
          go_roundw
          case rel => exact ⟨j + 1, T2, R2, τ, by omega, by simp, p11⟩
          case measure =>
            simp [intOf]
            omega
        · obtain rfl : j = n := by omega
          have hL := HL _ hp.s.below
          go_wp2_with (go_at_call 8; (with_reducible refine hL.mono ?_); rintro e w3 ⟨rfl, b3⟩)
          go_ret
          exact ⟨rfl, hp.s.below.trans (b3.mono hp.s.below.size)⟩
end Go.Proofs.YtjgclehghnmhnaaDoor
namespace Go.Proofs.YtjgclehghnmhnaaDoor
open Go Go.RowKit

theorem deb_datum : Rows.laid_math_bits_deBruijn64tab (H := Unit) = Lib.tabData .u8 (Lib.deBruijn64tab.map Int.ofNat) := by kernel_rfl
theorem deb_global : Tryd.prog.globalNamed "math/bits.deBruijn64tab" = some 1 := by kernel_rfl
theorem deb_type : (Tryd.prog.globals[1]?).map (·.type) = some 125 := by kernel_rfl
theorem fol_datum : Rows.laid_wherry_life_follows (H := Unit) = Lib.tabData .u8 (folL.map Int.ofNat) := by kernel_rfl
theorem fol_global : Tryd.prog.globalNamed "wherry/life.follows" = some 0 := by kernel_rfl
theorem fol_type : (Tryd.prog.globals[0]?).map (·.type) = some 112 := by kernel_rfl
theorem lt_of_cell {W : World} {b j : Nat} {v : Value} (h : W.cell? ⟨b, j, none⟩ = some v) : b < W.heap.size := World.block_lt_of_cell? W ⟨b, j, none⟩ h
theorem deb_of {W : World} {rest : List (String × DataW Unit)} (h : laidMet Tryd.prog (("math/bits.deBruijn64tab", Rows.laid_math_bits_deBruijn64tab) :: rest) W) : Tab W := by
  rw [deb_datum] at h
  have hT := Lib.tabIs_of_head deb_global deb_type Tryd.underlying125 Tryd.underlying5 (by kernel_rfl) (by kernel_rfl) h
  have hc : TabAt 1 Lib.deBruijn64tab W := by
    intro j hj
    have := hT.cell deb_global j (by simpa using hj)
    rw [this]
    congr 2
    simp only [List.getD_eq_getElem?_getD, List.getElem?_map]
    cases Lib.deBruijn64tab[j]? <;> rfl
  exact ⟨lt_of_cell (hc 0 (by decide)), hc⟩
theorem fol_of {W : World} {rest : List (String × DataW Unit)} (h : laidMet Tryd.prog (("wherry/life.follows", Rows.laid_wherry_life_follows) :: rest) W) : Fol W := by
  rw [fol_datum] at h
  have hT := Lib.tabIs_of_head fol_global fol_type Tryd.underlying112 Tryd.underlying86 (by kernel_rfl) (by kernel_rfl) h
  have hc : ∀ (j x : Nat), folL[j]? = some x → W.cell? ⟨0, j, none⟩ = some (.int .u8 (x : Int)) := fun j x hx => by
    have hj := (List.getElem?_eq_some_iff.1 hx).1
    have := hT.cell fol_global j (by simpa using hj)
    rw [this]
    congr 2
    simp only [List.getD_eq_getElem?_getD, List.getElem?_map, hx]
    rfl
  exact ⟨lt_of_cell (hc 0 0 rfl), hc⟩
end Go.Proofs.YtjgclehghnmhnaaDoor
