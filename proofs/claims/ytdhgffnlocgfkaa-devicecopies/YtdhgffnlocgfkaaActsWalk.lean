/- The walk of DeviceActs. -/
import Derived.Test.YtdhgffnlocgfkaaAct
import Derived.Test.YtdhgffnlocgfkaaHold
namespace Go.Proofs.Ytdhgffnlocgfkaa
open Go Go.RowKit
set_option linter.unusedSimpArgs false

theorem Pr.new {W0 w1 w2 : World} {B M N la dn la' dn' : Nat} {T R : List Nat} {xs xs' : List Rq} (h1 : DQ w1 B T N la dn xs) (s1 : Step [] W0 T w1) (h2 : RQ w2 M R N la' dn' xs') (s2 : Step [] w1 R w2) : Pr W0 w2 B T M R N la dn la' dn' xs xs' := by
  refine ⟨h1.keep s2.but, h2, fun x hx hy => ?_, s1.but.trans s2.but, fun x hx => .inr ?_⟩
  · have := h1.lt x hx
    rcases s2.new x hy with e | e
    · cases e
    · omega
  · rcases List.mem_append.1 hx with hx | hx
    · rcases s1.new x hx with e | e
      · cases e
      · exact e
    · rcases s2.new x hx with e | e
      · cases e
      · exact Nat.le_trans s1.but.size e
/-- What the reference's device tells. -/
theorem RQ.told {w : World} {M N la dn : Nat} {R : List Nat} {xs : List Rq} (h : RQ w M R N la dn xs) : ∃ a c, w.cell? ⟨M, 1, none⟩ = some (.slice a xs.length c) ∧ RV w a xs ∧ w.cell? ⟨M, 3, none⟩ = some (.int .i64 dn) := by
  obtain ⟨v, rfl, hm⟩ := h
  obtain ⟨a, c, rfl, hr, -⟩ := hm.shape
  exact ⟨a, c, hm.c1, hr, hm.c3⟩
theorem same_eq {w : World} {xa ya : Option Addr} {xc yc : Nat} {xs : List Rq} (hx : RV w xa xs) (hy : RV w ya xs) (hn : xs.length ≤ 50000) :
    Calls Try.prog 13 #[.slice xa xs.length xc, .slice ya xs.length yc] w fun e w' => e = .returned (.bool true) ∧ Below w.heap.size w w' := by
  have := same_any (xc := xc) (yc := yc) hx hy hn
  rw [decide_eq_true rfl] at this
  exact this

set_option maxRecDepth 100000 in
set_option maxHeartbeats 4000000 in
theorem acts_any (n0 : Int) (sa : Option Addr) (ca : Nat) (xs : List Ac) (w : World) (ha : Acts w sa xs) :
    Calls Try.prog 3 #[.int .i64 n0, .slice sa xs.length ca] w fun e w' => e = .returned (.bool true) ∧ Below w.heap.size w w' := by
  by_cases hlen : 200 < xs.length
  · have hlen' : (200 : Int) < (xs.length : Int) := by omega
    go_enter Try.func3, Try.ntmps3
    go_wp2_with (first
      | (go_at_call 7; refine (lives_any _).mono ?_; rintro e w2 ⟨rfl, b2⟩))
    go_ret
    exact ⟨rfl, b2⟩
  · have hlen' : ¬ (200 : Int) < (xs.length : Int) := by omega
    cases hin : inN n0 with
    | false =>
      go_enter Try.func3, Try.ntmps3
      go_wp2_with (first
        | (go_at_call 8; refine (new_none n0 hin _).mono ?_; rintro e w' ⟨rfl, hw⟩; subst w')
        | (go_at_call 9; refine (rnew_none n0 hin _).mono ?_; rintro e w' ⟨rfl, hw⟩; subst w')
        | (go_at_call 7; refine (lives_any _).mono ?_; rintro e w2 ⟨rfl, b2⟩))
      go_ret
      exact ⟨rfl, b2⟩
    | true =>
      have hin2 : 1 ≤ n0 ∧ n0 ≤ 4096 := by unfold inN at hin; simpa using hin
      obtain ⟨N, rfl⟩ : ∃ N : Nat, n0 = N := ⟨n0.toNat, by omega⟩
      have e1 : 1 ≤ N := by omega
      have e2 : N ≤ 4096 := by omega
      clear hin hin2
      go_enter Try.func3, Try.ntmps3
      go_wp2_with (first
        | (go_at_call 8; refine (new_some N e1 e2 _).mono ?_; rintro e w1 ⟨B, T1, rfl, h1, s1⟩)
        | (go_at_call 9; refine (rnew_some N e1 e2 _).mono ?_; rintro e w2 ⟨M, R1, rfl, h2, s2⟩; have hP := Pr.new h1 s1 h2 s2))
      clear h1 s1 h2 s2
      go_loopw [27, 8] (fun v _ wr => ∃ (j : Nat) (T R : List Nat) (la dn : Nat) (q : List Rq), j ≤ xs.length ∧ v = .int .i64 j ∧ Pr w wr B T M R N la dn la dn q q ∧ la ≤ j ∧ dn ≤ j) (fun v _ _ => 200 - (intOf v).toNat)
      case atStart => exact ⟨0, T1, R1, 0, 0, [], by omega, rfl, hP, Nat.le_refl _, Nat.le_refl _⟩
      case round =>
        clear hP
        obtain ⟨j, T, R, la, dn, q, hj, rfl, hP, hla, hdn⟩ := hrel
        by_cases hlt : j < xs.length
        · obtain ⟨b, o, rfl, m0, m1, m2, m3, m4, m5, m6⟩ := ha.below hP.s.below j hlt
          have hlt' : (j : Int) < (xs.length : Int) := by omega
          generalize ac xs j = x at m0 m1 m2 m3 m4 m5 m6
          obtain ⟨kd, kk, i, s, t, k, z⟩ := x
          dsimp only at m0 m1 m2 m3 m4 m5 m6
          have hP1 := hP.keep ((But.refl [] wr).alloc (.cells #[.int .i64 kd, .int .i64 kk, .int .i64 i, .int .i64 s, .int .i64 t, .int .i64 k, .int .i64 z] 31))
          have hA1 := at7_new wr kd kk i s t k z
          have hout := hP.out (A := wr.heap.size) (Nat.le_refl _)
          go_upto_region 11 with fail
          generalize wr.alloc (.cells #[.int .i64 kd, .int .i64 kk, .int .i64 i, .int .i64 s, .int .i64 t, .int .i64 k, .int .i64 z] 31) = W1 at *
          have hP1d := hP1.keep (But.refl [] W1).drew
          have hA1d := hA1.but (S := []) (But.refl [] W1).drew (by simp)
          have AC := act_any hP1d (by omega) (by omega) kd kk i s t k z
          have hl2 := actL_le N la q (kd, kk, i, s, t, k, z)
          have hd2 := actD_le dn q (kd, kk, i, s, t, k, z)
          have hx4 : ∀ W T l d q2, DQ W B T N l d q2 → q2.length ≤ 50000 := fun W T l d q2 h => by have := h.len; omega
          generalize actL N la q (kd, kk, i, s, t, k, z) = l2 at *
          generalize actD dn q (kd, kk, i, s, t, k, z) = d2 at *
          generalize actX N la q (kd, kk, i, s, t, k, z) = x2 at *
          have LE : ∀ W T, DQ W B T N l2 d2 x2 → _ := fun W T h => len_any (w := W) (T := T) h
          have DO : ∀ W T, DQ W B T N l2 d2 x2 → _ := fun W T h => done_any (w := W) (T := T) h
          have AL : ∀ W T, DQ W B T N l2 d2 x2 → _ := fun W T h => all_any (w := W) (T := T) h
          have RC : ∀ W R, RQ W M R N l2 d2 x2 → _ := fun W R h => h.told (w := W) (R := R)
          have PL : ∀ W a, x2.length ≤ 50000 → RV W a x2 → _ := fun W a hn h => plain_any (w := W) (xa := a) (xc := x2.length) h hn
          have SM : ∀ W a c b d, x2.length ≤ 50000 → RV W a x2 → RV W b x2 → _ := fun W a c b d hn h h' => same_eq (w := W) (xa := a) (xc := c) (ya := b) (yc := d) h h' hn
          clear hA1 hP1 hP
          refine wp_region_held_drew (S := (fun w' : World => w'.cell? ⟨wr.heap.size, 0, none⟩ = some (.int .i64 kd) ∧ w'.cell? ⟨wr.heap.size, 1, none⟩ = some (.int .i64 kk) ∧ w'.cell? ⟨wr.heap.size, 2, none⟩ = some (.int .i64 i) ∧ w'.cell? ⟨wr.heap.size, 3, none⟩ = some (.int .i64 s) ∧ w'.cell? ⟨wr.heap.size, 4, none⟩ = some (.int .i64 t) ∧ w'.cell? ⟨wr.heap.size, 5, none⟩ = some (.int .i64 k) ∧ w'.cell? ⟨wr.heap.size, 6, none⟩ = some (.int .i64 z))) (by kernel_rfl) hA1d (fun hHeld => ?_)
          refine anyH_take (i := 0) (v := ?_) (some 31) rfl rfl (by kernel_rfl) (fun _ _ _ h => h) (Or.inl ⟨by rfl, ?_⟩) (by assumption) ?_
          rotate_left
          · (intro w hSw; go_simp; all_goals with_reducible rfl)
          try simp only [Act.put, List.setIfInBounds_toArray, List.set_cons_zero, List.set_cons_succ]
          refine anyH_take (i := 1) (v := ?_) (some 32) rfl rfl (by kernel_rfl) (fun _ _ _ h => h) (Or.inl ⟨by rfl, ?_⟩) (by assumption) ?_
          rotate_left
          · (intro w hSw; go_simp; all_goals with_reducible rfl)
          try simp only [Act.put, List.setIfInBounds_toArray, List.set_cons_zero, List.set_cons_succ]
          refine anyH_take (i := 2) (v := ?_) (some 33) rfl rfl (by kernel_rfl) (fun _ _ _ h => h) (Or.inl ⟨by rfl, ?_⟩) (by assumption) ?_
          rotate_left
          · (intro w hSw; go_simp; all_goals with_reducible rfl)
          try simp only [Act.put, List.setIfInBounds_toArray, List.set_cons_zero, List.set_cons_succ]
          refine anyH_one (i := 3) (by kernel_rfl) rfl (fun K hK => ?_)
          go_simp
          go_at_call 10
          (with_reducible refine AC.mono ?_)
          rintro e w2 ⟨rfl, T2, R2, p2, s2⟩
          have hA2 := hA1d.but s2.but hout
          obtain ⟨va, vc, hc1, hrv, hc3⟩ := RC _ _ p2.r
          refine hK.out _ _ hA2 (fun hHeld => ?_)
          clear hK K
          try simp only [Act.put, List.setIfInBounds_toArray, List.set_cons_zero, List.set_cons_succ]
          refine anyH_mono (S2 := (fun w' : World => (w'.cell? ⟨wr.heap.size, 0, none⟩ = some (.int .i64 kd) ∧ w'.cell? ⟨wr.heap.size, 1, none⟩ = some (.int .i64 kk) ∧ w'.cell? ⟨wr.heap.size, 2, none⟩ = some (.int .i64 i) ∧ w'.cell? ⟨wr.heap.size, 3, none⟩ = some (.int .i64 s) ∧ w'.cell? ⟨wr.heap.size, 4, none⟩ = some (.int .i64 t) ∧ w'.cell? ⟨wr.heap.size, 5, none⟩ = some (.int .i64 k) ∧ w'.cell? ⟨wr.heap.size, 6, none⟩ = some (.int .i64 z)) ∧ w'.cell? ⟨M, 1, none⟩ = some (.slice va x2.length vc) ∧ w'.cell? ⟨M, 3, none⟩ = some (.int .i64 d2))) (fun _ h => h.1) ?_
          replace hHeld : (fun w' : World => (w'.cell? ⟨wr.heap.size, 0, none⟩ = some (.int .i64 kd) ∧ w'.cell? ⟨wr.heap.size, 1, none⟩ = some (.int .i64 kk) ∧ w'.cell? ⟨wr.heap.size, 2, none⟩ = some (.int .i64 i) ∧ w'.cell? ⟨wr.heap.size, 3, none⟩ = some (.int .i64 s) ∧ w'.cell? ⟨wr.heap.size, 4, none⟩ = some (.int .i64 t) ∧ w'.cell? ⟨wr.heap.size, 5, none⟩ = some (.int .i64 k) ∧ w'.cell? ⟨wr.heap.size, 6, none⟩ = some (.int .i64 z)) ∧ w'.cell? ⟨M, 1, none⟩ = some (.slice va x2.length vc) ∧ w'.cell? ⟨M, 3, none⟩ = some (.int .i64 d2)) _ := ⟨hHeld, hc1, hc3⟩
          refine anyH_take (i := 4) (v := ?_) (some 35) rfl rfl (by kernel_rfl) (fun _ _ _ h => h) (Or.inl ⟨by rfl, ?_⟩) (by assumption) ?_
          rotate_left
          · (intro w hSw; go_simp; all_goals with_reducible rfl)
          try simp only [Act.put, List.setIfInBounds_toArray, List.set_cons_zero, List.set_cons_succ]
          refine anyH_take (i := 5) (v := ?_) (some 36) rfl rfl (by kernel_rfl) (fun _ _ _ h => h) (Or.inl ⟨by rfl, ?_⟩) (by assumption) ?_
          rotate_left
          · (intro w hSw; go_simp; all_goals with_reducible rfl)
          try simp only [Act.put, List.setIfInBounds_toArray, List.set_cons_zero, List.set_cons_succ]
          refine anyH_take (i := 6) (v := ?_) (some 37) rfl rfl (by kernel_rfl) (fun _ _ _ h => h) (Or.inl ⟨by rfl, ?_⟩) (by assumption) ?_
          rotate_left
          · (intro w hSw; go_simp; all_goals with_reducible rfl)
          try simp only [Act.put, List.setIfInBounds_toArray, List.set_cons_zero, List.set_cons_succ]
          refine anyH_take (i := 8) (v := ?_) (some 39) rfl rfl (by kernel_rfl) (fun _ _ _ h => h) (Or.inl ⟨by rfl, ?_⟩) (by assumption) ?_
          rotate_left
          · (intro w hSw; go_simp; all_goals with_reducible rfl)
          try simp only [Act.put, List.setIfInBounds_toArray, List.set_cons_zero, List.set_cons_succ]
          refine anyH_take (i := 9) (v := ?_) (some 40) rfl rfl (by kernel_rfl) (fun _ _ _ h => h) (Or.inl ⟨by rfl, ?_⟩) (by assumption) ?_
          rotate_left
          · (intro w hSw; go_simp; all_goals with_reducible rfl)
          try simp only [Act.put, List.setIfInBounds_toArray, List.set_cons_zero, List.set_cons_succ]
          refine anyH_take (i := 10) (v := ?_) (some 41) rfl rfl (by kernel_rfl) (fun _ _ _ h => h) (Or.inl ⟨by rfl, ?_⟩) (by assumption) ?_
          rotate_left
          · (intro w hSw; go_simp; all_goals with_reducible rfl)
          try simp only [Act.put, List.setIfInBounds_toArray, List.set_cons_zero, List.set_cons_succ]
          refine anyH_take (i := 11) (v := ?_) (some 42) rfl rfl (by kernel_rfl) (fun _ _ _ h => h) (Or.inl ⟨by rfl, ?_⟩) (by assumption) ?_
          rotate_left
          · (intro w hSw; obtain ⟨-, z0, z1⟩ := hSw; go_simp; all_goals with_reducible rfl)
          try simp only [Act.put, List.setIfInBounds_toArray, List.set_cons_zero, List.set_cons_succ]
          refine anyH_take (i := 12) (v := ?_) (some 43) rfl rfl (by kernel_rfl) (fun _ _ _ h => h) (Or.inl ⟨by rfl, ?_⟩) (by assumption) ?_
          rotate_left
          · (intro w hSw; go_simp; all_goals with_reducible rfl)
          try simp only [Act.put, List.setIfInBounds_toArray, List.set_cons_zero, List.set_cons_succ]
          refine anyH_one (i := 7) (by kernel_rfl) rfl (fun K hK => ?_)
          go_simp
          go_at_call 11
          (with_reducible refine (LE _ _ p2.a).mono ?_)
          rintro e w' ⟨rfl, hw⟩
          subst w'
          refine hK.out _ _ hHeld (fun hHeld => ?_)
          clear hK K
          try simp only [Act.put, List.setIfInBounds_toArray, List.set_cons_zero, List.set_cons_succ]
          refine anyH_take (i := 13) (v := ?_) (some 44) rfl rfl (by kernel_rfl) (fun _ _ _ h => h) (Or.inl ⟨by rfl, ?_⟩) (by assumption) ?_
          rotate_left
          · (intro w hSw; go_simp; all_goals with_reducible rfl)
          try simp only [Act.put, List.setIfInBounds_toArray, List.set_cons_zero, List.set_cons_succ]
          refine anyH_take (i := 14) (v := ?_) (some 45) rfl rfl (by kernel_rfl) (fun _ _ _ h => h) (Or.inl ⟨by rfl, ?_⟩) (by assumption) ?_
          rotate_left
          · (intro w hSw; go_simp; all_goals with_reducible rfl)
          try simp only [Act.put, List.setIfInBounds_toArray, List.set_cons_zero, List.set_cons_succ]
          refine anyH_take (i := 15) (v := ?_) (some 46) rfl rfl (by kernel_rfl) (fun _ _ _ h => h) (Or.inl ⟨by rfl, ?_⟩) (by assumption) ?_
          rotate_left
          · (intro w hSw; go_simp; all_goals with_reducible rfl)
          try simp only [Act.put, List.setIfInBounds_toArray, List.set_cons_zero, List.set_cons_succ]
          refine anyH_take (i := 16) (v := ?_) (some 47) rfl rfl (by kernel_rfl) (fun _ _ _ h => h) (Or.inl ⟨by rfl, ?_⟩) (by assumption) ?_
          rotate_left
          · (intro w hSw; go_simp; all_goals with_reducible rfl)
          try simp only [Act.put, List.setIfInBounds_toArray, List.set_cons_zero, List.set_cons_succ]
          refine anyH_take (i := 18) (v := ?_) (some 49) rfl rfl (by kernel_rfl) (fun _ _ _ h => h) (Or.inl ⟨by rfl, ?_⟩) (by assumption) ?_
          rotate_left
          · (intro w hSw; go_simp; all_goals with_reducible rfl)
          try simp only [Act.put, List.setIfInBounds_toArray, List.set_cons_zero, List.set_cons_succ]
          refine anyH_take (i := 19) (v := ?_) (some 50) rfl rfl (by kernel_rfl) (fun _ _ _ h => h) (Or.inl ⟨by rfl, ?_⟩) (by assumption) ?_
          rotate_left
          · (intro w hSw; go_simp; all_goals with_reducible rfl)
          try simp only [Act.put, List.setIfInBounds_toArray, List.set_cons_zero, List.set_cons_succ]
          refine anyH_take (i := 20) (v := ?_) (some 51) rfl rfl (by kernel_rfl) (fun _ _ _ h => h) (Or.inl ⟨by rfl, ?_⟩) (by assumption) ?_
          rotate_left
          · (intro w hSw; go_simp; all_goals with_reducible rfl)
          try simp only [Act.put, List.setIfInBounds_toArray, List.set_cons_zero, List.set_cons_succ]
          refine anyH_take (i := 21) (v := ?_) (some 52) rfl rfl (by kernel_rfl) (fun _ _ _ h => h) (Or.inl ⟨by rfl, ?_⟩) (by assumption) ?_
          rotate_left
          · (intro w hSw; obtain ⟨-, z0, z1⟩ := hSw; go_simp; all_goals with_reducible rfl)
          try simp only [Act.put, List.setIfInBounds_toArray, List.set_cons_zero, List.set_cons_succ]
          refine anyH_one (i := 17) (by kernel_rfl) rfl (fun K hK => ?_)
          go_simp
          go_at_call 12
          (with_reducible refine (DO _ _ p2.a).mono ?_)
          rintro e w' ⟨rfl, hw⟩
          subst w'
          refine hK.out _ _ hHeld (fun hHeld => ?_)
          clear hK K
          try simp only [Act.put, List.setIfInBounds_toArray, List.set_cons_zero, List.set_cons_succ]
          refine anyH_take (i := 22) (v := ?_) (some 53) rfl rfl (by kernel_rfl) (fun _ _ _ h => h) (Or.inl ⟨by rfl, ?_⟩) (by assumption) ?_
          rotate_left
          · (intro w hSw; go_simp; all_goals with_reducible rfl)
          try simp only [Act.put, List.setIfInBounds_toArray, List.set_cons_zero, List.set_cons_succ]
          refine anyH_take (i := 23) (v := ?_) (some 54) rfl rfl (by kernel_rfl) (fun _ _ _ h => h) (Or.inl ⟨by rfl, ?_⟩) (by assumption) ?_
          rotate_left
          · (intro w hSw; go_simp; all_goals with_reducible rfl)
          try simp only [Act.put, List.setIfInBounds_toArray, List.set_cons_zero, List.set_cons_succ]
          refine anyH_take (i := 24) (v := ?_) (some 55) rfl rfl (by kernel_rfl) (fun _ _ _ h => h) (Or.inl ⟨by rfl, ?_⟩) (by assumption) ?_
          rotate_left
          · (intro w hSw; go_simp; all_goals with_reducible rfl)
          try simp only [Act.put, List.setIfInBounds_toArray, List.set_cons_zero, List.set_cons_succ]
          refine anyH_take (i := 25) (v := ?_) (some 56) rfl rfl (by kernel_rfl) (fun _ _ _ h => h) (Or.inl ⟨by rfl, ?_⟩) (by assumption) ?_
          rotate_left
          · (intro w hSw; go_simp; all_goals with_reducible rfl)
          try simp only [Act.put, List.setIfInBounds_toArray, List.set_cons_zero, List.set_cons_succ]
          refine anyH_take (i := 28) (v := ?_) (some 59) rfl rfl (by kernel_rfl) (fun _ _ _ h => h) (Or.inl ⟨by rfl, ?_⟩) (by assumption) ?_
          rotate_left
          · (intro w hSw; go_simp; all_goals with_reducible rfl)
          try simp only [Act.put, List.setIfInBounds_toArray, List.set_cons_zero, List.set_cons_succ]
          refine anyH_take (i := 29) (v := ?_) (some 60) rfl rfl (by kernel_rfl) (fun _ _ _ h => h) (Or.inl ⟨by rfl, ?_⟩) (by assumption) ?_
          rotate_left
          · (intro w hSw; go_simp; all_goals with_reducible rfl)
          try simp only [Act.put, List.setIfInBounds_toArray, List.set_cons_zero, List.set_cons_succ]
          refine anyH_take (i := 30) (v := ?_) (some 61) rfl rfl (by kernel_rfl) (fun _ _ _ h => h) (Or.inl ⟨by rfl, ?_⟩) (by assumption) ?_
          rotate_left
          · (intro w hSw; go_simp; all_goals with_reducible rfl)
          try simp only [Act.put, List.setIfInBounds_toArray, List.set_cons_zero, List.set_cons_succ]
          refine anyH_take (i := 31) (v := ?_) (some 62) rfl rfl (by kernel_rfl) (fun _ _ _ h => h) (Or.inl ⟨by rfl, ?_⟩) (by assumption) ?_
          rotate_left
          · (intro w hSw; obtain ⟨-, z0, z1⟩ := hSw; go_simp; all_goals with_reducible rfl)
          try simp only [Act.put, List.setIfInBounds_toArray, List.set_cons_zero, List.set_cons_succ]
          refine anyH_one (i := 26) (by kernel_rfl) rfl (fun K hK => ?_)
          go_simp
          go_at_call 15
          (with_reducible refine (AL _ _ p2.a).mono ?_)
          rintro e w3 ⟨G3, rfl, hG3, ho3, b3⟩
          have p3 := p2.below b3
          have hrv3 := ho3.rv
          have hm3 := hrv.below b3
          refine hK.out _ _ ⟨At7.below (x := (kd, kk, i, s, t, k, z)) (o := 0) hHeld.1 b3, cell_on b3 hHeld.2.1, cell_on b3 hHeld.2.2⟩ (fun hHeld => ?_)
          clear hK K
          try simp only [Act.put, List.setIfInBounds_toArray, List.set_cons_zero, List.set_cons_succ]
          refine anyH_one (i := 27) (by kernel_rfl) rfl (fun K hK => ?_)
          go_simp
          go_at_call 14
          (with_reducible refine (PL _ _ (hx4 _ _ _ _ _ p3.a) hrv3).mono ?_)
          rintro e w4 ⟨a4, c4, rfl, hrv4, b4⟩
          have p4 := p3.below b4
          have hm4 := hm3.below b4
          refine hK.out _ _ ⟨At7.below (x := (kd, kk, i, s, t, k, z)) (o := 0) hHeld.1 b4, cell_on b4 hHeld.2.1, cell_on b4 hHeld.2.2⟩ (fun hHeld => ?_)
          clear hK K
          try simp only [Act.put, List.setIfInBounds_toArray, List.set_cons_zero, List.set_cons_succ]
          refine anyH_one (i := 32) (by kernel_rfl) rfl (fun K hK => ?_)
          go_simp
          go_at_call 13
          (with_reducible refine (SM _ _ _ _ _ (hx4 _ _ _ _ _ p4.a) hrv4 hm4).mono ?_)
          rintro e w5 ⟨rfl, b5⟩
          have p5 := p4.below b5
          refine hK.out _ _ ⟨At7.below (x := (kd, kk, i, s, t, k, z)) (o := 0) hHeld.1 b5, cell_on b5 hHeld.2.1, cell_on b5 hHeld.2.2⟩ (fun hHeld => ?_)
          clear hK K
          try simp only [Act.put, List.setIfInBounds_toArray, List.set_cons_zero, List.set_cons_succ]
          refine anyH_take (i := 33) (v := ?_) (some 64) rfl rfl (by kernel_rfl) (fun _ _ _ h => h) (Or.inl ⟨by rfl, ?_⟩) (by assumption) ?_
          rotate_left
          · (intro w hSw; go_simp; all_goals with_reducible rfl)
          try simp only [Act.put, List.setIfInBounds_toArray, List.set_cons_zero, List.set_cons_succ]
          refine anyH_take (i := 34) (v := ?_) (some 65) rfl rfl (by kernel_rfl) (fun _ _ _ h => h) (Or.inl ⟨by rfl, ?_⟩) (by assumption) ?_
          rotate_left
          · (intro w hSw; go_simp; all_goals with_reducible rfl)
          try simp only [Act.put, List.setIfInBounds_toArray, List.set_cons_zero, List.set_cons_succ]
          refine wpAnyH_done (by kernel_rfl) ?_ _
          go_wp2_with fail
          go_roundw
          case rel => exact ⟨j + 1, T2, R2, l2, d2, x2, by omega, by simp, p5, by omega, by omega⟩
          case measure =>
            simp [intOf]
            omega
        · obtain rfl : j = xs.length := by omega
          go_wp2_with (first | (go_at_call 7; refine (lives_any _).mono ?_; rintro e w2 ⟨rfl, b2⟩))
          go_ret
          exact ⟨rfl, below2 hP.s.below hP.s.but.size b2⟩
end Go.Proofs.Ytdhgffnlocgfkaa
