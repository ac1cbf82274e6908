/- The walk of HeapActs. -/
import Derived.Test.YtmogedfjhbfglaaAct
import Derived.Test.YtmogedfjhbfglaaLowersWalk
namespace Go.Proofs.Ytmogedfjhbfglaa
open Go.RowKit
set_option linter.unusedSimpArgs false

theorem ActAt.out {w w' : World} {S : List Nat} {A : Nat} {k l t : Int} (h : ActAt w A k l t) (hb : But S w w') (hA : A ∉ S) : ActAt w' A k l t := ⟨hb.cell' h.1 hA, hb.cell' h.2.1 hA, hb.cell' h.2.2 hA⟩
theorem Pr.out {W0 w : World} {B M N : Nat} {T R : List Nat} {q q' : List Th} (h : Pr W0 w B T M R N q q') {A : Nat} (hA : w.heap.size ≤ A) : A ∉ T ++ R := fun e => (List.mem_append.1 e).elim (h.outT hA) (h.outR hA)
theorem Pr.new {W0 w1 w2 : World} {B M N : Nat} {T R : List Nat} (h1 : HQ w1 B T N []) (s1 : Step [] W0 T w1) (h2 : RQ w2 M R N []) (s2 : Step [] w1 R w2) : Pr W0 w2 B T M R N [] [] := by
  refine ⟨h1.keep s2.but, h2, fun x hx hy => ?_, s1.but.trans s2.but, fun x hx => .inr ?_⟩
  · have := h1.lt x hx
    rcases s2.new x hy with e | e
    · cases e
    · omega
  · rcases List.mem_append.1 hx with hx | hx
    · rcases s1.new x hx with e | e
      · cases e
      · exact e
    · rcases s2.new x hx with e | e
      · cases e
      · exact Nat.le_trans s1.but.size e
/-- The reference's ids. -/
theorem RQ.ids {w : World} {M N : Nat} {R : List Nat} {q : List Th} (h : RQ w M R N q) : ∃ a c, w.cell? ⟨M, 1, none⟩ = some (.slice a q.length c) := by
  obtain ⟨vi, vk, rfl, h⟩ := h
  obtain ⟨a, c, rfl, -⟩ := h.si
  exact ⟨a, c, h.c1⟩
theorem RQ.idr {w : World} {M N : Nat} {R : List Nat} {q : List Th} (h : RQ w M R N q) : ∃ a c, w.cell? ⟨M, 1, none⟩ = some (.slice a q.length c) ∧ IntsR w a (idsL q) := by
  obtain ⟨vi, vk, rfl, h⟩ := h
  obtain ⟨a, c, rfl, hi, -⟩ := h.si
  exact ⟨a, c, h.c1, hi⟩

set_option maxRecDepth 100000 in
set_option maxHeartbeats 4000000 in
theorem acts_any (n0 : Int) (sa : Option Addr) (ca : Nat) (xs : List (Int × Int × Int)) (w : World) (ha : Acts w sa xs) (hxs : ∀ x ∈ xs, I64 x.1 ∧ I64 x.2.1 ∧ I64 x.2.2) :
    Calls Try.prog 3 #[.int .i64 n0, .slice sa xs.length ca] w fun e w' => e = .returned (.bool true) ∧ Below w.heap.size w w' := by
  have hmx : Try.prog.follows .mixedOrders = true := by kernel_rfl
  by_cases hlen : 200 < xs.length
  · have hlen' : (200 : Int) < (xs.length : Int) := by omega
    go_enter Try.func3, Try.ntmps3
    go_wp2_with (first
      | (go_at_call 8; refine (lives_any _).mono ?_; rintro e w2 ⟨rfl, b2⟩))
    go_ret
    exact ⟨rfl, b2⟩
  · have hlen' : (xs.length : Int) ≤ 200 := by omega
    cases hin : inN 4096 (n0 - 1) with
    | false =>
      go_enter Try.func3, Try.ntmps3
      go_wp2_with (first
        | (go_at_call 9; refine (new_none n0 hin _).mono ?_; rintro e w' ⟨rfl, hw⟩; subst w')
        | (go_at_call 10; refine (rnew_none n0 hin _).mono ?_; rintro e w' ⟨rfl, hw⟩; subst w')
        | (go_at_call 8; refine (lives_any _).mono ?_; rintro e w2 ⟨rfl, b2⟩))
      go_ret
      exact ⟨rfl, b2⟩
    | true =>
      have hin2 : 1 ≤ n0 ∧ n0 ≤ 4096 := by unfold inN at hin; simp at hin; omega
      obtain ⟨N, rfl⟩ : ∃ N : Nat, n0 = N := ⟨n0.toNat, by omega⟩
      have e1 : 1 ≤ N := by omega
      have e2 : N ≤ 4096 := by omega
      clear hin hin2
      go_enter Try.func3, Try.ntmps3
      go_wp2_with (first
        | (go_at_call 9; refine (new_some N e1 e2 _).mono ?_; rintro e w1 ⟨B, T1, rfl, h1, s1⟩)
        | (go_at_call 10; refine (rnew_some N e1 e2 _).mono ?_; rintro e w2 ⟨M, R1, rfl, h2, s2⟩; have hP := Pr.new h1 s1 h2 s2))
      clear h1 s1 h2 s2
      go_loopw [37, 8, 9, 10, 11, 12, 13, 14, 15, 16, 17, 18] (fun v _ _ _ _ _ _ _ _ _ _ _ wr => ∃ (j : Nat) (T R : List Nat) (q : List Th), j ≤ xs.length ∧ v = .int .i64 j ∧ Pr w wr B T M R N q q ∧ Bd q) (fun v _ _ _ _ _ _ _ _ _ _ _ _ => 200 - (intOf v).toNat)
      case atStart => exact ⟨0, T1, R1, [], by omega, rfl, hP, fun p hp => by simp at hp⟩
      case round =>
        clear hP
        obtain ⟨j, T, R, q, hj, rfl, hP, hbd0⟩ := hrel
        by_cases hlt : j < xs.length
        · obtain ⟨b, o, rfl, x0, x1, x2⟩ := ha.below hP.s.below j xs[j] (by simp)
          have hlt' : (j : Int) < (xs.length : Int) := by omega
          have hx64 := hxs xs[j] (List.getElem_mem hlt)
          generalize xs[j] = x at x0 x1 x2 hx64
          obtain ⟨k, t, key⟩ := x
          dsimp only at x0 x1 x2 hx64
          have hP1 := hP.keep ((But.refl [] wr).alloc (.cells #[.int .i64 k, .int .i64 t, .int .i64 key] 29))
          have hA1 := ActAt.new wr k t key
          have hout := hP.out (Nat.le_refl _)
          have c29 : Try.prog.cellsOf 29 = 3 := by kernel_rfl
          have hsz := hP.a.sizes
          go_wp2_with fail
          generalize wr.alloc (.cells #[.int .i64 k, .int .i64 t, .int .i64 key] 29) = W1 at *
          have hP1d := hP1.keep (But.refl [] W1).drew
          have hA1d := hA1.keep (But.refl [] W1).drew
          have AC : ∀ W, Pr w W B T M R N q q → _ := fun W h => act_any (w := W) h hbd0 k t key hx64.2.2
          have hbd : Bd (actS N q k t key) := act_bd hbd0 hx64.2.2
          generalize actS N q k t key = q2 at AC hbd
          have SO : ∀ W T, HQ W B T N q2 → _ := fun W T h => sound_any (w := W) (T := T) h
          have LE : ∀ W T, HQ W B T N q2 → _ := fun W T h => lenq_any (w := W) (T := T) h
          have RC : ∀ W R, RQ W M R N q2 → _ := fun W R h => h.ids (w := W) (R := R)
          have LA : ∀ W T, HQ W B T N q2 → _ := fun W T h => least_any (w := W) (T := T) h
          have RLA : ∀ W R, RQ W M R N q2 → _ := fun W R h => rleast_any (w := W) (R := R) h
          have KE : ∀ W T, HQ W B T N q2 → _ := fun W T h => key_any (w := W) (T := T) h t
          have RKE : ∀ W R, RQ W M R N q2 → _ := fun W R h => rkey_any (w := W) (R := R) h t
          generalize fstI q2 = y1 at LA RLA
          generalize fstK q2 = y2 at LA RLA
          generalize fstB q2 = y3 at LA RLA
          generalize keyV q2 t = y4 at KE RKE
          generalize hasB q2 t = y5 at KE RKE
          generalize q2.length = y6 at LE RC
          clear hA1 hP1 x0 x1 x2 hsz hP
          refine wp_region_K 19 (fun w' => w'.cell? ⟨wr.heap.size, 0, none⟩ = some (.int .i64 k) ∧ w'.cell? ⟨wr.heap.size, 1, none⟩ = some (.int .i64 t) ∧ w'.cell? ⟨wr.heap.size, 2, none⟩ = some (.int .i64 key)) hmx (by kernel_rfl) hA1d (fun hHeld hdep => ?_)
          refine wpAnyK_take (i := 0) (v := ?_) (some 41) rfl rfl hdep (by kernel_rfl) (fun _ _ _ h => h) (Or.inl ⟨by rfl, ?_⟩) hA1d ?_
          rotate_left
          · (intro w hSw; go_simp; all_goals with_reducible rfl)
          try simp only [Act.put, List.setIfInBounds_toArray, List.set_cons_zero, List.set_cons_succ]
          refine wpAnyK_take (i := 1) (v := ?_) (some 42) rfl rfl hdep (by kernel_rfl) (fun _ _ _ h => h) (Or.inl ⟨by rfl, ?_⟩) hA1d ?_
          rotate_left
          · (intro w hSw; go_simp; all_goals with_reducible rfl)
          try simp only [Act.put, List.setIfInBounds_toArray, List.set_cons_zero, List.set_cons_succ]
          refine wpAnyK_take (i := 2) (v := ?_) (some 43) rfl rfl hdep (by kernel_rfl) (fun _ _ _ h => h) (Or.inl ⟨by rfl, ?_⟩) hA1d ?_
          rotate_left
          · (intro w hSw; go_simp; all_goals with_reducible rfl)
          try simp only [Act.put, List.setIfInBounds_toArray, List.set_cons_zero, List.set_cons_succ]
          refine wpAnyK_one (i := 3) (by kernel_rfl) rfl (fun K hK => ?_)
          go_simp
          (go_at_call 11; refine (AC _ hP1d).mono ?_; rintro e w2 ⟨rfl, T2, R2, p2, s2⟩)
          have hA2 := hA1d.out s2.but hout
          refine hK.out _ _ (fun _ => hA2) ?_
          clear hK K
          try simp only [Act.put, List.setIfInBounds_toArray, List.set_cons_zero, List.set_cons_succ]
          refine wpAnyK_take (i := 4) (v := ?_) (some 45) rfl rfl hdep (by kernel_rfl) (fun _ _ _ h => h) (Or.inl ⟨by rfl, ?_⟩) hA2 ?_
          rotate_left
          · (intro w hSw; go_simp; all_goals with_reducible rfl)
          try simp only [Act.put, List.setIfInBounds_toArray, List.set_cons_zero, List.set_cons_succ]
          refine wpAnyK_take (i := 5) (v := ?_) (some 46) rfl rfl hdep (by kernel_rfl) (fun _ _ _ h => h) (Or.inl ⟨by rfl, ?_⟩) hA2 ?_
          rotate_left
          · (intro w hSw; go_simp; all_goals with_reducible rfl)
          try simp only [Act.put, List.setIfInBounds_toArray, List.set_cons_zero, List.set_cons_succ]
          refine wpAnyK_take (i := 6) (v := ?_) (some 47) rfl rfl hdep (by kernel_rfl) (fun _ _ _ h => h) (Or.inl ⟨by rfl, ?_⟩) hA2 ?_
          rotate_left
          · (intro w hSw; go_simp; all_goals with_reducible rfl)
          try simp only [Act.put, List.setIfInBounds_toArray, List.set_cons_zero, List.set_cons_succ]
          refine wpAnyK_one (i := 7) (by kernel_rfl) rfl (fun K hK => ?_)
          go_simp
          (go_at_call 12; refine (SO _ _ p2.a).mono ?_; rintro e w3 ⟨rfl, b3⟩)
          have p3 := p2.keep (.of_below b3)
          have hA3 := hA2.keep (.of_below b3)
          obtain ⟨va, vc, hc3⟩ := RC _ _ p3.r
          refine hK.out _ _ (fun _ => hA3) ?_
          clear hK K
          try simp only [Act.put, List.setIfInBounds_toArray, List.set_cons_zero, List.set_cons_succ]
          refine wpAnyK_take (i := 8) (v := ?_) (some 49) rfl rfl hdep (by kernel_rfl) (fun _ _ _ h => h) (Or.inl ⟨by rfl, ?_⟩) hA3 ?_
          rotate_left
          · (intro w hSw; go_simp; all_goals with_reducible rfl)
          try simp only [Act.put, List.setIfInBounds_toArray, List.set_cons_zero, List.set_cons_succ]
          refine wpAnyK_take (i := 9) (v := ?_) (some 50) rfl rfl hdep (by kernel_rfl) (fun _ _ _ h => h) (Or.inl ⟨by rfl, ?_⟩) hA3 ?_
          rotate_left
          · (intro w hSw; go_simp; all_goals with_reducible rfl)
          try simp only [Act.put, List.setIfInBounds_toArray, List.set_cons_zero, List.set_cons_succ]
          refine wpAnyK_take (i := 10) (v := ?_) (some 51) rfl rfl hdep (by kernel_rfl) (fun _ _ _ h => h) (Or.inl ⟨by rfl, ?_⟩) hA3 ?_
          rotate_left
          · (intro w hSw; go_simp; all_goals with_reducible rfl)
          try simp only [Act.put, List.setIfInBounds_toArray, List.set_cons_zero, List.set_cons_succ]
          refine wpAnyK_take (i := 11) (v := ?_) (some 52) rfl rfl hdep (by kernel_rfl) (fun _ _ _ h => h) (Or.inl ⟨by rfl, ?_⟩) hA3 ?_
          rotate_left
          · (intro w hSw; go_simp; all_goals with_reducible rfl)
          try simp only [Act.put, List.setIfInBounds_toArray, List.set_cons_zero, List.set_cons_succ]
          refine wpAnyK_take (i := 13) (v := ?_) (some 54) rfl rfl hdep (by kernel_rfl) (fun _ _ _ h => h) (Or.inl ⟨by rfl, ?_⟩) hA3 ?_
          rotate_left
          · (intro w hSw; go_simp; all_goals with_reducible rfl)
          try simp only [Act.put, List.setIfInBounds_toArray, List.set_cons_zero, List.set_cons_succ]
          refine wpAnyK_take (i := 14) (v := ?_) (some 55) rfl rfl hdep (by kernel_rfl) (fun _ _ _ h => h) (Or.inl ⟨by rfl, ?_⟩) hA3 ?_
          rotate_left
          · (intro w hSw; go_simp; all_goals with_reducible rfl)
          try simp only [Act.put, List.setIfInBounds_toArray, List.set_cons_zero, List.set_cons_succ]
          refine wpAnyK_take (i := 15) (v := ?_) (some 56) rfl rfl hdep (by kernel_rfl) (fun _ _ _ h => h) (Or.inl ⟨by rfl, ?_⟩) hA3 ?_
          rotate_left
          · (intro w hSw; go_simp; all_goals with_reducible rfl)
          try simp only [Act.put, List.setIfInBounds_toArray, List.set_cons_zero, List.set_cons_succ]
          refine wpAnyK_two (i := 12) (j := 16) (by kernel_rfl) rfl rfl (fun K hK => ?_) (fun K hK => ?_)
          · go_simp
            (go_at_call 13; refine (LE _ _ p3.a).mono ?_; rintro e w' ⟨rfl, hw⟩; subst w')
            refine hK.out _ _ (fun _ => hA3) ?_
            clear hK K
            try simp only [Act.put, List.setIfInBounds_toArray, List.set_cons_zero, List.set_cons_succ]
            refine wpAnyK_one (i := 16) (by kernel_rfl) rfl (fun K hK => ?_)
            go_simp
            refine hK.out _ _ (fun _ => hA3) ?_
            clear hK K
            try simp only [Act.put, List.setIfInBounds_toArray, List.set_cons_zero, List.set_cons_succ]
            refine wpAnyK_take (i := 17) (v := ?_) (some 58) rfl rfl hdep (by kernel_rfl) (fun _ _ _ h => h) (Or.inl ⟨by rfl, ?_⟩) hA3 ?_
            rotate_left
            · (intro w hSw; go_simp; all_goals with_reducible rfl)
            try simp only [Act.put, List.setIfInBounds_toArray, List.set_cons_zero, List.set_cons_succ]
            refine wpAnyK_take (i := 18) (v := ?_) (some 59) rfl rfl hdep (by kernel_rfl) (fun _ _ _ h => h) (Or.inl ⟨by rfl, ?_⟩) hA3 ?_
            rotate_left
            · (intro w hSw; go_simp; all_goals with_reducible rfl)
            try simp only [Act.put, List.setIfInBounds_toArray, List.set_cons_zero, List.set_cons_succ]
            refine wpAnyK_one (i := 19) (by kernel_rfl) rfl (fun K hK => ?_)
            go_simp
            refine hK.out _ _ (fun h => absurd rfl h) ?_
            clear hK K
            try simp only [Act.put, List.setIfInBounds_toArray, List.set_cons_zero, List.set_cons_succ]
            refine wpAnyK_done (by kernel_rfl) ?_
            go_wp2_with (first
              | (go_at_call 14; refine (LA _ _ p3.a).mono ?_; rintro e w4 ⟨rfl, d4⟩; have p4 := p3.keep d4.but; have hA4 := hA3.keep d4.but)
              | (go_at_call 15; refine (RLA _ _ p4.r).mono ?_; rintro e w5 ⟨rfl, d5⟩; have p5 := p4.keep d5.but; have hA5 := hA4.keep d5.but; obtain ⟨-, e5, -⟩ := hA5)
              | (go_at_call 16; refine (KE _ _ p5.a).mono ?_; rintro e w6 ⟨rfl, d6⟩; have p6 := p5.keep d6.but; have e6 : w6.cell? ⟨wr.heap.size, 1, none⟩ = some (.int .i64 t) := (Drawn.but (S := []) d6).cell e5)
              | (go_at_call 17; refine (RKE _ _ p6.r).mono ?_; rintro e w' ⟨rfl, hw⟩; subst w'))
            go_roundw
            case rel => exact ⟨j + 1, T2, R2, q2, by omega, by simp, p6, hbd⟩
            case measure =>
              simp [intOf]
              omega
          · go_simp
            refine hK.out _ _ (fun _ => hA3) ?_
            clear hK K
            try simp only [Act.put, List.setIfInBounds_toArray, List.set_cons_zero, List.set_cons_succ]
            refine wpAnyK_take (i := 17) (v := ?_) (some 58) rfl rfl hdep (by kernel_rfl) (fun _ _ _ h => h) (Or.inl ⟨by rfl, ?_⟩) hA3 ?_
            rotate_left
            · (intro w hSw; go_simp; all_goals with_reducible rfl)
            try simp only [Act.put, List.setIfInBounds_toArray, List.set_cons_zero, List.set_cons_succ]
            refine wpAnyK_one (i := 12) (by kernel_rfl) rfl (fun K hK => ?_)
            go_simp
            (go_at_call 13; refine (LE _ _ p3.a).mono ?_; rintro e w' ⟨rfl, hw⟩; subst w')
            refine hK.out _ _ (fun _ => hA3) ?_
            clear hK K
            try simp only [Act.put, List.setIfInBounds_toArray, List.set_cons_zero, List.set_cons_succ]
            refine wpAnyK_take (i := 18) (v := ?_) (some 59) rfl rfl hdep (by kernel_rfl) (fun _ _ _ h => h) (Or.inl ⟨by rfl, ?_⟩) hA3 ?_
            rotate_left
            · (intro w hSw; go_simp; all_goals with_reducible rfl)
            try simp only [Act.put, List.setIfInBounds_toArray, List.set_cons_zero, List.set_cons_succ]
            refine wpAnyK_one (i := 19) (by kernel_rfl) rfl (fun K hK => ?_)
            go_simp
            refine hK.out _ _ (fun h => absurd rfl h) ?_
            clear hK K
            try simp only [Act.put, List.setIfInBounds_toArray, List.set_cons_zero, List.set_cons_succ]
            refine wpAnyK_done (by kernel_rfl) ?_
            go_wp2_with (first
              | (go_at_call 14; refine (LA _ _ p3.a).mono ?_; rintro e w4 ⟨rfl, d4⟩; have p4 := p3.keep d4.but; have hA4 := hA3.keep d4.but)
              | (go_at_call 15; refine (RLA _ _ p4.r).mono ?_; rintro e w5 ⟨rfl, d5⟩; have p5 := p4.keep d5.but; have hA5 := hA4.keep d5.but; obtain ⟨-, e5, -⟩ := hA5)
              | (go_at_call 16; refine (KE _ _ p5.a).mono ?_; rintro e w6 ⟨rfl, d6⟩; have p6 := p5.keep d6.but; have e6 : w6.cell? ⟨wr.heap.size, 1, none⟩ = some (.int .i64 t) := (Drawn.but (S := []) d6).cell e5)
              | (go_at_call 17; refine (RKE _ _ p6.r).mono ?_; rintro e w' ⟨rfl, hw⟩; subst w'))
            go_roundw
            case rel => exact ⟨j + 1, T2, R2, q2, by omega, by simp, p6, hbd⟩
            case measure =>
              simp [intOf]
              omega
        · obtain rfl : j = xs.length := by omega
          have AL := fun W (h : HQ W B T N q) => all_any (w := W) h
          have hq4 : q.length ≤ 4096 := by have := hP.a.sizes; omega
          obtain ⟨ra, rc, hc1, hir⟩ := hP.r.idr
          have hPd := hP.keep (But.refl [] wr).drew
          have hc1d : wr.drew.cell? ⟨M, 1, none⟩ = some (.slice ra q.length rc) := hc1
          have hird : IntsR wr.drew ra (idsL q) := hir
          have hid : ∀ W, Below wr.drew.heap.size wr.drew W → IntsR W ra (idsL q) := fun W hb => hird.below hb
          clear hir
          go_wp2_with fail
          go_region_held3 (fun w' => w'.cell? ⟨M, 1, none⟩ = some (.slice ra q.length rc)) (first | with_reducible assumption | with_reducible exact hc1d) (first
            | (go_at_call 19; refine (AL _ hPd.a).mono ?_; rintro e w2 ⟨va, rfl, r2, b2⟩; have k2 := cell_on b2 hc1d; have i2 := hid _ b2)
            | (go_at_call 18; refine (ints_q _ _ _ _ hq4 r2.at i2).mono ?_; rintro e w3 ⟨rfl, b3⟩; have k3 := cell_on b3 k2)
            | (go_at_call 8; refine (lives_any _).mono ?_; rintro e w4 ⟨rfl, b4⟩; have k4 := cell_on b4 k3))
          all_goals
            go_wp2_with fail
            go_ret
            have z1 := hPd.s.below
            have z2 := z1.trans (b2.mono z1.size)
            have z3 := z2.trans (b3.mono z2.size)
            exact ⟨rfl, z3.trans (b4.mono z3.size)⟩

end Go.Proofs.Ytmogedfjhbfglaa
