/- The walk of MailCopies. -/
import Derived.Test.YtcffmdimfmpheaaDoorMlActW
namespace Go.Proofs.YtcffmdimfmpheaaDoor
open Go Go.RowKit
set_option linter.unusedSimpArgs false

theorem Pr.but {W0 w w' : World} {B M N : Nat} {T R S : List Nat} {xs xs' : List Ev} (h : Pr W0 w B T M R N xs xs') (hb : But S w w') (hS : Disj (T ++ R) S) (h0 : But [] W0 w') : Pr W0 w' B T M R N xs xs' :=
  ⟨h.a.but hb (fun x hx => hS x (by simp [hx])), h.r.but hb (fun x hx => hS x (by simp [hx])), h.d, ⟨h0, h.s.new⟩⟩
set_option maxRecDepth 100000 in
set_option maxHeartbeats 8000000 in
theorem copies_any (sa : Option Addr) (ca : Nat) (xs : List Ac) (sb : Option Addr) (cb : Nat) (ys : List Ac) (w : World) (ha : Acts w sa xs) (hb : Acts w sb ys) (hT : Tab w) :
    Calls Tryd.prog 5 #[.slice sa xs.length ca, .slice sb ys.length cb] w fun e w' => e = .returned (.bool true) ∧ Below w.heap.size w w' := by
  have HL : ∀ W, Below w.heap.size w W → Calls Tryd.prog 8 #[] W fun r w' => r = .returned (.bool true) ∧ Below W.heap.size W w' := fun W h => lives_any (hT.on h)
  have L1 : ∀ W, Below w.heap.size w W → Calls Tryd.prog 7 #[.slice sa xs.length ca] W fun e w' => e = .returned (.bool (lgtB xs)) ∧ Below W.heap.size W w' := fun W h => light_fn ca (ha.below h)
  have L2 : ∀ W, Below w.heap.size w W → Calls Tryd.prog 7 #[.slice sb ys.length cb] W fun e w' => e = .returned (.bool (lgtB ys)) ∧ Below W.heap.size W w' := fun W h => light_fn cb (hb.below h)
  obtain ⟨n, hN⟩ : ∃ n, Hid (xs.length = n) := ⟨_, rfl⟩
  obtain ⟨m, hM⟩ : ∃ m, Hid (ys.length = m) := ⟨_, rfl⟩
  rw [hN.out] at L1 ⊢
  rw [hM.out] at L2 ⊢
  cases hx : lgtB xs with
  | false =>
    rw [hx] at L1
    clear L2 hx
    go_enter Tryd.func5, Tryd.ntmps5
    go_wp2_with (first
      | (go_at_call 9; refine (new_some 9 (by decide) (by decide) _).mono ?_; rintro e w1 ⟨B, T1, rfl, h1, s1⟩)
      | (go_at_call 10; refine (rnew_some 9 (by decide) (by decide) _).mono ?_; rintro e w2 ⟨M, R1, rfl, h2, s2⟩; have hP := Pr.new h1 s1 h2 s2)
      | (go_at_call 7; (with_reducible refine (L1 _ hP.s.below).mono ?_); rintro e w3 ⟨rfl, b3⟩; have p3 := hP.below b3)
      | (go_at_call 8; (with_reducible refine (HL _ p3.s.below).mono ?_); rintro e w4 ⟨rfl, b4⟩))
    go_ret
    exact ⟨rfl, below2 p3.s.below p3.s.but.size b4⟩
  | true =>
    cases hy : lgtB ys with
    | false =>
      rw [hx] at L1
      rw [hy] at L2
      clear hx hy
      go_enter Tryd.func5, Tryd.ntmps5
      go_wp2_with (first
        | (go_at_call 9; refine (new_some 9 (by decide) (by decide) _).mono ?_; rintro e w1 ⟨B, T1, rfl, h1, s1⟩)
        | (go_at_call 10; refine (rnew_some 9 (by decide) (by decide) _).mono ?_; rintro e w2 ⟨M, R1, rfl, h2, s2⟩; have hP := Pr.new h1 s1 h2 s2)
        | (go_at_call 7; (with_reducible refine (L1 _ hP.s.below).mono ?_); rintro e w3 ⟨rfl, b3⟩; have p3 := hP.below b3; clear hP)
        | (go_at_call 7; (with_reducible refine (L2 _ p3.s.below).mono ?_); rintro e w5 ⟨rfl, b5⟩; have p5 := p3.below b5)
        | (go_at_call 8; (with_reducible refine (HL _ p5.s.below).mono ?_); rintro e w4 ⟨rfl, b4⟩))
      go_ret
      exact ⟨rfl, below2 p5.s.below p5.s.but.size b4⟩
    | true =>
      have hxl := lgtB_len hx
      have hyl := lgtB_len hy
      rw [hN.out] at hxl
      rw [hM.out] at hyl
      rw [hx] at L1
      rw [hy] at L2
      clear hx hy
      go_enter Tryd.func5, Tryd.ntmps5
      go_wp2_with (first
        | (go_at_call 9; refine (new_some 9 (by decide) (by decide) _).mono ?_; rintro e w1 ⟨B, T1, rfl, h1, s1⟩)
        | (go_at_call 10; refine (rnew_some 9 (by decide) (by decide) _).mono ?_; rintro e w2 ⟨M, R1, rfl, h2, s2⟩; have hP := Pr.new h1 s1 h2 s2)
        | (go_at_call 7; (with_reducible refine (L1 _ hP.s.below).mono ?_); rintro e w3 ⟨rfl, b3⟩; have p3 := hP.below b3; clear hP)
        | (go_at_call 7; (with_reducible refine (L2 _ p3.s.below).mono ?_); rintro e w5 ⟨rfl, b5⟩; have p5 := p3.below b5))
      clear h1 s1 h2 s2 L1 L2 p3 b3 b5
      go_loopw [34, 8] (fun v _ wr => ∃ (j : Nat) (T R : List Nat) (q : List Ev), j ≤ n ∧ v = .int .i64 j ∧ Pr w wr B T M R 9 q q) (fun v _ _ => 80 - (intOf v).toNat)
      case atStart => exact ⟨0, T1, R1, [], Nat.zero_le _, rfl, p5⟩
      case round =>
        clear p5
        obtain ⟨j, T, R, q, hj, rfl, hP⟩ := hrel
        by_cases hlt : j < n
        · have hjx : j < xs.length := by rw [hN.out]; exact hlt
          obtain ⟨b, o, rfl, la, lc, hr, hel, hlc, hlm⟩ := ha j hjx
          have hrw := range_below hr hP.s.below
          have hlt' : (j : Int) < (n : Int) := by omega
          generalize ac xs j = t at *
          clear hr
          go_upto_region 6 with fail
          refine wp_region_lit ?_
          iterate 3 go_step
          refine wpList_load_mid rfl 36 (.tmp 36) rfl b (o + j * 18) rfl (c18 t la lc) _ hrw Tryd.underlying36 rfl size18 ?_
          iterate 3 go_step
          refine wpList_store_mid rfl 36 (.tmp 8) (.tmp 37) rfl wr.heap.size 0 (c18 t la lc).toArray rfl rfl (th18 wr) size18 (c18_one _ _ _) ?_
          rw [show (c18 t la lc).toArray.toList = c18 t la lc from rfl]
          have hA1 := World.rangeAt_setCells_same (wr.alloc (.cells #[.int .i64 0, .int .i64 0, .int .i64 0, .int .i64 0, .int .i64 0, .int .i64 0, .int .i64 0, .int .i64 0, .int .i64 0, .int .i64 0, .int .i64 0, .int .i64 0, .int .i64 0, .int .i64 0, .int .i64 0, .int .i64 0, .int .i64 0, .slice none 0 0] 36)) wr.heap.size 0 (c18 t la lc) (th18 wr)
          have bA := new18 wr t la lc
          have hsz := size18_new wr t la lc
          have HSZ := Hid.mk hsz
          generalize (wr.alloc (.cells #[.int .i64 0, .int .i64 0, .int .i64 0, .int .i64 0, .int .i64 0, .int .i64 0, .int .i64 0, .int .i64 0, .int .i64 0, .int .i64 0, .int .i64 0, .int .i64 0, .int .i64 0, .int .i64 0, .int .i64 0, .int .i64 0, .int .i64 0, .slice none 0 0] 36)).setCells wr.heap.size 0 (c18 t la lc) = W1 at *
          clear hsz
          have hP1 := hP.below bA
          have AC := act_any hP1 hT t la lc hel (by omega)
          generalize actX 9 q t = x2 at *
          clear hP hP1 bA hrw
          go_upto_region 7 with fail
          refine wp_region_lit ?_
          iterate 6 go_step
          refine wpList_load_mid rfl 36 (.tmp 8) rfl wr.heap.size 0 rfl (c18 t la lc) _ hA1 Tryd.underlying36 rfl size18 ?_
          rw [acA_list]
          go_wp2_with (go_at_call 11; (with_reducible refine AC.mono ?_); rintro e w2 ⟨rfl, T2, R2, p2, s2⟩)
          go_roundw
          case rel => exact ⟨j + 1, T2, R2, x2, by omega, by simp, p2⟩
          case measure =>
            simp [intOf]
            omega
        · obtain rfl : j = n := by omega
          have hq9 : q.length ≤ 4096 := by have := hP.a.len; omega
          have RY := fun W (h : RQ W M R 9 q) => rcopy_any h hq9
          go_wp2_with (first
            | (go_at_call 22; refine (copy_any hP.a).mono ?_; rintro e w3 ⟨B2, T3, rfl, c3, s3⟩; have p3 := hP.keep s3.but)
            | (go_at_call 23; refine (RY _ p3.r).mono ?_; rintro e w4 ⟨M2, R4, rfl, c4, s4⟩; have p4 := p3.keep s4.but))
          have hQ : Pr w w4 B2 T3 M2 R4 9 q q := by
            have hn := Pr.new c3 s3 c4 s4
            exact ⟨hn.a, hn.r, hn.d, ⟨p4.s.but, fun x hx => .inr ((hn.s.new x hx).elim (fun e => by cases e) (fun l => Nat.le_trans hP.s.but.size l))⟩⟩
          have hDj : Disj (T ++ R) (T3 ++ R4) := fun x hx hy => by
            have hx' := hP.lt x hx
            rcases List.mem_append.1 hy with hy | hy
            · rcases s3.new x hy with e | e
              · cases e
              · omega
            · rcases s4.new x hy with e | e
              · cases e
              · have := s3.but.size; omega
          clear c3 s3 c4 s4 p3 hP RY
          go_loopw [49, 12] (fun v _ wx => ∃ (k : Nat) (T2 R2 : List Nat) (q2 : List Ev), k ≤ m ∧ v = .int .i64 k ∧ Pr w wx B T M R 9 q q ∧ Pr w wx B2 T2 M2 R2 9 q2 q2 ∧ Disj (T ++ R) (T2 ++ R2)) (fun v _ _ => 80 - (intOf v).toNat)
          case atStart => exact ⟨0, T3, R4, q, Nat.zero_le _, rfl, p4, hQ, hDj⟩
          case round =>
            clear p4 hQ hDj
            obtain ⟨j, T2, R2, q2, hj, rfl, hP, hQ, hDj⟩ := hrel
            by_cases hlt : j < m
            · have hjy : j < ys.length := by rw [hM.out]; exact hlt
              obtain ⟨b, o, rfl, la, lc, hr, hel, hlc, hlm⟩ := hb j hjy
              have hrw := range_below hr hQ.s.below
              have hlt' : (j : Int) < (m : Int) := by omega
              generalize ac ys j = t at *
              clear hr
              go_upto_region 12 with fail
              refine wp_region_lit ?_
              iterate 3 go_step
              refine wpList_load_mid rfl 36 (.tmp 51) rfl b (o + j * 18) rfl (c18 t la lc) _ hrw Tryd.underlying36 rfl size18 ?_
              iterate 3 go_step
              refine wpList_store_mid rfl 36 (.tmp 12) (.tmp 52) rfl wr.heap.size 0 (c18 t la lc).toArray rfl rfl (th18 wr) size18 (c18_one _ _ _) ?_
              rw [show (c18 t la lc).toArray.toList = c18 t la lc from rfl]
              have hA1 := World.rangeAt_setCells_same (wr.alloc (.cells #[.int .i64 0, .int .i64 0, .int .i64 0, .int .i64 0, .int .i64 0, .int .i64 0, .int .i64 0, .int .i64 0, .int .i64 0, .int .i64 0, .int .i64 0, .int .i64 0, .int .i64 0, .int .i64 0, .int .i64 0, .int .i64 0, .int .i64 0, .slice none 0 0] 36)) wr.heap.size 0 (c18 t la lc) (th18 wr)
              have bA := new18 wr t la lc
              have hsz := size18_new wr t la lc
              have HSZ := Hid.mk hsz
              generalize (wr.alloc (.cells #[.int .i64 0, .int .i64 0, .int .i64 0, .int .i64 0, .int .i64 0, .int .i64 0, .int .i64 0, .int .i64 0, .int .i64 0, .int .i64 0, .int .i64 0, .int .i64 0, .int .i64 0, .int .i64 0, .int .i64 0, .int .i64 0, .int .i64 0, .slice none 0 0] 36)).setCells wr.heap.size 0 (c18 t la lc) = W1 at *
              clear hsz
              have hP1 := hP.below bA
              have hQ1 := hQ.below bA
              have AC := act_any hQ1 hT t la lc hel (by omega)
              generalize actX 9 q2 t = x3 at *
              clear hP hQ bA hrw
              go_upto_region 13 with fail
              refine wp_region_lit ?_
              iterate 6 go_step
              refine wpList_load_mid rfl 36 (.tmp 12) rfl wr.heap.size 0 rfl (c18 t la lc) _ hA1 Tryd.underlying36 rfl size18 ?_
              rw [acA_list]
              go_wp2_with (go_at_call 11; (with_reducible refine AC.mono ?_); rintro e w5 ⟨rfl, T5, R5, p5, s5⟩)
              go_roundw
              case rel => exact ⟨j + 1, T5, R5, x3, by omega, by simp, hP1.but s5.but hDj p5.s.but, p5, (hDj.symm.step s5 hP1.lt).symm⟩
              case measure =>
                simp [intOf]
                omega
            · obtain rfl : j = m := by omega
              have pd := hP.keep (But.refl [] wr).drew
              have pd2 := hQ.keep (But.refl [] wr).drew
              obtain ⟨va, vc, hc1, hm1⟩ := pd.r.told
              obtain ⟨vb, vd, hc2, hm2⟩ := pd2.r.told
              have hSd : wr.drew.cell? ⟨M, 1, none⟩ = some (.slice va q.length vc) ∧ wr.drew.cell? ⟨M2, 1, none⟩ = some (.slice vb q2.length vd) := ⟨hc1, hc2⟩
              have hq1 : q.length ≤ 50000 := by have := hP.a.len; omega
              have hq2 : q2.length ≤ 50000 := by have := hQ.a.len; omega
              clear hc1 hc2 hP hQ
              go_upto_region 16 with fail
              refine wp_region_held_drew (S := (fun w' : World => w'.cell? ⟨M, 1, none⟩ = some (.slice va q.length vc) ∧ w'.cell? ⟨M2, 1, none⟩ = some (.slice vb q2.length vd))) (by kernel_rfl) hSd (fun hHeld => ?_)
              refine anyH_take (i := 0) (v := ?_) (some 59) rfl rfl (by kernel_rfl) (fun _ _ _ h => h) (Or.inl ⟨by rfl, ?_⟩) (by assumption) ?_
              rotate_left
              · (intro w hSw; obtain ⟨z0, z1⟩ := hSw; go_simp; all_goals with_reducible rfl)
              try simp only [Act.put, List.setIfInBounds_toArray, List.set_cons_zero, List.set_cons_succ]
              refine anyH_take (i := 2) (v := ?_) (some 61) rfl rfl (by kernel_rfl) (fun _ _ _ h => h) (Or.inl ⟨by rfl, ?_⟩) (by assumption) ?_
              rotate_left
              · (intro w hSw; obtain ⟨z0, z1⟩ := hSw; go_simp; all_goals with_reducible rfl)
              try simp only [Act.put, List.setIfInBounds_toArray, List.set_cons_zero, List.set_cons_succ]
              refine anyH_take (i := 3) (v := ?_) (some 62) rfl rfl (by kernel_rfl) (fun _ _ _ h => h) (Or.inl ⟨by rfl, ?_⟩) (by assumption) ?_
              rotate_left
              · (intro w hSw; obtain ⟨z0, z1⟩ := hSw; go_simp; all_goals with_reducible rfl)
              try simp only [Act.put, List.setIfInBounds_toArray, List.set_cons_zero, List.set_cons_succ]
              refine anyH_take (i := 4) (v := ?_) (some 63) rfl rfl (by kernel_rfl) (fun _ _ _ h => h) (Or.inl ⟨by rfl, ?_⟩) (by assumption) ?_
              rotate_left
              · (intro w hSw; obtain ⟨z0, z1⟩ := hSw; go_simp; all_goals with_reducible rfl)
              try simp only [Act.put, List.setIfInBounds_toArray, List.set_cons_zero, List.set_cons_succ]
              refine anyH_take (i := 5) (v := ?_) (some 64) rfl rfl (by kernel_rfl) (fun _ _ _ h => h) (Or.inl ⟨by rfl, ?_⟩) (by assumption) ?_
              rotate_left
              · (intro w hSw; obtain ⟨z0, z1⟩ := hSw; go_simp; all_goals with_reducible rfl)
              try simp only [Act.put, List.setIfInBounds_toArray, List.set_cons_zero, List.set_cons_succ]
              refine anyH_one (i := 1) (by kernel_rfl) rfl (fun K hK => ?_)
              go_simp
              go_at_call 14
              (with_reducible refine (all_any (w := wr.drew) (T := T) pd.a).mono ?_)
              rintro e w3 ⟨v3, rfl, ho3, b3⟩
              obtain ⟨a3, c3, rfl⟩ := ho3.at_ rfl
              have hm3 := hm1.below b3
              have p3 := pd2.below b3
              have hn3 := hm2.below b3
              refine hK.out _ _ ⟨cell_on b3 hHeld.1, cell_on b3 hHeld.2⟩ (fun hHeld => ?_)
              clear hK K
              try simp only [Act.put, List.setIfInBounds_toArray, List.set_cons_zero, List.set_cons_succ]
              refine anyH_one (i := 6) (by kernel_rfl) rfl (fun K hK => ?_)
              go_simp
              go_at_call 13
              refine (same_eq rfl ho3.ev_.2.2 hm3 hq1).mono ?_
              rintro e w5 ⟨rfl, b5⟩
              have p5 := p3.below b5
              have hn5 := hn3.below b5
              refine hK.out _ _ ⟨cell_on b5 hHeld.1, cell_on b5 hHeld.2⟩ (fun hHeld => ?_)
              clear hK K
              try simp only [Act.put, List.setIfInBounds_toArray, List.set_cons_zero, List.set_cons_succ]
              refine anyH_take (i := 7) (v := ?_) (some 66) rfl rfl (by kernel_rfl) (fun _ _ _ h => h) (Or.inl ⟨by rfl, ?_⟩) (by assumption) ?_
              rotate_left
              · (intro w hSw; obtain ⟨z0, z1⟩ := hSw; go_simp; all_goals with_reducible rfl)
              try simp only [Act.put, List.setIfInBounds_toArray, List.set_cons_zero, List.set_cons_succ]
              refine anyH_take (i := 8) (v := ?_) (some 67) rfl rfl (by kernel_rfl) (fun _ _ _ h => h) (Or.inl ⟨by rfl, ?_⟩) (by assumption) ?_
              rotate_left
              · (intro w hSw; obtain ⟨z0, z1⟩ := hSw; go_simp; all_goals with_reducible rfl)
              try simp only [Act.put, List.setIfInBounds_toArray, List.set_cons_zero, List.set_cons_succ]
              refine anyH_take (i := 10) (v := ?_) (some 69) rfl rfl (by kernel_rfl) (fun _ _ _ h => h) (Or.inl ⟨by rfl, ?_⟩) (by assumption) ?_
              rotate_left
              · (intro w hSw; obtain ⟨z0, z1⟩ := hSw; go_simp; all_goals with_reducible rfl)
              try simp only [Act.put, List.setIfInBounds_toArray, List.set_cons_zero, List.set_cons_succ]
              refine anyH_take (i := 11) (v := ?_) (some 70) rfl rfl (by kernel_rfl) (fun _ _ _ h => h) (Or.inl ⟨by rfl, ?_⟩) (by assumption) ?_
              rotate_left
              · (intro w hSw; obtain ⟨z0, z1⟩ := hSw; go_simp; all_goals with_reducible rfl)
              try simp only [Act.put, List.setIfInBounds_toArray, List.set_cons_zero, List.set_cons_succ]
              refine anyH_take (i := 12) (v := ?_) (some 71) rfl rfl (by kernel_rfl) (fun _ _ _ h => h) (Or.inl ⟨by rfl, ?_⟩) (by assumption) ?_
              rotate_left
              · (intro w hSw; obtain ⟨z0, z1⟩ := hSw; go_simp; all_goals with_reducible rfl)
              try simp only [Act.put, List.setIfInBounds_toArray, List.set_cons_zero, List.set_cons_succ]
              refine anyH_take (i := 13) (v := ?_) (some 72) rfl rfl (by kernel_rfl) (fun _ _ _ h => h) (Or.inl ⟨by rfl, ?_⟩) (by assumption) ?_
              rotate_left
              · (intro w hSw; obtain ⟨z0, z1⟩ := hSw; go_simp; all_goals with_reducible rfl)
              try simp only [Act.put, List.setIfInBounds_toArray, List.set_cons_zero, List.set_cons_succ]
              refine anyH_one (i := 9) (by kernel_rfl) rfl (fun K hK => ?_)
              go_simp
              go_at_call 14
              (with_reducible refine (all_any (w := w5) (T := T2) p5.a).mono ?_)
              rintro e w6 ⟨v6, rfl, ho6, b6⟩
              obtain ⟨a6, c6, rfl⟩ := ho6.at_ rfl
              have p6 := p5.below b6
              have hn6 := hn5.below b6
              refine hK.out _ _ ⟨cell_on b6 hHeld.1, cell_on b6 hHeld.2⟩ (fun hHeld => ?_)
              clear hK K
              try simp only [Act.put, List.setIfInBounds_toArray, List.set_cons_zero, List.set_cons_succ]
              refine anyH_one (i := 14) (by kernel_rfl) rfl (fun K hK => ?_)
              go_simp
              go_at_call 13
              refine (same_eq rfl ho6.ev_.2.2 hn6 hq2).mono ?_
              rintro e w8 ⟨rfl, b8⟩
              have p8 := p6.below b8
              refine hK.out _ _ ⟨cell_on b8 hHeld.1, cell_on b8 hHeld.2⟩ (fun hHeld => ?_)
              clear hK K
              try simp only [Act.put, List.setIfInBounds_toArray, List.set_cons_zero, List.set_cons_succ]
              refine anyH_take (i := 15) (v := ?_) (some 74) rfl rfl (by kernel_rfl) (fun _ _ _ h => h) (Or.inl ⟨by rfl, ?_⟩) (by assumption) ?_
              rotate_left
              · (intro w hSw; obtain ⟨z0, z1⟩ := hSw; go_simp; all_goals with_reducible rfl)
              try simp only [Act.put, List.setIfInBounds_toArray, List.set_cons_zero, List.set_cons_succ]
              refine anyH_take (i := 16) (v := ?_) (some 75) rfl rfl (by kernel_rfl) (fun _ _ _ h => h) (Or.inl ⟨by rfl, ?_⟩) (by assumption) ?_
              rotate_left
              · (intro w hSw; obtain ⟨z0, z1⟩ := hSw; go_simp; all_goals with_reducible rfl)
              try simp only [Act.put, List.setIfInBounds_toArray, List.set_cons_zero, List.set_cons_succ]
              refine anyH_one (i := 17) (by kernel_rfl) rfl (fun K hK => ?_)
              go_simp
              go_at_call 8
              refine (HL _ p8.s.below).mono ?_
              rintro e w9 ⟨rfl, b9⟩
              have p9 := p8.below b9
              refine hK.out _ _ ⟨cell_on b9 hHeld.1, cell_on b9 hHeld.2⟩ (fun hHeld => ?_)
              clear hK K
              try simp only [Act.put, List.setIfInBounds_toArray, List.set_cons_zero, List.set_cons_succ]
              refine anyH_take (i := 18) (v := ?_) (some 77) rfl rfl (by kernel_rfl) (fun _ _ _ h => h) (Or.inl ⟨by rfl, ?_⟩) (by assumption) ?_
              rotate_left
              · (intro w hSw; obtain ⟨z0, z1⟩ := hSw; go_simp; all_goals with_reducible rfl)
              try simp only [Act.put, List.setIfInBounds_toArray, List.set_cons_zero, List.set_cons_succ]
              refine anyH_take (i := 19) (v := ?_) (some 4) rfl rfl (by kernel_rfl) (fun _ _ _ h => h) (Or.inl ⟨by rfl, ?_⟩) (by assumption) ?_
              rotate_left
              · (intro w hSw; obtain ⟨z0, z1⟩ := hSw; go_simp; all_goals with_reducible rfl)
              try simp only [Act.put, List.setIfInBounds_toArray, List.set_cons_zero, List.set_cons_succ]
              refine wpAnyH_done (by kernel_rfl) ?_ _
              go_wp2_with fail
              go_ret
              exact ⟨rfl, p9.s.below⟩
end Go.Proofs.YtcffmdimfmpheaaDoor
