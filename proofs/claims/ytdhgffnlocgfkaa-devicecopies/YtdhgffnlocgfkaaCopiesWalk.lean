/- The walk of DeviceCopies. -/
import Derived.Test.YtdhgffnlocgfkaaActsWalk
namespace Go.Proofs.Ytdhgffnlocgfkaa
open Go Go.RowKit
set_option linter.unusedSimpArgs false

section
variable {W0 w w' : World} {B M N la dn la' dn' B2 M2 l2 d2 l2' d2' : Nat} {T R T' R' T2 R2 : List Nat} {xs xs' ys ys' : List Rq}
/-- Where other blocks turn. -/
theorem Pr.but {S : List Nat} (h : Pr W0 w B T M R N la dn la' dn' xs xs') (hb : But S w w') (hS : Disj (T ++ R) S) (h0 : But [] W0 w') : Pr W0 w' B T M R N la dn la' dn' xs xs' :=
  ⟨h.a.but hb (fun x hx => hS x (by simp [hx])), h.r.but hb (fun x hx => hS x (by simp [hx])), h.d, ⟨h0, h.s.new⟩⟩
theorem Pr.lt (h : Pr W0 w B T M R N la dn la' dn' xs xs') : ∀ x ∈ T ++ R, x < w.heap.size := fun x hx => (List.mem_append.1 hx).elim (h.a.lt x) (h.r.lt x)
end

set_option maxRecDepth 100000 in
set_option maxHeartbeats 4000000 in
theorem copies_any (sa : Option Addr) (ca : Nat) (xs : List Ac) (sb : Option Addr) (cb : Nat) (ys : List Ac) (w : World) (ha : Acts w sa xs) (hb : Acts w sb ys) :
    Calls Try.prog 5 #[.slice sa xs.length ca, .slice sb ys.length cb] w fun e w' => e = .returned (.bool true) ∧ Below w.heap.size w w' := by
  by_cases h1 : 100 < xs.length
  · have h1' : (100 : Int) < (xs.length : Int) := by omega
    go_enter Try.func5, Try.ntmps5
    go_wp2_with (first
      | (go_at_call 8; refine (new_some 6 (by decide) (by decide) _).mono ?_; rintro e w1 ⟨B, T1, rfl, p1, s1⟩)
      | (go_at_call 9; refine (rnew_some 6 (by decide) (by decide) _).mono ?_; rintro e w2 ⟨M, R1, rfl, p2, s2⟩; have hP := Pr.new p1 s1 p2 s2)
      | (go_at_call 7; refine (lives_any _).mono ?_; rintro e w3 ⟨rfl, b3⟩))
    go_ret
    exact ⟨rfl, below2 hP.s.below hP.s.but.size b3⟩
  have h1' : ¬ (100 : Int) < (xs.length : Int) := by omega
  by_cases h2 : 100 < ys.length
  · have h2' : (100 : Int) < (ys.length : Int) := by omega
    go_enter Try.func5, Try.ntmps5
    go_wp2_with (first
      | (go_at_call 8; refine (new_some 6 (by decide) (by decide) _).mono ?_; rintro e w1 ⟨B, T1, rfl, p1, s1⟩)
      | (go_at_call 9; refine (rnew_some 6 (by decide) (by decide) _).mono ?_; rintro e w2 ⟨M, R1, rfl, p2, s2⟩; have hP := Pr.new p1 s1 p2 s2)
      | (go_at_call 7; refine (lives_any _).mono ?_; rintro e w3 ⟨rfl, b3⟩))
    go_ret
    exact ⟨rfl, below2 hP.s.below hP.s.but.size b3⟩
  have h2' : ¬ (100 : Int) < (ys.length : Int) := by omega
  go_enter Try.func5, Try.ntmps5
  go_wp2_with (first
    | (go_at_call 8; refine (new_some 6 (by decide) (by decide) _).mono ?_; rintro e w1 ⟨B, T1, rfl, p1, s1⟩)
    | (go_at_call 9; refine (rnew_some 6 (by decide) (by decide) _).mono ?_; rintro e w2 ⟨M, R1, rfl, p2, s2⟩; have hP := Pr.new p1 s1 p2 s2))
  clear p1 s1 p2 s2
  go_loopw [34, 8] (fun v _ wr => ∃ (j : Nat) (T R : List Nat) (la dn : Nat) (q : List Rq), j ≤ xs.length ∧ v = .int .i64 j ∧ Pr w wr B T M R 6 la dn la dn q q ∧ la ≤ j ∧ dn ≤ j) (fun v _ _ => 100 - (intOf v).toNat)
  case atStart => exact ⟨0, T1, R1, 0, 0, [], by omega, rfl, hP, Nat.le_refl _, Nat.le_refl _⟩
  case round =>
    clear hP
    obtain ⟨j, T, R, la, dn, q, hj, rfl, hP, hla, hdn⟩ := hrel
    by_cases hlt : j < xs.length
    · obtain ⟨b, o, rfl, m0, m1, m2, m3, m4, m5, m6⟩ := ha.below hP.s.below j hlt
      have hlt' : (j : Int) < (xs.length : Int) := by omega
      generalize ac xs j = x at m0 m1 m2 m3 m4 m5 m6
      obtain ⟨kd, kk, i, s, t, k, z⟩ := x
      dsimp only at m0 m1 m2 m3 m4 m5 m6
      have hP1 := hP.keep ((But.refl [] wr).alloc (.cells #[.int .i64 kd, .int .i64 kk, .int .i64 i, .int .i64 s, .int .i64 t, .int .i64 k, .int .i64 z] 31))
      have AC := act_any hP1 (by omega) (by omega) kd kk i s t k z
      have hl2 := actL_le 6 la q (kd, kk, i, s, t, k, z)
      have hd2 := actD_le dn q (kd, kk, i, s, t, k, z)
      generalize actL 6 la q (kd, kk, i, s, t, k, z) = l2 at *
      generalize actD dn q (kd, kk, i, s, t, k, z) = d2 at *
      generalize actX 6 la q (kd, kk, i, s, t, k, z) = x2 at *
      go_wp2_with (first | (go_at_call 10; (with_reducible refine AC.mono ?_); rintro e w2 ⟨rfl, T2, R2, p2, s2⟩))
      go_roundw
      case rel => exact ⟨j + 1, T2, R2, l2, d2, x2, by omega, by simp, p2, by omega, by omega⟩
      case measure =>
        simp [intOf]
        omega
    · obtain rfl : j = xs.length := by omega
      have hq6 : q.length ≤ 4096 := by have := hP.a.len; omega
      have RY := fun W (h : RQ W M R 6 la dn q) => rcopy_any h hq6
      have la100 : la ≤ 100 := by omega
      have dn100 : dn ≤ 100 := by omega
      go_wp2_with (first
        | (go_at_call 18; refine (copy_any hP.a).mono ?_; rintro e w3 ⟨B2, T3, rfl, c3, s3⟩; have p3 := hP.keep s3.but)
        | (go_at_call 19; refine (RY _ p3.r).mono ?_; rintro e w4 ⟨M2, R4, rfl, c4, s4⟩; have p4 := p3.keep s4.but))
      have hQ : Pr w w4 B2 T3 M2 R4 6 la dn la dn q q := by
        have hn := Pr.new c3 s3 c4 s4
        exact ⟨hn.a, hn.r, hn.d, ⟨p4.s.but, fun x hx => .inr ((hn.s.new x hx).elim (fun e => by cases e) (fun l => Nat.le_trans hP.s.but.size l))⟩⟩
      have hDj : Disj (T ++ R) (T3 ++ R4) := fun x hx hy => by
        have hx' := hP.lt x hx
        rcases List.mem_append.1 hy with hy | hy
        · rcases s3.new x hy with e | e
          · cases e
          · omega
        · rcases s4.new x hy with e | e
          · cases e
          · have := s3.but.size; omega
      clear c3 s3 c4 s4 p3 hP RY
      go_loopw [49, 12] (fun v _ wx => ∃ (j : Nat) (T2 R2 : List Nat) (l2 d2 : Nat) (q2 : List Rq), j ≤ ys.length ∧ v = .int .i64 j ∧ Pr w wx B T M R 6 la dn la dn q q ∧ Pr w wx B2 T2 M2 R2 6 l2 d2 l2 d2 q2 q2 ∧ Disj (T ++ R) (T2 ++ R2) ∧ l2 ≤ j + 100 ∧ d2 ≤ j + 100) (fun v _ _ => 100 - (intOf v).toNat)
      case atStart => exact ⟨0, T3, R4, la, dn, q, by omega, rfl, p4, hQ, hDj, by omega, by omega⟩
      case round =>
        clear p4 hQ hDj
        obtain ⟨j, T2, R2, l2, d2, q2, hj, rfl, hP, hQ, hDj, hl, hd⟩ := hrel
        by_cases hlt : j < ys.length
        · obtain ⟨b, o, rfl, m0, m1, m2, m3, m4, m5, m6⟩ := hb.below hQ.s.below j hlt
          have hlt' : (j : Int) < (ys.length : Int) := by omega
          generalize ac ys j = x at m0 m1 m2 m3 m4 m5 m6
          obtain ⟨kd, kk, i, s, t, k, z⟩ := x
          dsimp only at m0 m1 m2 m3 m4 m5 m6
          have hQ1 := hQ.keep ((But.refl [] wr).alloc (.cells #[.int .i64 kd, .int .i64 kk, .int .i64 i, .int .i64 s, .int .i64 t, .int .i64 k, .int .i64 z] 31))
          have hP1 := hP.keep ((But.refl [] wr).alloc (.cells #[.int .i64 kd, .int .i64 kk, .int .i64 i, .int .i64 s, .int .i64 t, .int .i64 k, .int .i64 z] 31))
          have AC := act_any hQ1 (by omega) (by omega) kd kk i s t k z
          have hl2 := actL_le 6 l2 q2 (kd, kk, i, s, t, k, z)
          have hd2 := actD_le d2 q2 (kd, kk, i, s, t, k, z)
          generalize actL 6 l2 q2 (kd, kk, i, s, t, k, z) = l3 at *
          generalize actD d2 q2 (kd, kk, i, s, t, k, z) = d3 at *
          generalize actX 6 l2 q2 (kd, kk, i, s, t, k, z) = x3 at *
          go_wp2_with (first | (go_at_call 10; (with_reducible refine AC.mono ?_); rintro e w5 ⟨rfl, T5, R5, p5, s5⟩))
          go_roundw
          case rel => exact ⟨j + 1, T5, R5, l3, d3, x3, by omega, by simp, hP1.but s5.but hDj p5.s.but, p5, (hDj.symm.step s5 hP1.lt).symm, by omega, by omega⟩
          case measure =>
            simp [intOf]
            omega
        · obtain rfl : j = ys.length := by omega
          have pd := hP.keep (But.refl [] wr).drew
          have pd2 := hQ.keep (But.refl [] wr).drew
          obtain ⟨va, vc, hc1, hm, -⟩ := pd.r.told
          obtain ⟨vb, vd, hc2, hm2, -⟩ := pd2.r.told
          have hSd : wr.drew.cell? ⟨M, 1, none⟩ = some (.slice va q.length vc) ∧ wr.drew.cell? ⟨M2, 1, none⟩ = some (.slice vb q2.length vd) := ⟨hc1, hc2⟩
          have hq1 : q.length ≤ 50000 := by have := hP.a.len; omega
          have hq2 : q2.length ≤ 50000 := by have := hQ.a.len; omega
          clear hc1 hc2
          go_upto_region 16 with fail
          refine wp_region_held_drew (S := (fun w' : World => w'.cell? ⟨M, 1, none⟩ = some (.slice va q.length vc) ∧ w'.cell? ⟨M2, 1, none⟩ = some (.slice vb q2.length vd))) (by kernel_rfl) hSd (fun hHeld => ?_)
          refine anyH_take (i := 0) (v := ?_) (some 59) rfl rfl (by kernel_rfl) (fun _ _ _ h => h) (Or.inl ⟨by rfl, ?_⟩) (by assumption) ?_
          rotate_left
          · (intro w hSw; go_simp; all_goals with_reducible rfl)
          try simp only [Act.put, List.setIfInBounds_toArray, List.set_cons_zero, List.set_cons_succ]
          refine anyH_take (i := 3) (v := ?_) (some 62) rfl rfl (by kernel_rfl) (fun _ _ _ h => h) (Or.inl ⟨by rfl, ?_⟩) (by assumption) ?_
          rotate_left
          · (intro w hSw; go_simp; all_goals with_reducible rfl)
          try simp only [Act.put, List.setIfInBounds_toArray, List.set_cons_zero, List.set_cons_succ]
          refine anyH_take (i := 4) (v := ?_) (some 63) rfl rfl (by kernel_rfl) (fun _ _ _ h => h) (Or.inl ⟨by rfl, ?_⟩) (by assumption) ?_
          rotate_left
          · (intro w hSw; go_simp; all_goals with_reducible rfl)
          try simp only [Act.put, List.setIfInBounds_toArray, List.set_cons_zero, List.set_cons_succ]
          refine anyH_take (i := 5) (v := ?_) (some 64) rfl rfl (by kernel_rfl) (fun _ _ _ h => h) (Or.inl ⟨by rfl, ?_⟩) (by assumption) ?_
          rotate_left
          · (intro w hSw; go_simp; all_goals with_reducible rfl)
          try simp only [Act.put, List.setIfInBounds_toArray, List.set_cons_zero, List.set_cons_succ]
          refine anyH_take (i := 6) (v := ?_) (some 65) rfl rfl (by kernel_rfl) (fun _ _ _ h => h) (Or.inl ⟨by rfl, ?_⟩) (by assumption) ?_
          rotate_left
          · (intro w hSw; go_simp; all_goals with_reducible rfl)
          try simp only [Act.put, List.setIfInBounds_toArray, List.set_cons_zero, List.set_cons_succ]
          refine anyH_one (i := 1) (by kernel_rfl) rfl (fun K hK => ?_)
          go_simp
          go_at_call 15
          (with_reducible refine (all_any (w := wr.drew) (T := T) pd.a).mono ?_)
          rintro e w3 ⟨G3, rfl, hG3, ho3, b3⟩
          have hrv3 := ho3.rv
          have hm3 := hm.below b3
          have p3 := pd2.below b3
          have hn3 := hm2.below b3
          refine hK.out _ _ ⟨cell_on b3 hHeld.1, cell_on b3 hHeld.2⟩ (fun hHeld => ?_)
          clear hK K
          try simp only [Act.put, List.setIfInBounds_toArray, List.set_cons_zero, List.set_cons_succ]
          refine anyH_one (i := 2) (by kernel_rfl) rfl (fun K hK => ?_)
          go_simp
          go_at_call 14
          (with_reducible refine (plain_any (xc := q.length) hrv3 hq1).mono ?_)
          rintro e w4 ⟨a4, c4, rfl, hrv4, b4⟩
          have hm4 := hm3.below b4
          have p4 := p3.below b4
          have hn4 := hn3.below b4
          refine hK.out _ _ ⟨cell_on b4 hHeld.1, cell_on b4 hHeld.2⟩ (fun hHeld => ?_)
          clear hK K
          try simp only [Act.put, List.setIfInBounds_toArray, List.set_cons_zero, List.set_cons_succ]
          refine anyH_one (i := 7) (by kernel_rfl) rfl (fun K hK => ?_)
          go_simp
          go_at_call 13
          (with_reducible refine (same_eq (xc := c4) (yc := vc) hrv4 hm4 hq1).mono ?_)
          rintro e w5 ⟨rfl, b5⟩
          have p5 := p4.below b5
          have hn5 := hn4.below b5
          refine hK.out _ _ ⟨cell_on b5 hHeld.1, cell_on b5 hHeld.2⟩ (fun hHeld => ?_)
          clear hK K
          try simp only [Act.put, List.setIfInBounds_toArray, List.set_cons_zero, List.set_cons_succ]
          refine anyH_take (i := 8) (v := ?_) (some 67) rfl rfl (by kernel_rfl) (fun _ _ _ h => h) (Or.inl ⟨by rfl, ?_⟩) (by assumption) ?_
          rotate_left
          · (intro w hSw; go_simp; all_goals with_reducible rfl)
          try simp only [Act.put, List.setIfInBounds_toArray, List.set_cons_zero, List.set_cons_succ]
          refine anyH_take (i := 9) (v := ?_) (some 68) rfl rfl (by kernel_rfl) (fun _ _ _ h => h) (Or.inl ⟨by rfl, ?_⟩) (by assumption) ?_
          rotate_left
          · (intro w hSw; go_simp; all_goals with_reducible rfl)
          try simp only [Act.put, List.setIfInBounds_toArray, List.set_cons_zero, List.set_cons_succ]
          refine anyH_take (i := 12) (v := ?_) (some 71) rfl rfl (by kernel_rfl) (fun _ _ _ h => h) (Or.inl ⟨by rfl, ?_⟩) (by assumption) ?_
          rotate_left
          · (intro w hSw; go_simp; all_goals with_reducible rfl)
          try simp only [Act.put, List.setIfInBounds_toArray, List.set_cons_zero, List.set_cons_succ]
          refine anyH_take (i := 13) (v := ?_) (some 72) rfl rfl (by kernel_rfl) (fun _ _ _ h => h) (Or.inl ⟨by rfl, ?_⟩) (by assumption) ?_
          rotate_left
          · (intro w hSw; go_simp; all_goals with_reducible rfl)
          try simp only [Act.put, List.setIfInBounds_toArray, List.set_cons_zero, List.set_cons_succ]
          refine anyH_take (i := 14) (v := ?_) (some 73) rfl rfl (by kernel_rfl) (fun _ _ _ h => h) (Or.inl ⟨by rfl, ?_⟩) (by assumption) ?_
          rotate_left
          · (intro w hSw; go_simp; all_goals with_reducible rfl)
          try simp only [Act.put, List.setIfInBounds_toArray, List.set_cons_zero, List.set_cons_succ]
          refine anyH_take (i := 15) (v := ?_) (some 74) rfl rfl (by kernel_rfl) (fun _ _ _ h => h) (Or.inl ⟨by rfl, ?_⟩) (by assumption) ?_
          rotate_left
          · (intro w hSw; go_simp; all_goals with_reducible rfl)
          try simp only [Act.put, List.setIfInBounds_toArray, List.set_cons_zero, List.set_cons_succ]
          refine anyH_one (i := 10) (by kernel_rfl) rfl (fun K hK => ?_)
          go_simp
          go_at_call 15
          (with_reducible refine (all_any (w := w5) (T := T2) p5.a).mono ?_)
          rintro e w6 ⟨G6, rfl, hG6, ho6, b6⟩
          have hrv6 := ho6.rv
          have p6 := p5.below b6
          have hn6 := hn5.below b6
          refine hK.out _ _ ⟨cell_on b6 hHeld.1, cell_on b6 hHeld.2⟩ (fun hHeld => ?_)
          clear hK K
          try simp only [Act.put, List.setIfInBounds_toArray, List.set_cons_zero, List.set_cons_succ]
          refine anyH_one (i := 11) (by kernel_rfl) rfl (fun K hK => ?_)
          go_simp
          go_at_call 14
          (with_reducible refine (plain_any (xc := q2.length) hrv6 hq2).mono ?_)
          rintro e w7 ⟨a7, c7, rfl, hrv7, b7⟩
          have p7 := p6.below b7
          have hn7 := hn6.below b7
          refine hK.out _ _ ⟨cell_on b7 hHeld.1, cell_on b7 hHeld.2⟩ (fun hHeld => ?_)
          clear hK K
          try simp only [Act.put, List.setIfInBounds_toArray, List.set_cons_zero, List.set_cons_succ]
          refine anyH_one (i := 16) (by kernel_rfl) rfl (fun K hK => ?_)
          go_simp
          go_at_call 13
          (with_reducible refine (same_eq (xc := c7) (yc := vd) hrv7 hn7 hq2).mono ?_)
          rintro e w8 ⟨rfl, b8⟩
          have p8 := p7.below b8
          refine hK.out _ _ ⟨cell_on b8 hHeld.1, cell_on b8 hHeld.2⟩ (fun hHeld => ?_)
          clear hK K
          try simp only [Act.put, List.setIfInBounds_toArray, List.set_cons_zero, List.set_cons_succ]
          refine anyH_take (i := 17) (v := ?_) (some 76) rfl rfl (by kernel_rfl) (fun _ _ _ h => h) (Or.inl ⟨by rfl, ?_⟩) (by assumption) ?_
          rotate_left
          · (intro w hSw; go_simp; all_goals with_reducible rfl)
          try simp only [Act.put, List.setIfInBounds_toArray, List.set_cons_zero, List.set_cons_succ]
          refine anyH_take (i := 18) (v := ?_) (some 77) rfl rfl (by kernel_rfl) (fun _ _ _ h => h) (Or.inl ⟨by rfl, ?_⟩) (by assumption) ?_
          rotate_left
          · (intro w hSw; go_simp; all_goals with_reducible rfl)
          try simp only [Act.put, List.setIfInBounds_toArray, List.set_cons_zero, List.set_cons_succ]
          refine anyH_one (i := 19) (by kernel_rfl) rfl (fun K hK => ?_)
          go_simp
          go_at_call 7
          refine (lives_any _).mono ?_
          rintro e w9 ⟨rfl, b9⟩
          have p9 := p8.below b9
          refine hK.out _ _ ⟨cell_on b9 hHeld.1, cell_on b9 hHeld.2⟩ (fun hHeld => ?_)
          clear hK K
          try simp only [Act.put, List.setIfInBounds_toArray, List.set_cons_zero, List.set_cons_succ]
          refine anyH_take (i := 20) (v := ?_) (some 79) rfl rfl (by kernel_rfl) (fun _ _ _ h => h) (Or.inl ⟨by rfl, ?_⟩) (by assumption) ?_
          rotate_left
          · (intro w hSw; go_simp; all_goals with_reducible rfl)
          try simp only [Act.put, List.setIfInBounds_toArray, List.set_cons_zero, List.set_cons_succ]
          refine anyH_take (i := 21) (v := ?_) (some 4) rfl rfl (by kernel_rfl) (fun _ _ _ h => h) (Or.inl ⟨by rfl, ?_⟩) (by assumption) ?_
          rotate_left
          · (intro w hSw; go_simp; all_goals with_reducible rfl)
          try simp only [Act.put, List.setIfInBounds_toArray, List.set_cons_zero, List.set_cons_succ]
          refine wpAnyH_done (by kernel_rfl) ?_ _
          go_wp2_with fail
          go_ret
          exact ⟨rfl, p9.s.below⟩
end Go.Proofs.Ytdhgffnlocgfkaa
