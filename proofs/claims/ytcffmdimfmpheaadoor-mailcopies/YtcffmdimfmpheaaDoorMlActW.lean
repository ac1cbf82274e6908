/- The walk of MailActs. -/
import Derived.Test.YtcffmdimfmpheaaDoorMlAct
import Derived.Test.YtcffmdimfmpheaaDoorMlLiv
import Derived.Test.YtcffmdimfmpheaaDoorMlLit
import Derived.Test.YtcffmdimfmpheaaDoorMlCnt
import Derived.Test.YtcffmdimfmpheaaDoorMlFnd
namespace Go.Proofs.YtcffmdimfmpheaaDoor
open Go Go.RowKit
set_option linter.unusedSimpArgs false

theorem Pr.new {W0 w1 w2 : World} {B M N : Nat} {T R : List Nat} {xs xs' : List Ev} (h1 : BQ w1 B T N xs) (s1 : Step [] W0 T w1) (h2 : RQ w2 M R N xs') (s2 : Step [] w1 R w2) : Pr W0 w2 B T M R N xs xs' := by
  refine ⟨h1.keep s2.but, h2, fun x hx hy => ?_, s1.but.trans s2.but, fun x hx => .inr ?_⟩
  · have := h1.lt x hx
    rcases s2.new x hy with e | e
    · cases e
    · omega
  · rcases List.mem_append.1 hx with hx | hx
    · rcases s1.new x hx with e | e
      · cases e
      · exact e
    · rcases s2.new x hx with e | e
      · cases e
      · exact Nat.le_trans s1.but.size e
/-- What the reference's box tells. -/
theorem RQ.told {w : World} {M N : Nat} {R : List Nat} {xs : List Ev} (h : RQ w M R N xs) : ∃ a c, w.cell? ⟨M, 1, none⟩ = some (.slice a xs.length c) ∧ EV w a xs := by
  obtain ⟨v, rfl, hm⟩ := h
  obtain ⟨a, c, rfl, hr, -⟩ := hm.shape
  exact ⟨a, c, hm.c1, hr⟩
theorem eqE_self (x : Ev) : eqE x x = true := by unfold eqE; exact decide_eq_true rfl
set_option maxHeartbeats 4000000 in
set_option maxRecDepth 100000 in
theorem acts_end {w W : World} {B M N : Nat} {T R : List Nat} {q : List Ev} (hT : Tab w) (hP : Pr w W B T M R N q q) (at_ : Int) : ∃ (x : Ev) (y : Bool), Hid (∀ w', Below W.heap.size W w' → Calls Tryd.prog 17 #[.pointer (some ⟨B, 0, none⟩), .int .i64 at_] w' fun e w2 => e = .returned (.tuple #[.agg (evA x), .bool y]) ∧ Below w'.heap.size w' w2) ∧ Hid (∀ w', Below W.heap.size W w' → Calls Tryd.prog 18 #[.pointer (some ⟨M, 0, none⟩), .int .i64 at_] w' fun e w2 => e = .returned (.tuple #[.agg (evA x), .bool y]) ∧ Below w'.heap.size w' w2) ∧ Hid (∀ w', Below W.heap.size W w' → Calls Tryd.prog 8 #[] w' fun r w2 => r = .returned (.bool true) ∧ Below w'.heap.size w' w2) :=
  ⟨fndV q at_, fndB q at_, fun w' hb => find_any (hP.a.below hb) at_, fun w' hb => rfind_any (hP.r.below hb) (by have := hP.a.len; omega) at_, fun w' hb => lives_any ((hP.tab hT).on hb)⟩

set_option maxRecDepth 100000 in
set_option maxHeartbeats 8000000 in
theorem acts_any (n0 : Int) (at_ : Int) (sa : Option Addr) (ca : Nat) (xs : List Ac) (w : World) (ha : Acts w sa xs) (hT : Tab w) :
    Calls Tryd.prog 3 #[.int .i64 n0, .slice sa xs.length ca, .int .i64 at_] w fun e w' => e = .returned (.bool true) ∧ Below w.heap.size w w' := by
  have LI := light_any ca ha
  have HL : ∀ W, Below w.heap.size w W → Calls Tryd.prog 8 #[] W fun r w' => r = .returned (.bool true) ∧ Below W.heap.size W w' := fun W h => lives_any (hT.on h)
  go_enter Tryd.func3, Tryd.ntmps3
  go_upto_if 17 with (go_at_call 7; (with_reducible refine LI.mono ?_); rintro e w0 ⟨bl, rfl, h80, b0⟩)
  clear LI
  cases bl with
  | false =>
    clear h80
    go_wp2_with (go_at_call 8; (with_reducible refine (HL _ b0).mono ?_); rintro e w2 ⟨rfl, b2⟩)
    go_ret
    exact ⟨rfl, below2 b0 b0.size b2⟩
  | true =>
    have hlen : xs.length ≤ 80 := h80 rfl
    clear h80
    cases hin : inN n0 with
    | false =>
      go_wp2_with (first
        | (go_at_call 9; refine (new_none n0 hin _).mono ?_; rintro e w' ⟨rfl, hw⟩; subst w')
        | (go_at_call 10; refine (rnew_none n0 hin _).mono ?_; rintro e w' ⟨rfl, hw⟩; subst w')
        | (go_at_call 8; (with_reducible refine (HL _ b0).mono ?_); rintro e w2 ⟨rfl, b2⟩))
      go_ret
      exact ⟨rfl, below2 b0 b0.size b2⟩
    | true =>
      have hin2 : 1 ≤ n0 ∧ n0 ≤ 1024 := by unfold inN at hin; simpa using hin
      obtain ⟨N, rfl⟩ : ∃ N : Nat, n0 = N := ⟨n0.toNat, by omega⟩
      have e1 : 1 ≤ N := by omega
      have e2 : N ≤ 1024 := by omega
      clear hin hin2
      go_wp2_with (first
        | (go_at_call 9; refine (new_some N e1 e2 _).mono ?_; rintro e w1 ⟨B, T1, rfl, h1, s1⟩)
        | (go_at_call 10; refine (rnew_some N e1 e2 _).mono ?_; rintro e w2 ⟨M, R1, rfl, h2, s2⟩; have hP0 := Pr.new h1 s1 h2 s2))
      have hP : Pr w w2 B T1 M R1 N [] [] := ⟨hP0.a, hP0.r, hP0.d, ⟨(But.of_below b0).trans hP0.s.but, fun x hx => .inr ((hP0.s.new x hx).elim (fun e => by cases e) (fun l => Nat.le_trans b0.size l))⟩⟩
      clear h1 s1 h2 s2 hP0 b0 HL
      obtain ⟨n, hN⟩ : ∃ n, Hid (xs.length = n) := ⟨_, rfl⟩
      rw [hN.out] at hlen ⊢
      go_loopw [33, 10] (fun v _ wr => ∃ (j : Nat) (T R : List Nat) (q : List Ev), j ≤ n ∧ v = .int .i64 j ∧ Pr w wr B T M R N q q) (fun v _ _ => 80 - (intOf v).toNat)
      case atStart => exact ⟨0, T1, R1, [], Nat.zero_le _, rfl, hP⟩
      case round =>
        clear hP
        obtain ⟨j, T, R, q, hj, rfl, hP⟩ := hrel
        by_cases hlt : j < n
        · have hjx : j < xs.length := by rw [hN.out]; exact hlt
          obtain ⟨b, o, rfl, la, lc, hr, hel, hlc, hlm⟩ := ha j hjx
          have hrw := range_below hr hP.s.below
          have hlt' : (j : Int) < (n : Int) := by omega
          have hout := hP.out (A := wr.heap.size) (Nat.le_refl _)
          generalize ac xs j = t at *
          clear hr
          go_upto_region 10 with fail
          refine wp_region_lit ?_
          iterate 3 go_step
          refine wpList_load_mid rfl 36 (.tmp 35) rfl b (o + j * 18) rfl (c18 t la lc) _ hrw Tryd.underlying36 rfl size18 ?_
          iterate 3 go_step
          refine wpList_store_mid rfl 36 (.tmp 10) (.tmp 36) rfl wr.heap.size 0 (c18 t la lc).toArray rfl rfl (th18 wr) size18 (c18_one _ _ _) ?_
          rw [show (c18 t la lc).toArray.toList = c18 t la lc from rfl]
          have hA1 := World.rangeAt_setCells_same (wr.alloc (.cells #[.int .i64 0, .int .i64 0, .int .i64 0, .int .i64 0, .int .i64 0, .int .i64 0, .int .i64 0, .int .i64 0, .int .i64 0, .int .i64 0, .int .i64 0, .int .i64 0, .int .i64 0, .int .i64 0, .int .i64 0, .int .i64 0, .int .i64 0, .slice none 0 0] 36)) wr.heap.size 0 (c18 t la lc) (th18 wr)
          have bA := new18 wr t la lc
          have hsz := size18_new wr t la lc
          have HSZ := Hid.mk hsz
          generalize (wr.alloc (.cells #[.int .i64 0, .int .i64 0, .int .i64 0, .int .i64 0, .int .i64 0, .int .i64 0, .int .i64 0, .int .i64 0, .int .i64 0, .int .i64 0, .int .i64 0, .int .i64 0, .int .i64 0, .int .i64 0, .int .i64 0, .int .i64 0, .int .i64 0, .slice none 0 0] 36)).setCells wr.heap.size 0 (c18 t la lc) = W1 at *
          clear hsz
          have hP1 := hP.below bA
          go_upto_region 11 with fail
          have hP1d := hP1.keep (But.refl [] W1).drew
          have hA1d : W1.drew.rangeAt wr.heap.size 0 (c18 t la lc) := hA1
          have AC := act_any hP1d hT t la lc hel (by omega)
          have hal := act_len hP.a.len.1 t
          have hN2 := hP.a.len.2
          generalize actX N q t = x2 at *
          have hx4 : x2.length ≤ 4096 := by omega
          have hx5 : x2.length ≤ 50000 := by omega
          have LE : ∀ W T, BQ W B T N x2 → _ := fun W T h => len_any (w := W) (T := T) h
          have AL : ∀ W T, BQ W B T N x2 → _ := fun W T h => all_any (w := W) (T := T) h
          have CO : ∀ W T, BQ W B T N x2 → _ := fun W T h => count_any (w := W) (T := T) h t.e.kd
          have RC : ∀ W R, RQ W M R N x2 → _ := fun W R h => h.told (w := W) (R := R)
          have RO : ∀ W R, RQ W M R N x2 → _ := fun W R h => rcount_any (w := W) (R := R) h hx4 t.e.kd
          clear hA1 hP1 hP bA hrw
          refine wp_region_held_drew (S := (fun w' : World => w'.rangeAt wr.heap.size 0 (c18 t la lc))) (by kernel_rfl) hA1d (fun hHeld => ?_)
          refine anyH_take (i := 0) (v := ?_) (some 37) rfl rfl (by kernel_rfl) (fun _ _ _ h => h) (Or.inl ⟨by rfl, ?_⟩) (by assumption) ?_
          rotate_left
          · (intro w hSw; go_simp; all_goals with_reducible rfl)
          try simp only [Act.put, List.setIfInBounds_toArray, List.set_cons_zero, List.set_cons_succ]
          refine anyH_take (i := 1) (v := ?_) (some 38) rfl rfl (by kernel_rfl) (fun _ _ _ h => h) (Or.inl ⟨by rfl, ?_⟩) (by assumption) ?_
          rotate_left
          · (intro w hSw; go_simp; all_goals with_reducible rfl)
          try simp only [Act.put, List.setIfInBounds_toArray, List.set_cons_zero, List.set_cons_succ]
          refine anyH_take (i := 2) (v := .agg (acA t la lc)) (some 39) rfl rfl (by kernel_rfl) (fun _ _ _ h => h) (yieldsIf_load_mid (by rfl) 36 (.tmp 10) rfl wr.heap.size 0 rfl (c18 t la lc) _ (fun w1 hw1 => hw1) Tryd.underlying36 rfl size18) (by assumption) ?_
          try simp only [Act.put, List.setIfInBounds_toArray, List.set_cons_zero, List.set_cons_succ]
          refine anyH_one (i := 3) (by kernel_rfl) rfl (fun K hK => ?_)
          go_simp
          go_at_call 11
          (with_reducible refine AC.mono ?_)
          rintro e w2 ⟨rfl, T2, R2, p2, s2⟩
          have hA2 : w2.rangeAt wr.heap.size 0 (c18 t la lc) := range_but hA1d s2.but hout
          obtain ⟨va, vc, hc1, hrv⟩ := RC _ _ p2.r
          refine hK.out _ _ hA2 (fun hHeld => ?_)
          clear hK K
          try simp only [Act.put, List.setIfInBounds_toArray, List.set_cons_zero, List.set_cons_succ]
          refine anyH_mono (S2 := (fun w' : World => w'.rangeAt wr.heap.size 0 (c18 t la lc) ∧ w'.cell? ⟨M, 1, none⟩ = some (.slice va x2.length vc))) (fun _ h => h.1) ?_
          replace hHeld : (fun w' : World => w'.rangeAt wr.heap.size 0 (c18 t la lc) ∧ w'.cell? ⟨M, 1, none⟩ = some (.slice va x2.length vc)) _ := ⟨hHeld, hc1⟩
          refine anyH_take (i := 4) (v := ?_) (some 41) rfl rfl (by kernel_rfl) (fun _ _ _ h => h) (Or.inl ⟨by rfl, ?_⟩) (by assumption) ?_
          rotate_left
          · (intro w hSw; go_simp; all_goals with_reducible rfl)
          try simp only [Act.put, List.setIfInBounds_toArray, List.set_cons_zero, List.set_cons_succ]
          refine anyH_take (i := 5) (v := ?_) (some 42) rfl rfl (by kernel_rfl) (fun _ _ _ h => h) (Or.inl ⟨by rfl, ?_⟩) (by assumption) ?_
          rotate_left
          · (intro w hSw; go_simp; all_goals with_reducible rfl)
          try simp only [Act.put, List.setIfInBounds_toArray, List.set_cons_zero, List.set_cons_succ]
          refine anyH_take (i := 6) (v := ?_) (some 43) rfl rfl (by kernel_rfl) (fun _ _ _ h => h) (Or.inl ⟨by rfl, ?_⟩) (by assumption) ?_
          rotate_left
          · (intro w hSw; go_simp; all_goals with_reducible rfl)
          try simp only [Act.put, List.setIfInBounds_toArray, List.set_cons_zero, List.set_cons_succ]
          refine anyH_take (i := 8) (v := ?_) (some 45) rfl rfl (by kernel_rfl) (fun _ _ _ h => h) (Or.inl ⟨by rfl, ?_⟩) (by assumption) ?_
          rotate_left
          · (intro w hSw; go_simp; all_goals with_reducible rfl)
          try simp only [Act.put, List.setIfInBounds_toArray, List.set_cons_zero, List.set_cons_succ]
          refine anyH_take (i := 9) (v := ?_) (some 46) rfl rfl (by kernel_rfl) (fun _ _ _ h => h) (Or.inl ⟨by rfl, ?_⟩) (by assumption) ?_
          rotate_left
          · (intro w hSw; go_simp; all_goals with_reducible rfl)
          try simp only [Act.put, List.setIfInBounds_toArray, List.set_cons_zero, List.set_cons_succ]
          refine anyH_take (i := 10) (v := ?_) (some 47) rfl rfl (by kernel_rfl) (fun _ _ _ h => h) (Or.inl ⟨by rfl, ?_⟩) (by assumption) ?_
          rotate_left
          · (intro w hSw; go_simp; all_goals with_reducible rfl)
          try simp only [Act.put, List.setIfInBounds_toArray, List.set_cons_zero, List.set_cons_succ]
          refine anyH_take (i := 11) (v := ?_) (some 48) rfl rfl (by kernel_rfl) (fun _ _ _ h => h) (Or.inl ⟨by rfl, ?_⟩) (by assumption) ?_
          rotate_left
          · (intro w hSw; obtain ⟨-, z0⟩ := hSw; go_simp; all_goals with_reducible rfl)
          try simp only [Act.put, List.setIfInBounds_toArray, List.set_cons_zero, List.set_cons_succ]
          refine anyH_take (i := 12) (v := ?_) (some 49) rfl rfl (by kernel_rfl) (fun _ _ _ h => h) (Or.inl ⟨by rfl, ?_⟩) (by assumption) ?_
          rotate_left
          · (intro w hSw; go_simp; all_goals with_reducible rfl)
          try simp only [Act.put, List.setIfInBounds_toArray, List.set_cons_zero, List.set_cons_succ]
          refine anyH_one (i := 7) (by kernel_rfl) rfl (fun K hK => ?_)
          go_simp
          go_at_call 12
          (with_reducible refine (LE _ _ p2.a).mono ?_)
          rintro e w' ⟨rfl, hw⟩
          subst w'
          refine hK.out _ _ hHeld (fun hHeld => ?_)
          clear hK K
          try simp only [Act.put, List.setIfInBounds_toArray, List.set_cons_zero, List.set_cons_succ]
          refine anyH_take (i := 13) (v := ?_) (some 50) rfl rfl (by kernel_rfl) (fun _ _ _ h => h) (Or.inl ⟨by rfl, ?_⟩) (by assumption) ?_
          rotate_left
          · (intro w hSw; go_simp; all_goals with_reducible rfl)
          try simp only [Act.put, List.setIfInBounds_toArray, List.set_cons_zero, List.set_cons_succ]
          refine anyH_take (i := 14) (v := ?_) (some 51) rfl rfl (by kernel_rfl) (fun _ _ _ h => h) (Or.inl ⟨by rfl, ?_⟩) (by assumption) ?_
          rotate_left
          · (intro w hSw; go_simp; all_goals with_reducible rfl)
          try simp only [Act.put, List.setIfInBounds_toArray, List.set_cons_zero, List.set_cons_succ]
          refine anyH_take (i := 15) (v := ?_) (some 52) rfl rfl (by kernel_rfl) (fun _ _ _ h => h) (Or.inl ⟨by rfl, ?_⟩) (by assumption) ?_
          rotate_left
          · (intro w hSw; go_simp; all_goals with_reducible rfl)
          try simp only [Act.put, List.setIfInBounds_toArray, List.set_cons_zero, List.set_cons_succ]
          refine anyH_take (i := 16) (v := ?_) (some 53) rfl rfl (by kernel_rfl) (fun _ _ _ h => h) (Or.inl ⟨by rfl, ?_⟩) (by assumption) ?_
          rotate_left
          · (intro w hSw; go_simp; all_goals with_reducible rfl)
          try simp only [Act.put, List.setIfInBounds_toArray, List.set_cons_zero, List.set_cons_succ]
          refine anyH_take (i := 18) (v := ?_) (some 55) rfl rfl (by kernel_rfl) (fun _ _ _ h => h) (Or.inl ⟨by rfl, ?_⟩) (by assumption) ?_
          rotate_left
          · (intro w hSw; go_simp; all_goals with_reducible rfl)
          try simp only [Act.put, List.setIfInBounds_toArray, List.set_cons_zero, List.set_cons_succ]
          refine anyH_take (i := 19) (v := ?_) (some 56) rfl rfl (by kernel_rfl) (fun _ _ _ h => h) (Or.inl ⟨by rfl, ?_⟩) (by assumption) ?_
          rotate_left
          · (intro w hSw; go_simp; all_goals with_reducible rfl)
          try simp only [Act.put, List.setIfInBounds_toArray, List.set_cons_zero, List.set_cons_succ]
          refine anyH_take (i := 20) (v := ?_) (some 57) rfl rfl (by kernel_rfl) (fun _ _ _ h => h) (Or.inl ⟨by rfl, ?_⟩) (by assumption) ?_
          rotate_left
          · (intro w hSw; go_simp; all_goals with_reducible rfl)
          try simp only [Act.put, List.setIfInBounds_toArray, List.set_cons_zero, List.set_cons_succ]
          refine anyH_take (i := 21) (v := ?_) (some 58) rfl rfl (by kernel_rfl) (fun _ _ _ h => h) (Or.inl ⟨by rfl, ?_⟩) (by assumption) ?_
          rotate_left
          · (intro w hSw; obtain ⟨-, z0⟩ := hSw; go_simp; all_goals with_reducible rfl)
          try simp only [Act.put, List.setIfInBounds_toArray, List.set_cons_zero, List.set_cons_succ]
          refine anyH_one (i := 17) (by kernel_rfl) rfl (fun K hK => ?_)
          go_simp
          go_at_call 14
          (with_reducible refine (AL _ _ p2.a).mono ?_)
          rintro e w3 ⟨v3, rfl, ho3, b3⟩
          have p3 := p2.below b3
          obtain ⟨a3, c3, rfl⟩ := ho3.at_ rfl
          have hm3 := hrv.below b3
          refine hK.out _ _ ⟨range_below hHeld.1 b3, cell_on b3 hHeld.2⟩ (fun hHeld => ?_)
          clear hK K
          try simp only [Act.put, List.setIfInBounds_toArray, List.set_cons_zero, List.set_cons_succ]
          refine anyH_one (i := 22) (by kernel_rfl) rfl (fun K hK => ?_)
          go_simp
          go_at_call 13
          refine (same_eq rfl ho3.ev_.2.2 hm3 hx5).mono ?_
          rintro e w5 ⟨rfl, b5⟩
          have p5 := p3.below b5
          refine hK.out _ _ ⟨range_below hHeld.1 b5, cell_on b5 hHeld.2⟩ (fun hHeld => ?_)
          clear hK K
          try simp only [Act.put, List.setIfInBounds_toArray, List.set_cons_zero, List.set_cons_succ]
          refine anyH_take (i := 23) (v := ?_) (some 60) rfl rfl (by kernel_rfl) (fun _ _ _ h => h) (Or.inl ⟨by rfl, ?_⟩) (by assumption) ?_
          rotate_left
          · (intro w hSw; go_simp; all_goals with_reducible rfl)
          try simp only [Act.put, List.setIfInBounds_toArray, List.set_cons_zero, List.set_cons_succ]
          refine anyH_take (i := 24) (v := ?_) (some 61) rfl rfl (by kernel_rfl) (fun _ _ _ h => h) (Or.inl ⟨by rfl, ?_⟩) (by assumption) ?_
          rotate_left
          · (intro w hSw; go_simp; all_goals with_reducible rfl)
          try simp only [Act.put, List.setIfInBounds_toArray, List.set_cons_zero, List.set_cons_succ]
          refine anyH_take (i := 25) (v := ?_) (some 62) rfl rfl (by kernel_rfl) (fun _ _ _ h => h) (Or.inl ⟨by rfl, ?_⟩) (by assumption) ?_
          rotate_left
          · (intro w hSw; go_simp; all_goals with_reducible rfl)
          try simp only [Act.put, List.setIfInBounds_toArray, List.set_cons_zero, List.set_cons_succ]
          refine anyH_take (i := 26) (v := ?_) (some 63) rfl rfl (by kernel_rfl) (fun _ _ _ h => h) (Or.inl ⟨by rfl, ?_⟩) (by assumption) ?_
          rotate_left
          · (intro w hSw; go_simp; all_goals with_reducible rfl)
          try simp only [Act.put, List.setIfInBounds_toArray, List.set_cons_zero, List.set_cons_succ]
          refine anyH_take (i := 27) (v := ?_) (some 64) rfl rfl (by kernel_rfl) (fun _ _ _ h => h) (Or.inl ⟨by rfl, ?_⟩) (by assumption) ?_
          rotate_left
          · (intro w hSw; go_simp; all_goals with_reducible rfl)
          try simp only [Act.put, List.setIfInBounds_toArray, List.set_cons_zero, List.set_cons_succ]
          refine anyH_take (i := 28) (v := ?_) (some 65) rfl rfl (by kernel_rfl) (fun _ _ _ h => h) (Or.inl ⟨by rfl, ?_⟩) (by assumption) ?_
          rotate_left
          · (intro w hSw; go_simp; all_goals with_reducible rfl)
          try simp only [Act.put, List.setIfInBounds_toArray, List.set_cons_zero, List.set_cons_succ]
          refine anyH_take (i := 29) (v := ?_) (some 66) rfl rfl (by kernel_rfl) (fun _ _ _ h => h) (Or.inl ⟨by rfl, ?_⟩) (by assumption) ?_
          rotate_left
          · (intro w hSw; obtain ⟨z0, -⟩ := hSw; have z1 := (range18 z0).2.2.1 0 _ rfl; simp only [Nat.zero_add, Nat.add_zero] at z1; go_simp; all_goals with_reducible rfl)
          try simp only [Act.put, List.setIfInBounds_toArray, List.set_cons_zero, List.set_cons_succ]
          refine anyH_take (i := 31) (v := ?_) (some 68) rfl rfl (by kernel_rfl) (fun _ _ _ h => h) (Or.inl ⟨by rfl, ?_⟩) (by assumption) ?_
          rotate_left
          · (intro w hSw; go_simp; all_goals with_reducible rfl)
          try simp only [Act.put, List.setIfInBounds_toArray, List.set_cons_zero, List.set_cons_succ]
          refine anyH_take (i := 32) (v := ?_) (some 69) rfl rfl (by kernel_rfl) (fun _ _ _ h => h) (Or.inl ⟨by rfl, ?_⟩) (by assumption) ?_
          rotate_left
          · (intro w hSw; go_simp; all_goals with_reducible rfl)
          try simp only [Act.put, List.setIfInBounds_toArray, List.set_cons_zero, List.set_cons_succ]
          refine anyH_take (i := 33) (v := ?_) (some 70) rfl rfl (by kernel_rfl) (fun _ _ _ h => h) (Or.inl ⟨by rfl, ?_⟩) (by assumption) ?_
          rotate_left
          · (intro w hSw; go_simp; all_goals with_reducible rfl)
          try simp only [Act.put, List.setIfInBounds_toArray, List.set_cons_zero, List.set_cons_succ]
          refine anyH_take (i := 34) (v := ?_) (some 71) rfl rfl (by kernel_rfl) (fun _ _ _ h => h) (Or.inl ⟨by rfl, ?_⟩) (by assumption) ?_
          rotate_left
          · (intro w hSw; obtain ⟨z0, -⟩ := hSw; have z1 := (range18 z0).2.2.1 0 _ rfl; simp only [Nat.zero_add, Nat.add_zero] at z1; go_simp; all_goals with_reducible rfl)
          try simp only [Act.put, List.setIfInBounds_toArray, List.set_cons_zero, List.set_cons_succ]
          refine anyH_one (i := 30) (by kernel_rfl) rfl (fun K hK => ?_)
          go_simp
          go_at_call 15
          (with_reducible refine (CO _ _ p5.a).mono ?_)
          rintro e w6 ⟨rfl, b6⟩
          have p6 := p5.below b6
          refine hK.out _ _ ⟨range_below hHeld.1 b6, cell_on b6 hHeld.2⟩ (fun hHeld => ?_)
          clear hK K
          try simp only [Act.put, List.setIfInBounds_toArray, List.set_cons_zero, List.set_cons_succ]
          refine anyH_one (i := 35) (by kernel_rfl) rfl (fun K hK => ?_)
          go_simp
          go_at_call 16
          (with_reducible refine (RO _ _ p6.r).mono ?_)
          rintro e w7 ⟨rfl, b7⟩
          have p7 := p6.below b7
          refine hK.out _ _ ⟨range_below hHeld.1 b7, cell_on b7 hHeld.2⟩ (fun hHeld => ?_)
          clear hK K
          try simp only [Act.put, List.setIfInBounds_toArray, List.set_cons_zero, List.set_cons_succ]
          refine anyH_take (i := 36) (v := ?_) (some 73) rfl rfl (by kernel_rfl) (fun _ _ _ h => h) (Or.inl ⟨by rfl, ?_⟩) (by assumption) ?_
          rotate_left
          · (intro w hSw; go_simp; all_goals with_reducible rfl)
          try simp only [Act.put, List.setIfInBounds_toArray, List.set_cons_zero, List.set_cons_succ]
          refine anyH_take (i := 37) (v := ?_) (some 74) rfl rfl (by kernel_rfl) (fun _ _ _ h => h) (Or.inl ⟨by rfl, ?_⟩) (by assumption) ?_
          rotate_left
          · (intro w hSw; go_simp; all_goals with_reducible rfl)
          try simp only [Act.put, List.setIfInBounds_toArray, List.set_cons_zero, List.set_cons_succ]
          refine wpAnyH_done (by kernel_rfl) ?_ _
          go_wp2_with fail
          go_roundw
          case rel => exact ⟨j + 1, T2, R2, x2, by omega, by simp, p7⟩
          case measure =>
            simp [intOf]
            omega
        · obtain rfl : j = n := by omega
          obtain ⟨x, y, FA, RF, HL⟩ := acts_end hT hP at_
          have EQ := eqEv x x
          rw [eqE_self] at EQ
          have hbP := hP.s.below
          have hsP := hP.s.but.size
          have bz := Below.refl wr.heap.size wr
          have AX : ∀ W, Below wr.heap.size wr W → Below wr.heap.size wr (W.alloc (.cells (evA x) 33)) := fun W b => b.alloc b.size _
          have X1 : ∀ (W W2 : World), Below (W.alloc (.cells (evA x) 33)).heap.size (W.alloc (.cells (evA x) 33)) W2 → At15 (W2.alloc (.cells (evA x) 33)) W.heap.size 0 x := fun W W2 b => ((at15_new W x).below b).below ((Below.refl _ _).alloc (Nat.le_refl _) _)
          have X2 : ∀ W : World, At15 (W.alloc (.cells (evA x) 33)) W.heap.size 0 x := fun W => at15_new W x
          have F1 := FA.out _ bz
          have F2 : ∀ W, Below wr.heap.size wr W → _ := fun W b => RF.out _ (AX W b)
          have F3 : ∀ W, Below wr.heap.size wr W → _ := fun W b => HL.out _ (AX W b)
          unfold evA at *
          clear FA RF HL hP
          go_wp2_with (first
            | (go_at_call 17; (with_reducible refine F1.mono ?_); rintro e w3 ⟨rfl, b3⟩)
            | (go_at_call 18; (with_reducible refine (F2 _ b3).mono ?_); rintro e w4 ⟨rfl, b4⟩; have b5 := below2 (AX _ b3) (AX _ b3).size b4; obtain ⟨g0, g1, g2, g3, g4, g5, g6, g7, g8, g9, g10, g11, g12, g13, g14⟩ := (X1 _ _ b4).cells; obtain ⟨k0, k1, k2, k3, k4, k5, k6, k7, k8, k9, k10, k11, k12, k13, k14⟩ := (X2 w4).cells)
            | (go_at_call 8; (with_reducible refine (F3 _ b5).mono ?_); rintro e w6 ⟨rfl, b6⟩))
          all_goals
            go_ret
            exact ⟨by simp, below2 hbP hsP (below2 (AX _ b5) (AX _ b5).size b6)⟩
end Go.Proofs.YtcffmdimfmpheaaDoor
