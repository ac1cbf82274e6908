/- The walk of RingCopies. -/
import Derived.Test.YtfobfkidpdlkeaaActsWalk
import Derived.Test.YtfobfkidpdlkeaaCopyQ
namespace Go.Proofs.Ytfobfkidpdlkeaa
open Go.RowKit

/-- An append to an empty slice that has a block, but no room. -/
theorem run_cop {w : World} {K : Nat} {ty : TypeId} (hK : w.ownsRow K 3 1 (.slice (some ⟨K, 0, none⟩) 0 0) 0 (([] : List Int).map (Value.int .i64))) {sp : Option Addr} {m c : Nat} {news : List Int} (hl : news.length = m) (hr : Reads w sp c news) (hk : m ≤ 100000) :
    ∃ v' w', (Builtin.append_ #[32, 32] ty #[.slice (some ⟨K, 0, none⟩) 0 0, .slice sp m c]).run Try.prog w = .ok v' w' ∧ RowR w' w.heap.size v' news ∧ But [K] w w' := by
  obtain ⟨i0, hi, hz0, hz1, hz2⟩ := info_parts info3
  rcases hr with ⟨rfl, rfl, rfl⟩ | ⟨ad, rfl, hc⟩
  · obtain rfl : m = 0 := by simpa using hl.symm
    exact ⟨_, w, run_append_owned_none w K 32 ty 3 i0 1 Try.underlying32 hi _ 0 _ hK, .inr ⟨rfl, _, rfl⟩, But.refl _ _⟩
  · by_cases hm : m = 0
    · subst hm
      obtain rfl : news = [] := List.eq_nil_of_length_eq_zero hl
      obtain ⟨w', h1, _, h3⟩ := run_append_fits (P := Try.prog) w K 32 ty 3 i0 1 Try.underlying32 hi hz1 K 0 0 _ hK ad 0 c [] rfl (fun j u hu => by simp at hu) (by simp) (Nat.le_refl _)
      exact ⟨_, w', h1, .inr ⟨rfl, _, rfl⟩, ⟨h3.os, h3.tape, h3.output, h3.size, fun k hk hn => h3.block k hk (fun e => hn (by simpa using e))⟩⟩
    · obtain ⟨v', w', h1, h2, h3⟩ := run_append_arg_grows (P := Try.prog) w 32 ty 3 i0 (.int .i64 0) 1 8 Try.underlying32 hi hz0 hz1 hz2 rfl (by decide) ⟨K, 0, none⟩ 0 0 [] rfl (fun j u hu => by simp at hu) ad m c (news.map (Value.int .i64)) (by simpa using hl)
        (fun j u hu => by rw [List.getElem?_map] at hu; obtain ⟨x, hx, rfl⟩ := Option.map_eq_some_iff.1 hu; exact hc j x hx) (by omega) (by unfold maxLen; omega) (by omega)
      refine ⟨v', w', h1, .inl ?_, ⟨h3.os, h3.tape, h3.output, h3.size, fun k hk _ => h3.block k hk (by simp)⟩⟩
      unfold RowI
      rw [hl]
      simpa using h2

theorem step_cop {w : World} {ops : Array Oper} {o : Oper} {a : Act} {Kx : Act → World → Prop} {Q : Exit → Act → World → Prop} {E : Prop} (hg : o.guard = none) (s x : Operand) (hop : o.op = Op.call { callee := Callee.builtin Builtin.append, args := #[s, x], argTypes := #[32, 32] })
    (K : Nat) (hs : a.eval s = .slice (some ⟨K, 0, none⟩) 0 0) (hK : w.ownsRow K 3 1 (.slice (some ⟨K, 0, none⟩) 0 0) 0 (([] : List Int).map (Value.int .i64))) (sp : Option Addr) (m c : Nat) (news : List Int) (hx : a.eval x = .slice sp m c) (hl : news.length = m) (hr : Reads w sp c news)
    (hk : m ≤ 100000) (h : ∀ v' w', RowR w' w.heap.size v' news → But [K] w w' → Kx (a.put o.dst v') w') :
    if Region.wanted o (yielded ops a.tmps) = true then Oper.wp Try.prog o a w Kx Q else E := by
  have hw : Region.wanted o (yielded ops a.tmps) = true := by simp [Region.wanted, hg]
  rw [if_pos hw]
  obtain ⟨v', w', hrun, r1, r2⟩ := run_cop (ty := o.type) hK hl hr hk
  unfold Oper.wp
  simp [execOp, hop, resolve, invoke, builtin, hs, hx, hrun, Result.andThen]
  exact h v' w' r1 r2

theorem cell_alloc {W : World} {p : Addr} {v : Value} (h : W.cell? p = some v) (o : Obj) : (W.alloc o).cell? p = some v := cell_on ((Below.refl _ W).alloc (Nat.le_refl _) o) h
theorem cell_one {W W' : World} {K M : Nat} {v : Value} (b : But [K] W W') (h : W.cell? ⟨M, 1, none⟩ = some v) (hK : M ≠ K) : W'.cell? ⟨M, 1, none⟩ = some v :=
  (World.cell?_of_block (a := ⟨M, 1, none⟩) (b.block M (World.block_lt_of_cell? W ⟨M, 1, none⟩ h) (by simpa using hK))).trans h

theorem IntsR.below {w w' : World} {a : Option Addr} {xs : List Int} (h : IntsR w a xs) (hb : Below w.heap.size w w') : IntsR w' a xs := fun j x hx => by
  obtain ⟨g, e, hc⟩ := h j x hx
  exact ⟨g, e, cell_on hb hc⟩

/-- Both made anew: the copy, and the reference's. -/
theorem pair_made {wr W2 W3 W4 : World} {C H K lo2 : Nat} {q : List Int} {v : Value} (hr : RQ W2 C H 9 q) (hC : wr.heap.size ≤ C) (hKw : wr.heap.size ≤ K) (hKC : K ≠ C) (hKH : K ≠ H) (hB : Below wr.heap.size wr W2) (hlo : W2.heap.size = lo2) (b : But [K] W2 W3) (row : RowR W3 lo2 v q) (hq : q.length ≤ 9) (e4 : W4 = W3.alloc (.cells #[.int .i64 9, v] 34)) :
    Pair W4 C H lo2 W3.heap.size 9 q ∧ wr.heap.size ≤ W3.heap.size ∧ Below wr.heap.size wr W4 := by
  subst e4 hlo
  obtain ⟨t1, t2, _⟩ := hr.lt
  have s3 := b.size
  have s2 := hB.size
  have hr3 := hr.but b (by simpa using Ne.symm hKC) (by simpa using Ne.symm hKH)
  refine ⟨⟨hr3.below ((Below.refl _ _).alloc (Nat.le_refl _) _), ⟨v, heap_alloc_new W3 _, row.but (S := []) ((But.refl [] W3).alloc _) (by simp), hq, by omega⟩, ⟨t1, by omega⟩, ⟨t2, by omega⟩, by simp; omega⟩, by omega, ?_⟩
  exact (hB.trans (b.below s2 (by simpa using hKw))).alloc (by omega) _

set_option maxRecDepth 100000 in
set_option maxHeartbeats 4000000 in
theorem copies_any (a b : Option Addr) (ca cb : Nat) (acts more : List (Int × Int)) (w : World) (ha : Acts w a acts) (hb : Acts w b more) :
    Calls Try.prog 5 #[.slice a acts.length ca, .slice b more.length cb] w fun e w' => e = .returned (.bool true) ∧ Below w.heap.size w w' := by
  by_cases h1 : 200 < acts.length
  · have h1' : (200 : Int) < (acts.length : Int) := by omega
    go_enter Try.func5, Try.ntmps5
    go_wp2_with (first
      | (go_at_call 7; refine (lives_any _).mono ?_; rintro e w' ⟨rfl, hb⟩))
    go_ret
    exact ⟨rfl, hb⟩
  · have h1' : (acts.length : Int) ≤ 200 := by omega
    by_cases h2 : 200 < more.length
    · have h2' : (200 : Int) < (more.length : Int) := by omega
      go_enter Try.func5, Try.ntmps5
      go_wp2_with (first
        | (go_at_call 7; refine (lives_any _).mono ?_; rintro e w' ⟨rfl, hb⟩))
      go_ret
      exact ⟨rfl, hb⟩
    · have h2' : (more.length : Int) ≤ 200 := by omega
      go_enter Try.func5, Try.ntmps5
      go_wp2_with (first
        | (go_at_call 8; refine (new_some 9 (by decide) (by decide) _).mono ?_; rintro e w1 ⟨rfl, hr, hs, hB⟩; have hs' : Hid (w1.heap.size = w.heap.size + 2) := hs; clear hs)
        | (go_at_call 9; refine (rnew_some 9 (by decide) (by decide) _).mono ?_; rintro e w2 ⟨rfl, hm2, hB2⟩))
      have hs := hs'.out
      clear hs'
      have hL : Law w w2 (w.heap.size + 1) w.heap.size w1.heap.size w1.heap.size 9 [] := ⟨⟨hr.below hB2, hm2, ⟨by omega, by omega⟩, ⟨by omega, by omega⟩, hB2.size⟩, by omega, by omega, by omega, hB.trans (hB2.mono (by omega))⟩
      clear hr hs hB hm2 hB2
      generalize w1.heap.size = M at hL ⊢
      generalize w.heap.size + 1 = B at hL ⊢
      replace hL : ∃ G lo, Law w w2 B G lo M 9 [] := ⟨_, _, hL⟩
      obtain ⟨G, lo, hL⟩ := hL
      go_loopw [32] (fun v wr => ∃ (j : Nat) (q : List Int), j ≤ acts.length ∧ v = .int .i64 j ∧ Law w wr B G lo M 9 q) (fun v _ => 200 - (intOf v).toNat)
      case atStart => exact ⟨0, [], by omega, rfl, hL⟩
      case round =>
        clear hL
        obtain ⟨j, q, hj, rfl, hL⟩ := hrel
        by_cases hlt : j < acts.length
        · obtain ⟨b', o, rfl, hc0, hc1⟩ := (ha.below hL.k) j acts[j] (by simp)
          generalize acts[j] = act at hc0 hc1
          obtain ⟨k, x⟩ := act
          dsimp only at hc0 hc1
          have h3 : (j : Int) < (acts.length : Int) := by omega
          have hA := (Below.refl wr.heap.size wr).alloc (Nat.le_refl _) (.cells #[.int .i64 k, .int .i64 x] 29)
          have hP := hL.p.below hA
          have hL1 : Law w (wr.alloc (.cells #[.int .i64 k, .int .i64 x] 29)) B G lo M 9 q := hL.step hP ((But.refl _ _).alloc _)
          have AC := act_any hP k x
          go_wp2_with (first
            | (go_at_call 10; refine AC.mono ?_; rintro e w3 ⟨rfl, hp3, b3⟩; have L3 := hL1.step hp3 b3; clear hp3 b3))
          go_roundw
          case rel => exact ⟨j + 1, _, by omega, by simp, L3⟩
          case measure =>
            simp [intOf]
            omega
        · obtain rfl : j = acts.length := by omega
          clear ha hlt
          have hp := hL.p
          obtain ⟨l1, -, -⟩ := hp.r.le
          obtain ⟨tB, tG, tn⟩ := hp.r.lt
          have tM := hp.m.lt
          obtain ⟨mv, hm1, hm2, -, -⟩ := hp.m
          obtain ⟨ma, mc, rfl, -, -, -, -⟩ := hm2.shape
          have MR := hm2.reads
          have c1 : wr.cell? ⟨M, 1, none⟩ = some (.slice ma q.length mc) := by simp [World.cell?, hm1]
          clear hm1 hm2
          go_wp2_with fail
          go_cut [9, 10] from 41 to 50 (fun v9 v10 wx => ∃ C H N lo2, v9 = .pointer (some ⟨C, 0, none⟩) ∧ v10 = .pointer (some ⟨N, 0, none⟩) ∧ Pair wx C H lo2 N 9 q ∧ wr.heap.size ≤ C ∧ wr.heap.size ≤ H ∧ wr.heap.size ≤ N ∧ Below wr.heap.size wr wx)
          case first =>
            have rqA : RQ (wr.alloc (.cells #[] 3)).drew B G 9 q := hp.r.below ((Below.refl _ wr).alloc (Nat.le_refl _) _).drew
            have rqB : RQ wr.drew B G 9 q := hp.r.below (Below.refl _ wr).drew
            have OWA : (wr.alloc (.cells #[] 3)).drew.ownsRow wr.heap.size 3 1 (.slice (some ⟨wr.heap.size, 0, none⟩) 0 0) 0 (([] : List Int).map (Value.int .i64)) := own_none wr.drew
            have bA : Below wr.heap.size wr (wr.alloc (.cells #[] 3)).drew := ((Below.refl _ wr).alloc (Nat.le_refl _) _).drew
            have bB : Below wr.heap.size wr wr.drew := (Below.refl _ wr).drew
            have dA := cell_on bA c1
            have dB := cell_on bB c1
            have CA := copy_any rqA
            have CB := copy_any rqB
            go_region_held3 (fun w' => w'.cell? ⟨M, 1, none⟩ = some (.slice ma q.length mc)) (first | with_reducible assumption | (with_reducible exact dA) | (with_reducible refine cell_alloc ?_ _; with_reducible assumption)) (first
              | (go_at_call 23; refine (copy_any (B := B) (G := G) (n := 9) (q := q) (by with_reducible exact rqB)).mono ?_; rintro e w5 ⟨rfl, hrC, hBC⟩; have bw : Below wr.heap.size wr w5 := bB.trans (hBC.mono bB.size); have d2 := cell_on bw c1)
              | (go_at_call 23; refine (copy_any (B := B) (G := G) (n := 9) (q := q) (by exact rqA)).mono ?_; rintro e w5 ⟨rfl, hrC, hBC⟩; have bw : Below wr.heap.size wr w5 := bA.trans (hBC.mono bA.size); have d2 := cell_on bw c1; have ow2 : w5.ownsRow wr.heap.size 3 1 (.slice (some ⟨wr.heap.size, 0, none⟩) 0 0) 0 (([] : List Int).map (Value.int .i64)) := RowI.below (q := []) OWA hBC)
              | (refine step_cop rfl (.tmp 43) (.tmp 47) rfl wr.heap.size rfl ow2 _ _ _ q rfl rfl (MR.but (.of_below bw)) (by omega) ?_; intro v3 w3 hrow hb3; obtain ⟨sa, sc, rfl, -⟩ := hrow.shape; have d4 := cell_one hb3 d2 (by omega))
              | (refine step_cop rfl (.tmp 43) (.tmp 47) rfl w5.heap.size rfl (own_none w5) _ _ _ q rfl rfl (MR.but (.of_below (bw.trans (((Below.refl _ w5).alloc (Nat.le_refl _) _).mono bw.size)))) (by omega) ?_; intro v3 w3 hrow hb3; obtain ⟨sa, sc, rfl, -⟩ := hrow.shape; have d4 := cell_one hb3 (cell_alloc d2 _) (by have := bw.size; omega)))
            · have hrC1 : RQ w5 (wr.heap.size + 1) wr.heap.size 9 q := hrC
              have hsz : wr.heap.size + 1 < w5.heap.size := hrC1.lt.1
              obtain ⟨r1, r2, r3⟩ := pair_made (wr := wr) (hrC1.below ((Below.refl _ w5).alloc (Nat.le_refl _) (.cells #[] 3))) (by omega) (by omega : wr.heap.size ≤ w5.heap.size) (by omega) (by omega) (bw.trans (((Below.refl _ w5).alloc (Nat.le_refl _) _).mono bw.size)) rfl hb3 hrow l1 rfl
              clear hrC hrC1 hb3 hrow d2 d4 CA CB rqA rqB OWA bA bB dA dB c1 hBC
              generalize w3.alloc (.cells #[.int .i64 9, .slice sa q.length sc] 34) = w7 at r1 r3 ⊢
              go_wp2_with fail
              go_meet
              case rel => exact ⟨_, _, _, _, rfl, rfl, r1, by omega, by omega, r2, r3⟩
            · have hrC1 : RQ w5 (wr.heap.size + 1 + 1) (wr.heap.size + 1) 9 q := by
                have e : (wr.alloc (.cells #[] 3)).drew.heap.size = wr.heap.size + 1 := by simp [World.drew]
                first
                  | exact hrC
                  | (rw [e] at hrC; exact hrC)
                  | (simp at hrC; exact hrC)
              obtain ⟨r1, r2, r3⟩ := pair_made (wr := wr) hrC1 (by omega) (Nat.le_refl wr.heap.size) (by omega) (by omega) bw rfl hb3 hrow l1 rfl
              clear hrC hrC1 hb3 hrow d2 d4 CA CB rqA rqB OWA bA bB dA dB c1 hBC ow2
              generalize w3.alloc (.cells #[.int .i64 9, .slice sa q.length sc] 34) = w7 at r1 r3 ⊢
              go_wp2_with fail
              go_meet
              case rel => exact ⟨_, _, _, _, rfl, rfl, r1, by omega, by omega, r2, r3⟩
          case rest =>
            obtain ⟨C, H, N, lo2, rfl, rfl, hp2, gC, gH, gN, gB⟩ := hcut
            have KP : ∀ W, Below wr.heap.size wc W → Pair W B G lo M 9 q ∧ Below w.heap.size w W := fun W hW =>
              ⟨hp.below (gB.trans hW), hL.k.trans ((gB.trans hW).mono hL.k.size)⟩
            have hK0 : Below wr.heap.size wc wc := Below.refl _ _
            have hsc := gB.size
            clear hL c1 MR gB hp
            generalize wr.heap.size = sz at KP hK0 gC gH gN hsc tB tG tM
            go_wp2_with fail
            go_loopw [53] (fun v wy => ∃ (i : Nat) (p : List Int), i ≤ more.length ∧ v = .int .i64 i ∧ Pair wy C H lo2 N 9 p ∧ Below sz wc wy) (fun v _ => 200 - (intOf v).toNat)
            case atStart => exact ⟨0, q, by omega, rfl, hp2, hK0⟩
            case round =>
              obtain ⟨i, p, hi, rfl, hpp, hky⟩ := hrel
              clear hp2 hK0
              obtain ⟨hpm, hkw⟩ := KP _ hky
              have hsy := hky.size
              by_cases hlt : i < more.length
              · obtain ⟨b', o, rfl, hc0, hc1⟩ := (hb.below hkw) i more[i] (by simp)
                generalize more[i] = act at hc0 hc1
                obtain ⟨k, x⟩ := act
                dsimp only at hc0 hc1
                have h3 : (i : Int) < (more.length : Int) := by omega
                have hA := (Below.refl wr.heap.size wr).alloc (Nat.le_refl _) (.cells #[.int .i64 k, .int .i64 x] 29)
                have hP := hpp.below hA
                have AC := act_any hP k x
                have hAs := hA.size
                go_wp2_with (first
                  | (go_at_call 10; refine AC.mono ?_; rintro e w3 ⟨rfl, hp3, b3⟩; have L3 : Below sz wc w3 := (hky.trans (hA.mono (by omega))).trans (b3.below (by omega) (by simp; omega)); clear b3))
                go_roundw
                case rel => exact ⟨i + 1, _, by omega, by simp, hp3, L3⟩
                case measure =>
                  simp [intOf]
                  omega
              · have h3 : (more.length : Int) ≤ (i : Int) := by omega
                obtain ⟨-, lq, -⟩ := hpp.r.le
                obtain ⟨lp, -, -⟩ := hpp.r.le
                clear hb hlt KP
                go_wp2_with (first
                  | (go_at_call 13; (with_reducible refine (lall_any (some ⟨B, 0, none⟩) q _ hpm.r.src).mono ?_); rintro e w3 ⟨v, rfl, hrow, hb3⟩; have hpm3 := hpm.below hb3; have hpp3 := hpp.below hb3; obtain ⟨va, vc, rfl, hva⟩ := hrow.open'; clear hrow)
                  | (go_at_call 13; (with_reducible refine (lall_any (some ⟨C, 0, none⟩) p _ hpp3.r.src).mono ?_); rintro e w4 ⟨v, rfl, hrow, hb4⟩; have hpm4 := hpm3.below hb4; have hpp4 := hpp3.below hb4; obtain ⟨ua, uc, rfl, hua⟩ := hrow.open'; obtain ⟨ma2, mc2, m0, m1, hma⟩ := hpm4.mem; have hva4 := hva.below hb4)
                  | (go_at_call 16; (with_reducible refine (ints_any va ma2 vc mc2 q w4 (by omega) hva4 hma).mono ?_); rintro e w5 ⟨rfl, hb5⟩; have hpp5 := hpp4.below hb5; obtain ⟨na, nc, n0, n1, hna⟩ := hpp5.mem; have hua5 := hua.below hb5)
                  | (go_at_call 16; (with_reducible refine (ints_any ua na uc nc p w5 (by omega) hua5 hna).mono ?_); rintro e w6 ⟨rfl, hb6⟩)
                  | (go_at_call 7; refine (lives_any _).mono ?_; rintro e w7 ⟨rfl, hb7⟩))
                all_goals
                  go_ret
                  refine ⟨by simp, ?_⟩
                  have s3 := hb3.trans (hb4.mono hb3.size)
                  have s5 := s3.trans (hb5.mono s3.size)
                  have s6 := s5.trans (hb6.mono s5.size)
                  have s7 := s6.trans (hb7.mono s6.size)
                  exact hkw.trans (s7.mono hkw.size)

end Go.Proofs.Ytfobfkidpdlkeaa
