/- The walk of LinksActs. -/
import Derived.Test.YtpaedcknhlojkaaAct
import Derived.Test.YtpaedcknhlojkaaOpens
namespace Go.Proofs.Ytpaedcknhlojkaa
open Go.RowKit
set_option linter.unusedSimpArgs false

/-- What the statements keep: both, with the same lists. -/
structure Lw (W0 W : World) (P : Pl) (lo M LB N L : Nat) (ls : List (List Nat)) : Prop where
  p : Two W P lo M LB N L ls ls
  k : ∀ x ∈ LB :: P.S, W0.heap.size ≤ x
  b : Below W0.heap.size W0 W
theorem Lw.step {W0 W W' : World} {P : Pl} {lo M LB N L : Nat} {ls s : List (List Nat)} (h : Lw W0 W P lo M LB N L ls) (p : Two W' P lo M LB N L s s) (hb : But (LB :: P.S) W W') : Lw W0 W' P lo M LB N L s := ⟨p, h.k, h.b.trans (hb.below h.b.size h.k)⟩
theorem Lw.grow {W0 W W' : World} {P : Pl} {lo M LB N L : Nat} {ls : List (List Nat)} (h : Lw W0 W P lo M LB N L ls) (hb : But [] W W') : Lw W0 W' P lo M LB N L ls := ⟨h.p.keep hb, h.k, h.b.trans (hb.to_below.mono h.b.size)⟩

theorem actat_out {W W' : World} {P : Pl} {LB A : Nat} {k l t : Int} (h : ActAt W A k l t) (hb : But (LB :: P.S) W W') (hA : A ∉ LB :: P.S) : ActAt W' A k l t := ⟨hb.cell' h.1 hA, hb.cell' h.2.1 hA, hb.cell' h.2.2 hA⟩

theorem ActAt.below {W W' : World} {A : Nat} {k l t : Int} (h : ActAt W A k l t) (hb : Below W.heap.size W W') : ActAt W' A k l t := h.keep (.of_below hb)

theorem lall_sl {W : World} {p : Option Addr} {i : Int} {q : List Nat} (h : Src W (.pointer p) i q) :
    Calls Try.prog 16 #[.pointer p, .int .i64 i] W fun e w' => ∃ a c, e = .returned (.tuple #[.slice a q.length c, .bool true]) ∧ RowI w' W.heap.size (.slice a q.length c) (ints q) ∧ Below W.heap.size W w' := (lall_any _ i q W h).mono fun e w' ⟨v, he, hr, hb⟩ => by
  obtain ⟨a, c, e1, _⟩ := hr.open'
  rw [ints_len] at e1
  subst e1
  exact ⟨a, c, he, hr, hb⟩
theorem ints_sl {W : World} (a b : Option Addr) (c d : Nat) {q : List Nat} (hq : q.length ≤ 4096) (h1 : IntsR W a (ints q)) (h2 : IntsR W b (ints q)) :
    Calls Try.prog 17 #[.slice a q.length c, .slice b q.length d] W fun e w' => e = .returned (.bool true) ∧ Below W.heap.size W w' := by
  have := ints_any a b c d (ints q) W (by rw [ints_len]; exact hq) h1 h2
  rwa [ints_len] at this

set_option maxRecDepth 100000 in
set_option maxHeartbeats 4000000 in
theorem acts_any (n0 n1 k0 l0 t0 : Int) (sa : Option Addr) (ca : Nat) (xs : List (Int × Int × Int)) (w : World) (ha : Acts w sa xs) :
    Calls Try.prog 3 #[.agg #[.int .i64 n0, .int .i64 n1], .slice sa xs.length ca, .agg #[.int .i64 k0, .int .i64 l0, .int .i64 t0]] w fun e w' => e = .returned (.bool true) ∧ Below w.heap.size w w' := by
  have hB0 : Below w.heap.size w ((w.alloc (.cells #[.int .i64 n0, .int .i64 n1] 22)).alloc (.cells #[.int .i64 k0, .int .i64 l0, .int .i64 t0] 25)) := ((Below.refl _ w).alloc (Nat.le_refl _) _).alloc (by simp) _
  have hc0 : ((w.alloc (.cells #[.int .i64 n0, .int .i64 n1] 22)).alloc (.cells #[.int .i64 k0, .int .i64 l0, .int .i64 t0] 25)).cell? ⟨w.heap.size, 0, none⟩ = some (.int .i64 n0) := cell_on ((Below.refl _ _).alloc (Nat.le_refl _) _) (by simp [go_sem])
  have hc1 : ((w.alloc (.cells #[.int .i64 n0, .int .i64 n1] 22)).alloc (.cells #[.int .i64 k0, .int .i64 l0, .int .i64 t0] 25)).cell? ⟨w.heap.size, 1, none⟩ = some (.int .i64 n1) := cell_on ((Below.refl _ _).alloc (Nat.le_refl _) _) (by simp [go_sem])
  have hA0 : ActAt ((w.alloc (.cells #[.int .i64 n0, .int .i64 n1] 22)).alloc (.cells #[.int .i64 k0, .int .i64 l0, .int .i64 t0] 25)) (w.heap.size + 1) k0 l0 t0 := by
    have := ActAt.new (w.alloc (.cells #[.int .i64 n0, .int .i64 n1] 22)) k0 l0 t0
    rwa [World.size_alloc] at this
  have hmx : Try.prog.follows .mixedOrders = true := by kernel_rfl
  by_cases hlen : 200 < xs.length
  · have hlen' : (200 : Int) < (xs.length : Int) := by omega
    go_enter Try.func3, Try.ntmps3
    go_wp2_with (first
      | (go_at_call 8; refine (lives_any _).mono ?_; rintro e w2 ⟨rfl, b2⟩))
    go_ret
    exact ⟨rfl, hB0.trans (b2.mono hB0.size)⟩
  · have hlen' : (xs.length : Int) ≤ 200 := by omega
    have ha0 := ha.below hB0
    clear ha
    cases hin : (inN 4096 (n0 - 1) && inN 4096 (n1 - 1)) with
    | false =>
      go_enter Try.func3, Try.ntmps3
      go_wp2_with fail
      generalize ((w.alloc (.cells #[.int .i64 n0, .int .i64 n1] 22)).alloc (.cells #[.int .i64 k0, .int .i64 l0, .int .i64 t0] 25)) = W0 at *
      go_quiet (first
        | (go_at_call 9; exact Calls.quiet_of_same (new_none n0 n1 hin _))
        | (go_at_call 10; exact Calls.quiet_of_same (rnew_none n0 n1 hin _)))
      go_wp2_with (first
        | (go_at_call 8; refine (lives_any _).mono ?_; rintro e w2 ⟨rfl, b2⟩))
      go_ret
      have b1 : Below w.heap.size w (W0.drewN nq) := ⟨hB0.os, hB0.tape, hB0.output, hB0.size, hB0.block⟩
      exact ⟨rfl, b1.trans (b2.mono b1.size)⟩
    | true =>
      have hin2 : 1 ≤ n0 ∧ n0 ≤ 4096 ∧ 1 ≤ n1 ∧ n1 ≤ 4096 := by unfold inN at hin; simp at hin; omega
      obtain ⟨N, rfl⟩ : ∃ N : Nat, n0 = N := ⟨n0.toNat, by omega⟩
      obtain ⟨L, rfl⟩ : ∃ L : Nat, n1 = L := ⟨n1.toNat, by omega⟩
      have e1 : 1 ≤ N := by omega
      have e2 : N ≤ 4096 := by omega
      have e3 : 1 ≤ L := by omega
      have e4 : L ≤ 4096 := by omega
      clear hin hin2
      go_enter Try.func3, Try.ntmps3
      go_wp2_with fail
      generalize ((w.alloc (.cells #[.int .i64 (N : Int), .int .i64 (L : Int)] 22)).alloc (.cells #[.int .i64 k0, .int .i64 l0, .int .i64 t0] 25)) = W0 at *
      have hS : W0.cell? ⟨w.heap.size, 0, none⟩ = some (.int .i64 (N : Int)) ∧ W0.cell? ⟨w.heap.size, 1, none⟩ = some (.int .i64 (L : Int)) := ⟨hc0, hc1⟩
      have hSd : W0.drew.cell? ⟨w.heap.size, 0, none⟩ = some (.int .i64 (N : Int)) ∧ W0.drew.cell? ⟨w.heap.size, 1, none⟩ = some (.int .i64 (L : Int)) := ⟨hc0, hc1⟩
      go_region_held3 (fun w' => w'.cell? ⟨w.heap.size, 0, none⟩ = some (.int .i64 (N : Int)) ∧ w'.cell? ⟨w.heap.size, 1, none⟩ = some (.int .i64 (L : Int))) (first | with_reducible assumption | with_reducible exact hSd) (first
        | (go_at_call 9; refine (new_some N L e1 e2 e3 e4 _).mono ?_; rintro e w1 ⟨P, rfl, q1, k1, b1⟩; have hS1 : w1.cell? ⟨w.heap.size, 0, none⟩ = some (.int .i64 (N : Int)) ∧ w1.cell? ⟨w.heap.size, 1, none⟩ = some (.int .i64 (L : Int)) := ⟨cell_on b1 hSd.1, cell_on b1 hSd.2⟩)
        | (go_at_call 10; refine (rnew_some N L e1 e2 e3 e4 _).mono ?_; rintro e w2 ⟨lo, M, LB, rfl, r2, km, kl, b2⟩; have hS2 : w2.cell? ⟨w.heap.size, 0, none⟩ = some (.int .i64 (N : Int)) ∧ w2.cell? ⟨w.heap.size, 1, none⟩ = some (.int .i64 (L : Int)) := ⟨cell_on b2 hS1.1, cell_on b2 hS1.2⟩))
      have hb1 : Below W0.heap.size W0 w1 := (Below.refl _ W0).drew.trans b1
      have hb2 : Below W0.heap.size W0 w2 := hb1.trans (b2.mono hb1.size)
      have hL : Lw W0 w2 P lo M LB N L (List.replicate L []) := by
        have hlt5 : ∀ k ∈ [P.B, P.n, P.p, P.w, P.c], k < w1.heap.size := fun k hk => q1.lt5 hk
        refine ⟨⟨q1.below b2, r2, fun k hk => ?_⟩, fun x hx => ?_, hb2⟩
        · have h1 := hlt5 k hk
          have h2 := r2.ml
          have h3 := r2.bl
          omega
        · rcases List.mem_cons.1 hx with rfl | hx
          · exact Nat.le_trans hb1.size kl
          · exact k1 x (P_S hx)
      clear hS hSd hS1 hS2 hc0 hc1 q1 r2 b1 b2 hb1 hb2 km kl k1
      go_wp2_with fail
      go_loopw [37, 10] (fun v _ wr => ∃ (j : Nat) (ls : List (List Nat)), j ≤ xs.length ∧ v = .int .i64 j ∧ Lw W0 wr P lo M LB N L ls) (fun v _ _ => 200 - (intOf v).toNat)
      case atStart => exact ⟨0, _, by omega, rfl, hL⟩
      case round =>
        clear hL
        obtain ⟨j, ls, hj, rfl, hL⟩ := hrel
        by_cases hlt : j < xs.length
        · obtain ⟨b, o, rfl, x0, x1, x2⟩ := ha0.below hL.b j xs[j] (by simp)
          have hlt' : (j : Int) < (xs.length : Int) := by omega
          generalize xs[j] = x at x0 x1 x2
          obtain ⟨k, l, t⟩ := x
          dsimp only at x0 x1 x2
          have hL1 := hL.grow ((But.refl [] wr).alloc (.cells #[.int .i64 k, .int .i64 l, .int .i64 t] 25))
          have hA1 := ActAt.new wr k l t
          have hout := hL.p.out (Nat.le_refl _)
          go_wp2_with fail
          generalize wr.alloc (.cells #[.int .i64 k, .int .i64 l, .int .i64 t] 25) = W1 at *
          have hL1d := hL1.grow (But.refl [] W1).drew
          have hA1d := hA1.keep (But.refl [] W1).drew
          have AC : ∀ W, Two W P lo M LB N L ls ls → _ := fun W h => act_any (w := W) h k l t
          generalize actS N L ls k l t = s2 at AC
          have WH : ∀ W, LQ W P N L s2 → _ := fun W h => where_any (w := W) (P := P) h t
          have RW : ∀ W, RL W lo M LB N L s2 → _ := fun W h => rwhere_any (w := W) h t
          have LE : ∀ W, LQ W P N L s2 → _ := fun W h => len_any (w := W) (P := P) h l
          have RA : ∀ W, RL W lo M LB N L s2 → _ := fun W h => rall_any (w := W) h l
          generalize wI s2 t = y at WH RW
          generalize (lsI s2 l).length = m at LE RA
          clear hA1 hL1 x0 x1 x2
          refine wp_region_K 27 (fun w' => w'.cell? ⟨wr.heap.size, 0, none⟩ = some (.int .i64 k) ∧ w'.cell? ⟨wr.heap.size, 1, none⟩ = some (.int .i64 l) ∧ w'.cell? ⟨wr.heap.size, 2, none⟩ = some (.int .i64 t)) hmx (by kernel_rfl) hA1d (fun hHeld hdep => ?_)
          refine wpAnyK_take (i := 0) (v := ?_) (some 41) rfl rfl hdep (by kernel_rfl) (fun _ _ _ h => h) (Or.inl ⟨by rfl, ?_⟩) (by assumption) ?_
          rotate_left
          · (intro w hSw; go_simp; all_goals with_reducible rfl)
          try simp only [Act.put, List.setIfInBounds_toArray, List.set_cons_zero, List.set_cons_succ]
          refine wpAnyK_take (i := 1) (v := ?_) (some 42) rfl rfl hdep (by kernel_rfl) (fun _ _ _ h => h) (Or.inl ⟨by rfl, ?_⟩) (by assumption) ?_
          rotate_left
          · (intro w hSw; go_simp; all_goals with_reducible rfl)
          try simp only [Act.put, List.setIfInBounds_toArray, List.set_cons_zero, List.set_cons_succ]
          refine wpAnyK_take (i := 2) (v := ?_) (some 43) rfl rfl hdep (by kernel_rfl) (fun _ _ _ h => h) (Or.inl ⟨by rfl, ?_⟩) (by assumption) ?_
          rotate_left
          · (intro w hSw; go_simp; all_goals with_reducible rfl)
          try simp only [Act.put, List.setIfInBounds_toArray, List.set_cons_zero, List.set_cons_succ]
          refine wpAnyK_one (i := 3) (by kernel_rfl) rfl (fun K hK => ?_)
          go_simp
          (go_at_call 11; refine (AC _ hL1d.p).mono ?_; rintro e w2 ⟨b, rfl, hbt, p2, b2⟩)
          obtain rfl : b = true := hbt rfl
          have hL2 := hL1d.step p2 b2
          have hA2 := actat_out hA1d b2 hout
          refine hK.out _ _ (fun _ => hA2) ?_
          clear hK K
          try simp only [Act.put, List.setIfInBounds_toArray, List.set_cons_zero, List.set_cons_succ]
          refine wpAnyK_take (i := 4) (v := ?_) (some 45) rfl rfl hdep (by kernel_rfl) (fun _ _ _ h => h) (Or.inl ⟨by rfl, ?_⟩) hA2 ?_
          rotate_left
          · (intro w hSw; go_simp; all_goals with_reducible rfl)
          try simp only [Act.put, List.setIfInBounds_toArray, List.set_cons_zero, List.set_cons_succ]
          refine wpAnyK_take (i := 5) (v := ?_) (some 46) rfl rfl hdep (by kernel_rfl) (fun _ _ _ h => h) (Or.inl ⟨by rfl, ?_⟩) hA2 ?_
          rotate_left
          · (intro w hSw; go_simp; all_goals with_reducible rfl)
          try simp only [Act.put, List.setIfInBounds_toArray, List.set_cons_zero, List.set_cons_succ]
          refine wpAnyK_take (i := 6) (v := ?_) (some 47) rfl rfl hdep (by kernel_rfl) (fun _ _ _ h => h) (Or.inl ⟨by rfl, ?_⟩) hA2 ?_
          rotate_left
          · (intro w hSw; go_simp; all_goals with_reducible rfl)
          try simp only [Act.put, List.setIfInBounds_toArray, List.set_cons_zero, List.set_cons_succ]
          refine wpAnyK_take (i := 7) (v := ?_) (some 48) rfl rfl hdep (by kernel_rfl) (fun _ _ _ h => h) (Or.inl ⟨by rfl, ?_⟩) hA2 ?_
          rotate_left
          · (intro w hSw; go_simp; all_goals with_reducible rfl)
          try simp only [Act.put, List.setIfInBounds_toArray, List.set_cons_zero, List.set_cons_succ]
          refine wpAnyK_take (i := 8) (v := ?_) (some 49) rfl rfl hdep (by kernel_rfl) (fun _ _ _ h => h) (Or.inl ⟨by rfl, ?_⟩) hA2 ?_
          rotate_left
          · (intro w hSw; go_simp; all_goals with_reducible rfl)
          try simp only [Act.put, List.setIfInBounds_toArray, List.set_cons_zero, List.set_cons_succ]
          refine wpAnyK_take (i := 10) (v := ?_) (some 51) rfl rfl hdep (by kernel_rfl) (fun _ _ _ h => h) (Or.inl ⟨by rfl, ?_⟩) hA2 ?_
          rotate_left
          · (intro w hSw; go_simp; all_goals with_reducible rfl)
          try simp only [Act.put, List.setIfInBounds_toArray, List.set_cons_zero, List.set_cons_succ]
          refine wpAnyK_take (i := 11) (v := ?_) (some 52) rfl rfl hdep (by kernel_rfl) (fun _ _ _ h => h) (Or.inl ⟨by rfl, ?_⟩) hA2 ?_
          rotate_left
          · (intro w hSw; go_simp; all_goals with_reducible rfl)
          try simp only [Act.put, List.setIfInBounds_toArray, List.set_cons_zero, List.set_cons_succ]
          refine wpAnyK_take (i := 12) (v := ?_) (some 53) rfl rfl hdep (by kernel_rfl) (fun _ _ _ h => h) (Or.inl ⟨by rfl, ?_⟩) hA2 ?_
          rotate_left
          · (intro w hSw; go_simp; all_goals with_reducible rfl)
          try simp only [Act.put, List.setIfInBounds_toArray, List.set_cons_zero, List.set_cons_succ]
          refine wpAnyK_one (i := 9) (by kernel_rfl) rfl (fun K hK => ?_)
          go_simp
          (go_at_call 12; refine (WH _ hL2.p.q).mono ?_; rintro e w' ⟨rfl, hw⟩; subst w')
          refine hK.out _ _ (fun _ => hA2) ?_
          clear hK K
          try simp only [Act.put, List.setIfInBounds_toArray, List.set_cons_zero, List.set_cons_succ]
          refine wpAnyK_one (i := 13) (by kernel_rfl) rfl (fun K hK => ?_)
          go_simp
          (go_at_call 13; refine (RW _ hL2.p.r).mono ?_; rintro e w' ⟨rfl, hw⟩; subst w')
          refine hK.out _ _ (fun _ => hA2) ?_
          clear hK K
          try simp only [Act.put, List.setIfInBounds_toArray, List.set_cons_zero, List.set_cons_succ]
          refine wpAnyK_take (i := 14) (v := ?_) (some 55) rfl rfl hdep (by kernel_rfl) (fun _ _ _ h => h) (Or.inl ⟨by rfl, ?_⟩) hA2 ?_
          rotate_left
          · (intro w hSw; go_simp; all_goals with_reducible rfl)
          try simp only [Act.put, List.setIfInBounds_toArray, List.set_cons_zero, List.set_cons_succ]
          refine wpAnyK_take (i := 15) (v := ?_) (some 56) rfl rfl hdep (by kernel_rfl) (fun _ _ _ h => h) (Or.inl ⟨by rfl, ?_⟩) hA2 ?_
          rotate_left
          · (intro w hSw; go_simp; all_goals with_reducible rfl)
          try simp only [Act.put, List.setIfInBounds_toArray, List.set_cons_zero, List.set_cons_succ]
          refine wpAnyK_take (i := 16) (v := ?_) (some 57) rfl rfl hdep (by kernel_rfl) (fun _ _ _ h => h) (Or.inl ⟨by rfl, ?_⟩) hA2 ?_
          rotate_left
          · (intro w hSw; go_simp; all_goals with_reducible rfl)
          try simp only [Act.put, List.setIfInBounds_toArray, List.set_cons_zero, List.set_cons_succ]
          refine wpAnyK_take (i := 17) (v := ?_) (some 58) rfl rfl hdep (by kernel_rfl) (fun _ _ _ h => h) (Or.inl ⟨by rfl, ?_⟩) hA2 ?_
          rotate_left
          · (intro w hSw; go_simp; all_goals with_reducible rfl)
          try simp only [Act.put, List.setIfInBounds_toArray, List.set_cons_zero, List.set_cons_succ]
          refine wpAnyK_take (i := 18) (v := ?_) (some 59) rfl rfl hdep (by kernel_rfl) (fun _ _ _ h => h) (Or.inl ⟨by rfl, ?_⟩) hA2 ?_
          rotate_left
          · (intro w hSw; go_simp; all_goals with_reducible rfl)
          try simp only [Act.put, List.setIfInBounds_toArray, List.set_cons_zero, List.set_cons_succ]
          refine wpAnyK_take (i := 19) (v := ?_) (some 60) rfl rfl hdep (by kernel_rfl) (fun _ _ _ h => h) (Or.inl ⟨by rfl, ?_⟩) hA2 ?_
          rotate_left
          · (intro w hSw; go_simp; all_goals with_reducible rfl)
          try simp only [Act.put, List.setIfInBounds_toArray, List.set_cons_zero, List.set_cons_succ]
          refine wpAnyK_take (i := 21) (v := ?_) (some 62) rfl rfl hdep (by kernel_rfl) (fun _ _ _ h => h) (Or.inl ⟨by rfl, ?_⟩) hA2 ?_
          rotate_left
          · (intro w hSw; go_simp; all_goals with_reducible rfl)
          try simp only [Act.put, List.setIfInBounds_toArray, List.set_cons_zero, List.set_cons_succ]
          refine wpAnyK_take (i := 22) (v := ?_) (some 63) rfl rfl hdep (by kernel_rfl) (fun _ _ _ h => h) (Or.inl ⟨by rfl, ?_⟩) hA2 ?_
          rotate_left
          · (intro w hSw; go_simp; all_goals with_reducible rfl)
          try simp only [Act.put, List.setIfInBounds_toArray, List.set_cons_zero, List.set_cons_succ]
          refine wpAnyK_take (i := 23) (v := ?_) (some 64) rfl rfl hdep (by kernel_rfl) (fun _ _ _ h => h) (Or.inl ⟨by rfl, ?_⟩) hA2 ?_
          rotate_left
          · (intro w hSw; go_simp; all_goals with_reducible rfl)
          try simp only [Act.put, List.setIfInBounds_toArray, List.set_cons_zero, List.set_cons_succ]
          refine wpAnyK_one (i := 20) (by kernel_rfl) rfl (fun K hK => ?_)
          go_simp
          (go_at_call 14; refine (LE _ hL2.p.q).mono ?_; rintro e w' ⟨rfl, hw⟩; subst w')
          refine hK.out _ _ (fun _ => hA2) ?_
          clear hK K
          try simp only [Act.put, List.setIfInBounds_toArray, List.set_cons_zero, List.set_cons_succ]
          refine wpAnyK_one (i := 24) (by kernel_rfl) rfl (fun K hK => ?_)
          go_simp
          (go_at_call 15; refine (RA _ hL2.p.r).mono ?_; rintro e w4 ⟨ra, rc, rfl, -, b4⟩)
          have hL4 := hL2.grow b4
          have hA4 := hA2.keep b4
          refine hK.out _ _ (fun _ => hA4) ?_
          clear hK K
          try simp only [Act.put, List.setIfInBounds_toArray, List.set_cons_zero, List.set_cons_succ]
          refine wpAnyK_take (i := 25) (v := ?_) (some 66) rfl rfl hdep (by kernel_rfl) (fun _ _ _ h => h) (Or.inl ⟨by rfl, ?_⟩) hA4 ?_
          rotate_left
          · (intro w hSw; go_simp; all_goals with_reducible rfl)
          try simp only [Act.put, List.setIfInBounds_toArray, List.set_cons_zero, List.set_cons_succ]
          refine wpAnyK_take (i := 26) (v := ?_) (some 67) rfl rfl hdep (by kernel_rfl) (fun _ _ _ h => h) (Or.inl ⟨by rfl, ?_⟩) hA4 ?_
          rotate_left
          · (intro w hSw; go_simp; all_goals with_reducible rfl)
          try simp only [Act.put, List.setIfInBounds_toArray, List.set_cons_zero, List.set_cons_succ]
          refine wpAnyK_one (i := 27) (by kernel_rfl) rfl (fun K hK => ?_)
          go_simp
          refine hK.out _ _ (fun h => absurd rfl h) ?_
          clear hK K
          try simp only [Act.put, List.setIfInBounds_toArray, List.set_cons_zero, List.set_cons_succ]
          refine wpAnyK_done (by kernel_rfl) ?_
          go_wp2_with fail
          go_roundw
          case rel => exact ⟨j + 1, s2, by omega, by simp, hL4⟩
          case measure =>
            simp [intOf]
            omega
        · obtain rfl : j = xs.length := by omega
          have hAr := hA0.below hL.b
          have hAr' := hAr
          obtain ⟨-, a1, a2⟩ := hAr'
          have hsr := hL.p.q.src l0
          have hle := hsr.le
          have RA : ∀ W, RL W lo M LB N L ls → _ := fun W h => rall_any (w := W) h l0
          have WH : ∀ W, LQ W P N L ls → _ := fun W h => where_any (w := W) (P := P) h t0
          have RW : ∀ W, RL W lo M LB N L ls → _ := fun W h => rwhere_any (w := W) h t0
          generalize lsI ls l0 = q at hsr hle RA
          generalize wI ls t0 = y at WH RW
          go_wp2_with (first
            | (go_at_call 16; refine (lall_sl hsr).mono ?_; rintro e w2 ⟨va, vc, rfl, r2, b2⟩))
          have hL2 := hL.grow (.of_below b2)
          have hA2 := hAr.below b2
          have hL2d := hL2.grow (But.refl [] w2).drew
          have hA2d := hA2.keep (But.refl [] w2).drew
          have r2d : RowI w2.drew wr.heap.size (.slice va q.length vc) (ints q) := r2.but (S := []) (But.refl [] w2).drew (by simp)
          clear a1 a2 hA2 hAr
          refine wp_region_K 23 (fun w' => w'.cell? ⟨w.heap.size + 1, 0, none⟩ = some (.int .i64 k0) ∧ w'.cell? ⟨w.heap.size + 1, 1, none⟩ = some (.int .i64 l0) ∧ w'.cell? ⟨w.heap.size + 1, 2, none⟩ = some (.int .i64 t0)) hmx (by kernel_rfl) hA2d (fun hHeld hdep => ?_)
          refine wpAnyK_take (i := 0) (v := ?_) (some 77) rfl rfl hdep (by kernel_rfl) (fun _ _ _ h => h) (Or.inl ⟨by rfl, ?_⟩) hA2d ?_
          rotate_left
          · (intro w hSw; go_simp; all_goals with_reducible rfl)
          try simp only [Act.put, List.setIfInBounds_toArray, List.set_cons_zero, List.set_cons_succ]
          refine wpAnyK_take (i := 1) (v := ?_) (some 78) rfl rfl hdep (by kernel_rfl) (fun _ _ _ h => h) (Or.inl ⟨by rfl, ?_⟩) hA2d ?_
          rotate_left
          · (intro w hSw; go_simp; all_goals with_reducible rfl)
          try simp only [Act.put, List.setIfInBounds_toArray, List.set_cons_zero, List.set_cons_succ]
          refine wpAnyK_take (i := 2) (v := ?_) (some 79) rfl rfl hdep (by kernel_rfl) (fun _ _ _ h => h) (Or.inl ⟨by rfl, ?_⟩) hA2d ?_
          rotate_left
          · (intro w hSw; go_simp; all_goals with_reducible rfl)
          try simp only [Act.put, List.setIfInBounds_toArray, List.set_cons_zero, List.set_cons_succ]
          refine wpAnyK_take (i := 3) (v := ?_) (some 80) rfl rfl hdep (by kernel_rfl) (fun _ _ _ h => h) (Or.inl ⟨by rfl, ?_⟩) hA2d ?_
          rotate_left
          · (intro w hSw; go_simp; all_goals with_reducible rfl)
          try simp only [Act.put, List.setIfInBounds_toArray, List.set_cons_zero, List.set_cons_succ]
          refine wpAnyK_take (i := 4) (v := ?_) (some 81) rfl rfl hdep (by kernel_rfl) (fun _ _ _ h => h) (Or.inl ⟨by rfl, ?_⟩) hA2d ?_
          rotate_left
          · (intro w hSw; go_simp; all_goals with_reducible rfl)
          try simp only [Act.put, List.setIfInBounds_toArray, List.set_cons_zero, List.set_cons_succ]
          refine wpAnyK_take (i := 5) (v := ?_) (some 82) rfl rfl hdep (by kernel_rfl) (fun _ _ _ h => h) (Or.inl ⟨by rfl, ?_⟩) hA2d ?_
          rotate_left
          · (intro w hSw; go_simp; all_goals with_reducible rfl)
          try simp only [Act.put, List.setIfInBounds_toArray, List.set_cons_zero, List.set_cons_succ]
          refine wpAnyK_one (i := 6) (by kernel_rfl) rfl (fun K hK => ?_)
          go_simp
          (go_at_call 15; refine (RA _ hL2d.p.r).mono ?_; rintro e w3 ⟨ra, rc, rfl, r3, b3⟩)
          have hL3 := hL2d.grow b3
          have hA3 := hA2d.keep b3
          have i3 := r3.at
          have i2 := (r2d.but b3 (by simp)).at
          refine hK.out _ _ (fun _ => hA3) ?_
          clear hK K
          try simp only [Act.put, List.setIfInBounds_toArray, List.set_cons_zero, List.set_cons_succ]
          refine wpAnyK_one (i := 7) (by kernel_rfl) rfl (fun K hK => ?_)
          go_simp
          (go_at_call 17; refine (ints_sl _ _ _ _ hle i2 i3).mono ?_; rintro e w4 ⟨rfl, b4⟩)
          have hL4 := hL3.grow (.of_below b4)
          have hA4 := hA3.below b4
          refine hK.out _ _ (fun _ => hA4) ?_
          clear hK K
          try simp only [Act.put, List.setIfInBounds_toArray, List.set_cons_zero, List.set_cons_succ]
          refine wpAnyK_take (i := 8) (v := ?_) (some 85) rfl rfl hdep (by kernel_rfl) (fun _ _ _ h => h) (Or.inl ⟨by rfl, ?_⟩) hA4 ?_
          rotate_left
          · (intro w hSw; go_simp; all_goals with_reducible rfl)
          try simp only [Act.put, List.setIfInBounds_toArray, List.set_cons_zero, List.set_cons_succ]
          refine wpAnyK_take (i := 9) (v := ?_) (some 86) rfl rfl hdep (by kernel_rfl) (fun _ _ _ h => h) (Or.inl ⟨by rfl, ?_⟩) hA4 ?_
          rotate_left
          · (intro w hSw; go_simp; all_goals with_reducible rfl)
          try simp only [Act.put, List.setIfInBounds_toArray, List.set_cons_zero, List.set_cons_succ]
          refine wpAnyK_take (i := 10) (v := ?_) (some 87) rfl rfl hdep (by kernel_rfl) (fun _ _ _ h => h) (Or.inl ⟨by rfl, ?_⟩) hA4 ?_
          rotate_left
          · (intro w hSw; go_simp; all_goals with_reducible rfl)
          try simp only [Act.put, List.setIfInBounds_toArray, List.set_cons_zero, List.set_cons_succ]
          refine wpAnyK_take (i := 11) (v := ?_) (some 88) rfl rfl hdep (by kernel_rfl) (fun _ _ _ h => h) (Or.inl ⟨by rfl, ?_⟩) hA4 ?_
          rotate_left
          · (intro w hSw; go_simp; all_goals with_reducible rfl)
          try simp only [Act.put, List.setIfInBounds_toArray, List.set_cons_zero, List.set_cons_succ]
          refine wpAnyK_take (i := 12) (v := ?_) (some 89) rfl rfl hdep (by kernel_rfl) (fun _ _ _ h => h) (Or.inl ⟨by rfl, ?_⟩) hA4 ?_
          rotate_left
          · (intro w hSw; go_simp; all_goals with_reducible rfl)
          try simp only [Act.put, List.setIfInBounds_toArray, List.set_cons_zero, List.set_cons_succ]
          refine wpAnyK_take (i := 14) (v := ?_) (some 91) rfl rfl hdep (by kernel_rfl) (fun _ _ _ h => h) (Or.inl ⟨by rfl, ?_⟩) hA4 ?_
          rotate_left
          · (intro w hSw; go_simp; all_goals with_reducible rfl)
          try simp only [Act.put, List.setIfInBounds_toArray, List.set_cons_zero, List.set_cons_succ]
          refine wpAnyK_take (i := 15) (v := ?_) (some 92) rfl rfl hdep (by kernel_rfl) (fun _ _ _ h => h) (Or.inl ⟨by rfl, ?_⟩) hA4 ?_
          rotate_left
          · (intro w hSw; go_simp; all_goals with_reducible rfl)
          try simp only [Act.put, List.setIfInBounds_toArray, List.set_cons_zero, List.set_cons_succ]
          refine wpAnyK_take (i := 16) (v := ?_) (some 93) rfl rfl hdep (by kernel_rfl) (fun _ _ _ h => h) (Or.inl ⟨by rfl, ?_⟩) hA4 ?_
          rotate_left
          · (intro w hSw; go_simp; all_goals with_reducible rfl)
          try simp only [Act.put, List.setIfInBounds_toArray, List.set_cons_zero, List.set_cons_succ]
          refine wpAnyK_one (i := 13) (by kernel_rfl) rfl (fun K hK => ?_)
          go_simp
          (go_at_call 12; refine (WH _ hL4.p.q).mono ?_; rintro e w' ⟨rfl, hw⟩; subst w')
          refine hK.out _ _ (fun _ => hA4) ?_
          clear hK K
          try simp only [Act.put, List.setIfInBounds_toArray, List.set_cons_zero, List.set_cons_succ]
          refine wpAnyK_one (i := 17) (by kernel_rfl) rfl (fun K hK => ?_)
          go_simp
          (go_at_call 13; refine (RW _ hL4.p.r).mono ?_; rintro e w' ⟨rfl, hw⟩; subst w')
          refine hK.out _ _ (fun _ => hA4) ?_
          clear hK K
          try simp only [Act.put, List.setIfInBounds_toArray, List.set_cons_zero, List.set_cons_succ]
          refine wpAnyK_take (i := 18) (v := ?_) (some 95) rfl rfl hdep (by kernel_rfl) (fun _ _ _ h => h) (Or.inl ⟨by rfl, ?_⟩) hA4 ?_
          rotate_left
          · (intro w hSw; go_simp; all_goals with_reducible rfl)
          try simp only [Act.put, List.setIfInBounds_toArray, List.set_cons_zero, List.set_cons_succ]
          refine wpAnyK_take (i := 19) (v := ?_) (some 96) rfl rfl hdep (by kernel_rfl) (fun _ _ _ h => h) (Or.inl ⟨by rfl, ?_⟩) hA4 ?_
          rotate_left
          · (intro w hSw; go_simp; all_goals with_reducible rfl)
          try simp only [Act.put, List.setIfInBounds_toArray, List.set_cons_zero, List.set_cons_succ]
          refine wpAnyK_take (i := 20) (v := ?_) (some 97) rfl rfl hdep (by kernel_rfl) (fun _ _ _ h => h) (Or.inl ⟨by rfl, ?_⟩) hA4 ?_
          rotate_left
          · (intro w hSw; go_simp; all_goals with_reducible rfl)
          try simp only [Act.put, List.setIfInBounds_toArray, List.set_cons_zero, List.set_cons_succ]
          refine wpAnyK_one (i := 21) (by kernel_rfl) rfl (fun K hK => ?_)
          go_simp
          (go_at_call 8; refine (lives_any _).mono ?_; rintro e w5 ⟨rfl, b5⟩)
          have hA5 := hA4.below b5
          refine hK.out _ _ (fun _ => hA5) ?_
          clear hK K
          try simp only [Act.put, List.setIfInBounds_toArray, List.set_cons_zero, List.set_cons_succ]
          refine wpAnyK_take (i := 22) (v := ?_) (some 99) rfl rfl hdep (by kernel_rfl) (fun _ _ _ h => h) (Or.inl ⟨by rfl, ?_⟩) hA5 ?_
          rotate_left
          · (intro w hSw; go_simp; all_goals with_reducible rfl)
          try simp only [Act.put, List.setIfInBounds_toArray, List.set_cons_zero, List.set_cons_succ]
          refine wpAnyK_one (i := 23) (by kernel_rfl) rfl (fun K hK => ?_)
          go_simp
          refine hK.out _ _ (fun h => absurd rfl h) ?_
          clear hK K
          try simp only [Act.put, List.setIfInBounds_toArray, List.set_cons_zero, List.set_cons_succ]
          refine wpAnyK_done (by kernel_rfl) ?_
          go_wp2_with fail
          go_ret
          refine ⟨rfl, ?_⟩
          have s4 := hB0.trans (hL4.b.mono hB0.size)
          exact s4.trans (b5.mono s4.size)

end Go.Proofs.Ytpaedcknhlojkaa
