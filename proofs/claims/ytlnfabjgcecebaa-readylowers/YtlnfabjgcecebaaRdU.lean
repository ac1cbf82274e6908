/- The walk of ReadyLowers, over any queue that tells as it must. -/
import Derived.Test.YtlnfabjgcecebaaRdY
import Derived.Test.YtlnfabjgcecebaaRdV
namespace Go.Proofs.Ytlnfabjgcecebaa.Rd
open Go Go.RowKit Go.Proofs.Ytlnfabjgcecebaa.Str
open Go.Proofs.Ytlnfabjgcecebaa.Hp (Step Disj)

theorem low_some {σ : Qs} (h : lowB σ = true) : lowS σ = ⟨0, σ.L.map (lowR σ.now)⟩ := by unfold lowS; rw [if_pos h]
theorem low_rw {σ : Qs} (h : lowB σ = true) (id : Int) : rwI (lowS σ) id = lowR σ.now (rwI σ id) := by
  rw [low_some h]
  unfold rwI inB
  rw [show (⟨0, σ.L.map (lowR σ.now)⟩ : Qs).L = σ.L.map (lowR σ.now) from rfl, List.length_map, rw_map rfl]
  split <;> rfl
theorem low_ids {σ : Qs} (h : lowB σ = true) : ids (qL (lowS σ)) = ids (qL σ) := by
  rw [low_some h, qL_low]
  exact ids_low _ _
section
variable {PQ : World → Nat → List Nat → Nat → Qs → Prop}
set_option maxRecDepth 100000 in
set_option maxHeartbeats 4000000 in
theorem lowers_any (S : Side PQ) (sa : Option Addr) (ca : Nat) (xs : List (Int × Int × Int)) (w : World) (ha : Acts w sa xs) :
    Calls Try.prog 5 #[.slice sa xs.length ca] w fun e w' => e = .returned (.bool true) ∧ Below w.heap.size w w' := by
  have HL : ∀ W, _ := fun W => lives_any S W
  have C0 : Calls Try.prog 8 #[.int .i64 8] w fun e w' => ∃ B T, e = .returned (.pointer (some ⟨B, 0, none⟩)) ∧ PQ w' B T 8 ⟨0, List.replicate 8 z4⟩ ∧ Step [] w T w' := S.made 8 w (by omega) (by omega)
  have C1 : ∀ W, Calls Try.prog 9 #[.int .i64 8] W fun e w' => ∃ M, e = .returned (.pointer (some ⟨M, 0, none⟩)) ∧ ∃ G, RQ w' M G 8 ⟨0, List.replicate 8 z4⟩ ∧ Below W.heap.size W w' ∧ W.heap.size ≤ M ∧ W.heap.size ≤ G := fun W => new_some 8 (by omega) (by omega) W
  by_cases hx : 100 < xs.length
  · have hx' : (100 : Int) < (xs.length : Int) := by omega
    go_enter Try.func5, Try.ntmps5
    go_wp2_with (first
      | (go_at_call 8; (with_reducible refine C0.mono ?_); rintro e w1 ⟨B, T1, rfl, h1, s1⟩)
      | (go_at_call 9; (with_reducible refine (C1 _).mono ?_); rintro e w2 ⟨M, rfl, G, h2, b2, hM, hG⟩)
      | (go_at_call 7; refine (HL _).mono ?_; rintro e w3 ⟨rfl, b3⟩))
    go_ret
    exact ⟨rfl, ((s1.but.trans (.of_below b2)).trans (.of_below b3)).to_below⟩
  have hx' : ¬ (100 : Int) < (xs.length : Int) := by omega
  go_enter Try.func5, Try.ntmps5
  go_wp2_with (first
    | (go_at_call 8; (with_reducible refine C0.mono ?_); rintro e w1 ⟨B, T1, rfl, h1, s1⟩)
    | (go_at_call 9; (with_reducible refine (C1 _).mono ?_); rintro e w2 ⟨M, rfl, G, h2, b2, hM, hG⟩; have hP := Pr.new S h1 s1 h2 b2 hM hG))
  clear h1 s1 h2 b2 hM hG C0 C1
  go_loopw [30, 6] (fun v _ wr => ∃ (j : Nat) (T : List Nat) (σ : Qs), j ≤ xs.length ∧ v = .int .i64 j ∧ Pr PQ w wr B T M G 8 σ σ ∧ Few j σ) (fun v _ _ => 200 - (intOf v).toNat)
  case atStart => exact ⟨0, T1, _, by omega, rfl, hP, Few.new 8⟩
  case round =>
    clear hP
    obtain ⟨j, T, σ, hj, rfl, hP, hF⟩ := hrel
    by_cases hlt : j < xs.length
    · obtain ⟨b, o, rfl, x0, x1, x2⟩ := ha.below hP.s.below j xs[j] (by simp)
      have hlt' : (j : Int) < (xs.length : Int) := by omega
      generalize xs[j] = x at x0 x1 x2
      obtain ⟨k, t, y⟩ := x
      dsimp only at x0 x1 x2
      have hP1 := hP.keep S ((Hp.But.refl [] wr).alloc (.cells #[.int .i64 k, .int .i64 t, .int .i64 y] 29))
      have hA1 := Ac3.new wr k t y
      go_wp2_with fail
      generalize wr.alloc (.cells #[.int .i64 k, .int .i64 t, .int .i64 y] 29) = W1 at *
      have AC : ∀ W, Pr PQ w W B T M G 8 σ σ → _ := fun W h => act_any S (w := W) h hF (by omega) k t y
      have hF2 := hF.act (by omega) k t y
      generalize actS σ k t y = σ2 at AC hF2
      clear x0 x1 x2 hP
      go_wp2_with (first
        | (go_at_call 10; refine (AC _ hP1).mono ?_; rintro e w2 ⟨rfl, T2, p2, s2⟩))
      go_roundw
      case rel => exact ⟨j + 1, T2, σ2, by omega, by simp, p2, hF2⟩
      case measure =>
        simp [intOf]
        omega
    · obtain rfl : j = xs.length := by omega
      obtain ⟨wp, ewp⟩ : ∃ wp, wp = wr := ⟨_, rfl⟩
      subst ewp
      have hF1 : Few xs.length (lowS σ) := hF.low
      have hlb := hF.lowB (by omega)
      have hlr := low_rw hlb
      have hids := low_ids hlb
      have hlN : lowN σ = σ.now := by unfold lowN; rw [if_pos hlb]
      have hl0 : (lowS σ).now = 0 := by rw [low_some hlb]
      obtain ⟨n0, n1, hsm, -⟩ := hF.sml (by omega)
      have hq := hP.a
      have hsz := hP.s.below
      have hlen := S.len hq
      have hL := ids_le hlen (by omega)
      have CO := S.copy hq
      have LO : ∀ {W B T}, PQ W B T 8 σ → _ := fun {W B T} h => S.lower (w := W) (B := B) (T := T) h hF (by omega)
      rw [hlN] at LO
      have NO : ∀ {W}, PQ W B T 8 σ → _ := fun {W} h => S.now (w := W) h
      have NL : ∀ {W B T}, PQ W B T 8 (lowS σ) → _ := fun {W B T} h => S.now (w := W) (B := B) (T := T) h
      rw [hl0] at NL
      have WO : ∀ {W}, PQ W B T 8 σ → _ := fun {W} h => S.waiting (w := W) h
      have WL : ∀ {W B T}, PQ W B T 8 (lowS σ) → _ := fun {W B T} h => S.waiting (w := W) (B := B) (T := T) h
      rw [hids] at WL
      have SO : ∀ {W B T}, PQ W B T 8 (lowS σ) → _ := fun {W B T} h => S.sound (w := W) (B := B) (T := T) h hF1 (by omega)
      have hgn : ∃ nw, nw = σ.now := ⟨_, rfl⟩
      obtain ⟨nw, hnw⟩ := hgn
      rw [← hnw] at LO NO n0 n1 hlr
      go_wp2_with (first
        | (go_at_call 22; (with_reducible refine CO.mono ?_); rintro e wc ⟨B2, T2, rfl, hc, sc⟩)
        | (go_at_call 23; (with_reducible refine (LO hc).mono ?_); rintro e wl ⟨rfl, T3, hl, sl⟩; have k1 := S.keep hq (sc.trans sl).but)
        | (go_at_call 24; first
            | (with_reducible refine (NO k1).mono ?_); rintro e w1 ⟨rfl, b1⟩; have k2 := S.keep k1 (.of_below b1); have l2 := S.keep hl (.of_below b1)
            | (with_reducible refine (NL l2).mono ?_); rintro e w2 ⟨rfl, b2⟩; have k3 := S.keep k2 (.of_below b2); have l3 := S.keep l2 (.of_below b2))
        | (go_at_call 26; first
            | (with_reducible refine (WL l3).mono ?_); rintro e w3 ⟨v3, rfl, r3, b3⟩; obtain ⟨a3, d3, rfl, -, -, -, i3⟩ := RowI.shape r3; have k4 := S.keep k3 (.of_below b3); have l4 := S.keep l3 (.of_below b3)
            | (with_reducible refine (WO k4).mono ?_); rintro e w4 ⟨v4, rfl, r4, b4⟩; obtain ⟨a4, d4, rfl, -, -, -, i4⟩ := RowI.shape r4; have k5 := S.keep k4 (.of_below b4); have l5 := S.keep l4 (.of_below b4); have j3 : Hp.IntsR w4 a3 (ids (qL σ)) := Hp.IntsR.below (w := w3) (a := a3) i3 b4; have j4 : Hp.IntsR w4 a4 (ids (qL σ)) := i4)
        | (go_at_call 25; (with_reducible refine (Hp.ints_any a3 a4 d3 d4 _ w4 hL j3 j4).mono ?_); rintro e w5 ⟨rfl, b5⟩; have k6 := S.keep k5 (.of_below b5); have l6 := S.keep l5 (.of_below b5))
        | (go_at_call 21; (with_reducible refine (SO l6).mono ?_); rintro e w6 ⟨rfl, b6⟩; have k7 := S.keep k6 (.of_below b6); have l7 := S.keep l6 (.of_below b6)))
      have hB : Hp.But [] w w6 := (((((((Hp.But.of_below hsz).trans (sc.trans sl).but).trans (.of_below b1)).trans (.of_below b2)).trans (.of_below b3)).trans (.of_below b4)).trans (.of_below b5)).trans (.of_below b6)
      clear CO LO NO NL WO WL SO hc sc hl sl k1 k2 k3 k4 k5 k6 l2 l3 l4 l5 l6 r3 r4 i3 i4 j3 j4 hq hsz hP
      go_loopw [9, 10, 11, 12, 13] (fun v _ _ _ _ wr => ∃ i : Nat, i ≤ 8 ∧ v = .int .i64 i ∧ PQ wr B T 8 σ ∧ PQ wr B2 T3 8 (lowS σ) ∧ Hp.But [] w wr) (fun v _ _ _ _ _ => 8 - (intOf v).toNat)
      case atStart => exact ⟨0, by omega, rfl, k7, l7, hB⟩
      case round =>
        clear k7 l7 hB
        obtain ⟨i, hi, rfl, k0, l0, hB0⟩ := hrel
        by_cases hlt : i < 8
        · have hlt' : (i : Int) < 8 := by omega
          have hz : rwI σ (i : Int) = rw σ.L i := rwI_of (by omega)
          obtain ⟨⟨p0, p1⟩, -⟩ := hsm i (by omega)
          generalize rw σ.L i = r at hz p0 p1
          obtain ⟨st, tk, ps, pk⟩ := r
          dsimp only at p0 p1
          by_cases hs : st = 0
          · subst hs
            have hr : lowR nw (0, tk, ps, pk) = (0, tk, ps, pk) := rfl
            have hd : decide ((0 : Int) ≠ 0) = false := rfl
            have D1 : ∀ W, PQ W B T 8 σ → Calls Try.prog 27 #[.pointer (some ⟨B, 0, none⟩), .int .i64 i] W fun e w' => e = .returned (.tuple #[.int .i64 ps, .bool false]) ∧ Below W.heap.size W w' := fun W h => by
              have := S.pass (w := W) h hF (i : Int)
              rw [hz] at this
              exact this
            have D2 : ∀ W, PQ W B2 T3 8 (lowS σ) → Calls Try.prog 27 #[.pointer (some ⟨B2, 0, none⟩), .int .i64 i] W fun e w' => e = .returned (.tuple #[.int .i64 ps, .bool false]) ∧ Below W.heap.size W w' := fun W h => by
              have := S.pass (w := W) h hF1 (i : Int)
              rw [hlr, hz, hr] at this
              exact this
            have D3 : ∀ W, PQ W B T 8 σ → Calls Try.prog 16 #[.pointer (some ⟨B, 0, none⟩), .int .i64 i] W fun e w' => e = .returned (.int .i64 0) ∧ Below W.heap.size W w' := fun W h => by
              have := S.state (w := W) h (i : Int)
              rw [hz] at this
              exact this
            have D4 : ∀ W, PQ W B2 T3 8 (lowS σ) → Calls Try.prog 16 #[.pointer (some ⟨B2, 0, none⟩), .int .i64 i] W fun e w' => e = .returned (.int .i64 0) ∧ Below W.heap.size W w' := fun W h => by
              have := S.state (w := W) h (i : Int)
              rw [hlr, hz, hr] at this
              exact this
            have D5 : ∀ W, PQ W B T 8 σ → Calls Try.prog 20 #[.pointer (some ⟨B, 0, none⟩), .int .i64 i] W fun e w' => e = .returned (.int .i64 pk) ∧ Below W.heap.size W w' := fun W h => by
              have := S.picks (w := W) h hF (i : Int)
              rw [hz] at this
              exact this
            have D6 : ∀ W, PQ W B2 T3 8 (lowS σ) → Calls Try.prog 20 #[.pointer (some ⟨B2, 0, none⟩), .int .i64 i] W fun e w' => e = .returned (.int .i64 pk) ∧ Below W.heap.size W w' := fun W h => by
              have := S.picks (w := W) h hF1 (i : Int)
              rw [hlr, hz, hr] at this
              exact this
            clear hz hr hlr hids hlb hl0 hlN hsm
            go_wp2_with (first
              | (go_at_call 27; first
                  | (with_reducible refine (D1 _ k0).mono ?_); rintro e w4 ⟨rfl, c4⟩; have k4 := S.keep k0 (.of_below c4); have l4 := S.keep l0 (.of_below c4)
                  | (with_reducible refine (D2 _ l4).mono ?_); rintro e w5 ⟨rfl, c5⟩; have k5 := S.keep k4 (.of_below c5); have l5 := S.keep l4 (.of_below c5))
              | (go_at_call 16; first
                  | (with_reducible refine (D3 _ k5).mono ?_); rintro e w6 ⟨rfl, c6⟩; have k6 := S.keep k5 (.of_below c6); have l6 := S.keep l5 (.of_below c6)
                  | (with_reducible refine (D4 _ l6).mono ?_); rintro e w7 ⟨rfl, c7⟩; have k7 := S.keep k6 (.of_below c7); have l7 := S.keep l6 (.of_below c7))
              | (go_at_call 20; first
                  | (with_reducible refine (D5 _ k7).mono ?_); rintro e w8 ⟨rfl, c8⟩; have k8 := S.keep k7 (.of_below c8); have l8 := S.keep l7 (.of_below c8)
                  | (with_reducible refine (D6 _ l8).mono ?_); rintro e w9 ⟨rfl, c9⟩; have k9 := S.keep k8 (.of_below c9); have l9 := S.keep l8 (.of_below c9)))
            go_roundw
            case rel => exact ⟨i + 1, by omega, by simp, k9, l9, (((((hB0.trans (.of_below c4)).trans (.of_below c5)).trans (.of_below c6)).trans (.of_below c7)).trans (.of_below c8)).trans (.of_below c9)⟩
            case measure =>
              simp [intOf]
              omega
          · have hr : lowR nw (st, tk, ps, pk) = (st, tk, ps - nw, pk) := by unfold lowR; rw [if_neg hs]
            have hd : decide (st ≠ 0) = true := decide_eq_true hs
            have q0 : -9223372036854775808 ≤ ps - nw := by omega
            have q1 : ps - nw ≤ 9223372036854775807 := by omega
            have D1 : ∀ W, PQ W B T 8 σ → Calls Try.prog 27 #[.pointer (some ⟨B, 0, none⟩), .int .i64 i] W fun e w' => e = .returned (.tuple #[.int .i64 ps, .bool true]) ∧ Below W.heap.size W w' := fun W h => by
              have := S.pass (w := W) h hF (i : Int)
              rw [hz] at this
              dsimp only at this
              rw [hd] at this
              exact this
            have D2 : ∀ W, PQ W B2 T3 8 (lowS σ) → Calls Try.prog 27 #[.pointer (some ⟨B2, 0, none⟩), .int .i64 i] W fun e w' => e = .returned (.tuple #[.int .i64 (ps - nw), .bool true]) ∧ Below W.heap.size W w' := fun W h => by
              have := S.pass (w := W) h hF1 (i : Int)
              rw [hlr, hz, hr] at this
              dsimp only at this
              rw [hd] at this
              exact this
            have D3 : ∀ W, PQ W B T 8 σ → Calls Try.prog 16 #[.pointer (some ⟨B, 0, none⟩), .int .i64 i] W fun e w' => e = .returned (.int .i64 st) ∧ Below W.heap.size W w' := fun W h => by
              have := S.state (w := W) h (i : Int)
              rw [hz] at this
              exact this
            have D4 : ∀ W, PQ W B2 T3 8 (lowS σ) → Calls Try.prog 16 #[.pointer (some ⟨B2, 0, none⟩), .int .i64 i] W fun e w' => e = .returned (.int .i64 st) ∧ Below W.heap.size W w' := fun W h => by
              have := S.state (w := W) h (i : Int)
              rw [hlr, hz, hr] at this
              exact this
            have D5 : ∀ W, PQ W B T 8 σ → Calls Try.prog 20 #[.pointer (some ⟨B, 0, none⟩), .int .i64 i] W fun e w' => e = .returned (.int .i64 pk) ∧ Below W.heap.size W w' := fun W h => by
              have := S.picks (w := W) h hF (i : Int)
              rw [hz] at this
              exact this
            have D6 : ∀ W, PQ W B2 T3 8 (lowS σ) → Calls Try.prog 20 #[.pointer (some ⟨B2, 0, none⟩), .int .i64 i] W fun e w' => e = .returned (.int .i64 pk) ∧ Below W.heap.size W w' := fun W h => by
              have := S.picks (w := W) h hF1 (i : Int)
              rw [hlr, hz, hr] at this
              exact this
            clear hz hr hlr hids hlb hl0 hlN hsm
            go_wp2_with (first
              | (go_at_call 27; first
                  | (with_reducible refine (D1 _ k0).mono ?_); rintro e w4 ⟨rfl, c4⟩; have k4 := S.keep k0 (.of_below c4); have l4 := S.keep l0 (.of_below c4)
                  | (with_reducible refine (D2 _ l4).mono ?_); rintro e w5 ⟨rfl, c5⟩; have k5 := S.keep k4 (.of_below c5); have l5 := S.keep l4 (.of_below c5))
              | (go_at_call 16; first
                  | (with_reducible refine (D3 _ k5).mono ?_); rintro e w6 ⟨rfl, c6⟩; have k6 := S.keep k5 (.of_below c6); have l6 := S.keep l5 (.of_below c6)
                  | (with_reducible refine (D4 _ l6).mono ?_); rintro e w7 ⟨rfl, c7⟩; have k7 := S.keep k6 (.of_below c7); have l7 := S.keep l6 (.of_below c7))
              | (go_at_call 20; first
                  | (with_reducible refine (D5 _ k7).mono ?_); rintro e w8 ⟨rfl, c8⟩; have k8 := S.keep k7 (.of_below c8); have l8 := S.keep l7 (.of_below c8)
                  | (with_reducible refine (D6 _ l8).mono ?_); rintro e w9 ⟨rfl, c9⟩; have k9 := S.keep k8 (.of_below c9); have l9 := S.keep l8 (.of_below c9)))
            go_roundw
            case rel => exact ⟨i + 1, by omega, by simp, k9, l9, (((((hB0.trans (.of_below c4)).trans (.of_below c5)).trans (.of_below c6)).trans (.of_below c7)).trans (.of_below c8)).trans (.of_below c9)⟩
            case measure =>
              simp [intOf]
              omega
        · obtain rfl : i = 8 := by omega
          go_wp2_with (first
            | (go_at_call 7; refine (HL _).mono ?_; rintro e w3 ⟨rfl, b3⟩))
          go_ret
          exact ⟨rfl, (hB0.trans (.of_below b3)).to_below⟩
end
end Go.Proofs.Ytlnfabjgcecebaa.Rd
