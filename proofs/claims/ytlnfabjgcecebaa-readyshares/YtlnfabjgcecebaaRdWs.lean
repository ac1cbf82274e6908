/- The walk of ReadyShares, over any queue that tells as it must. -/
import Derived.Test.YtlnfabjgcecebaaRdY
import Derived.Test.YtlnfabjgcecebaaRdV
import Derived.Test.YtlnfabjgcecebaaRdS
namespace Go.Proofs.Ytlnfabjgcecebaa.Rd
open Go Go.RowKit Go.Proofs.Ytlnfabjgcecebaa.Str
open Go.Proofs.Ytlnfabjgcecebaa.Hp (Step Disj)

section
variable {PQ : World → Nat → List Nat → Nat → Qs → Prop}
set_option maxRecDepth 100000 in
set_option maxHeartbeats 4000000 in
theorem shares_any (S : Side PQ) (a b : Int) (a0 : 0 ≤ a) (a1 : a ≤ 65535) (b0 : 0 ≤ b) (b1 : b ≤ 65535) (sa : Option Addr) (ca : Nat) (xs : List (Int × Int × Int)) (w : World) (ha : Acts w sa xs) :
    Calls Try.prog 4 #[.int .u16 a, .int .u16 b, .slice sa xs.length ca] w fun e w' => e = .returned (.bool true) ∧ Below w.heap.size w w' := by
  have HL : ∀ W, _ := fun W => lives_any S W
  by_cases hx : 150 < xs.length
  · have hx' : (150 : Int) < (xs.length : Int) := by omega
    go_enter Try.func4, Try.ntmps4
    go_wp2_with (first
      | (go_at_call 7; refine (HL _).mono ?_; rintro e w3 ⟨rfl, b3⟩))
    go_ret
    exact ⟨rfl, b3⟩
  have hx' : ¬ (150 : Int) < (xs.length : Int) := by omega
  have C0 : Calls Try.prog 8 #[.int .i64 20] w fun e w' => ∃ B T, e = .returned (.pointer (some ⟨B, 0, none⟩)) ∧ PQ w' B T 20 ⟨0, List.replicate 20 z4⟩ ∧ Step [] w T w' := S.made 20 w (by omega) (by omega)
  have gt : goodB (1 + a) = true := by unfold goodB; simp; omega
  have gu : goodB (1 + b) = true := by unfold goodB; simp; omega
  obtain ⟨j1, j2, hR⟩ := Run.start (N := 20) (by omega) gt gu
  have f0 : Few 0 ⟨0, List.replicate 20 z4⟩ := Few.new 20
  have f1 : Few 0 (joinS ⟨0, List.replicate 20 z4⟩ 0 (1 + a)) := by obtain ⟨A, g⟩ := f0; exact ⟨A, g.join _ _⟩
  have C1 : ∀ {W B T}, PQ W B T 20 ⟨0, List.replicate 20 z4⟩ → _ := fun {W B T} h => S.join (w := W) (B := B) (T := T) h f0 (by omega) 0 (1 + a)
  have C2 : ∀ {W B T}, PQ W B T 20 (joinS ⟨0, List.replicate 20 z4⟩ 0 (1 + a)) → _ := fun {W B T} h => S.join (w := W) (B := B) (T := T) h f1 (by omega) 1 (1 + b)
  rw [j1] at C1
  rw [j2] at C2
  generalize joinS (joinS ⟨0, List.replicate 20 z4⟩ 0 (1 + a)) 1 (1 + b) = s2 at C2 hR
  generalize joinS ⟨0, List.replicate 20 z4⟩ 0 (1 + a) = s1 at C1 C2 f1
  clear f0 f1 j1 j2
  go_enter Try.func4, Try.ntmps4
  go_wp2_with (first
    | (go_at_call 8; (with_reducible refine C0.mono ?_); rintro e w1 ⟨B, T1, rfl, h1, q1⟩)
    | (go_at_call 12; first
        | (with_reducible refine (C1 h1).mono ?_); rintro e w2 ⟨rfl, T2, h2, q2⟩
        | (with_reducible refine (C2 h2).mono ?_); rintro e w3 ⟨rfl, T3, h3, q3⟩))
  have hB : Step [] w T3 w3 := (q1.trans q2).trans q3
  clear h1 h2 q1 q2 q3 C0 C1 C2
  go_loopw [43, 10, 12, 13, 14, 15] (fun v o _ _ _ _ wr => ∃ (j : Nat) (T : List Nat) (σ : Qs) (on : Int), j ≤ xs.length ∧ v = .int .i64 j ∧ o = .int .i64 on ∧ PQ wr B T 20 σ ∧ Run j (1 + a) (1 + b) on σ ∧ Step [] w T wr) (fun v _ _ _ _ _ _ => 200 - (intOf v).toNat)
  case atStart => exact ⟨0, T3, s2, -1, by omega, rfl, rfl, h3, hR, hB⟩
  case round =>
    clear h3 hR hB
    obtain ⟨j, T, σ, on, hj, rfl, rfl, hQ, hR, hB⟩ := hrel
    by_cases hlt : j < xs.length
    · obtain ⟨bb, o, rfl, x0, x1, x2⟩ := ha.below hB.below j xs[j] (by simp)
      have hlt' : (j : Int) < (xs.length : Int) := by omega
      generalize xs[j] = x at x0 x1 x2
      obtain ⟨k, t, y⟩ := x
      dsimp only at x0 x1 x2
      have hQ1 := S.keep hQ ((Hp.But.refl [] wr).alloc (.cells #[.int .i64 k, .int .i64 t, .int .i64 y] 29))
      have hB1 := hB.trans (Step.keep ((Hp.But.refl [] wr).alloc (.cells #[.int .i64 k, .int .i64 t, .int .i64 y] 29)))
      have hA1 := Ac3.new wr k t y
      go_upto_region 11 with fail
      generalize wr.alloc (.cells #[.int .i64 k, .int .i64 t, .int .i64 y] 29) = W1 at *
      obtain ⟨z0, z1, z2⟩ := hA1
      have hK : j + 1 ≤ 300 := by omega
      have hF : Few j σ := ⟨0, hR.g⟩
      have P0 : ∀ {W T' τ o'}, PQ W B T' 20 τ → Run (j + 1) (1 + a) (1 + b) o' τ → Calls Try.prog 20 #[.pointer (some ⟨B, 0, none⟩), .int .i64 0] W fun e w' => e = .returned (.int .i64 (rw τ.L 0).2.2.2) ∧ Below W.heap.size W w' := fun {W T' τ o'} h r => by
        have := S.picks (w := W) h ⟨0, r.g⟩ 0
        rw [show rwI τ 0 = rw τ.L 0 from rwI_of (k := 0) (by have := r.n; omega)] at this
        exact this
      have P1 : ∀ {W T' τ o'}, PQ W B T' 20 τ → Run (j + 1) (1 + a) (1 + b) o' τ → Calls Try.prog 20 #[.pointer (some ⟨B, 0, none⟩), .int .i64 1] W fun e w' => e = .returned (.int .i64 (rw τ.L 1).2.2.2) ∧ Below W.heap.size W w' := fun {W T' τ o'} h r => by
        have := S.picks (w := W) h ⟨0, r.g⟩ 1
        rw [show rwI τ 1 = rw τ.L 1 from rwI_of (k := 1) (by have := r.n; omega)] at this
        exact this
      have PW : ∀ {τ o'} (W : World), Run (j + 1) (1 + a) (1 + b) o' τ → Calls Try.prog 19 #[.int .i64 (rw τ.L 0).2.2.2, .int .i64 (1 + a), .int .i64 (rw τ.L 1).2.2.2, .int .i64 (1 + b), .int .i64 1] W fun e w' => e = .returned (.bool true) ∧ Below W.heap.size W w' := fun {τ o'} W r => by
        have n0 := r.g.small (by omega) 0
        have n1 := r.g.small (by omega) 1
        have := rwithin_any (rw τ.L 0).2.2.2 (1 + a) (rw τ.L 1).2.2.2 (1 + b) 1 W (by omega) (by omega) (by omega) (by omega)
        rw [r.near hK gt gu] at this
        exact this
      have PS : ∀ {W T' τ o'}, PQ W B T' 20 τ → Run (j + 1) (1 + a) (1 + b) o' τ → _ := fun {W T' τ o'} h r => S.sound (w := W) (B := B) (T := T') (N := 20) (σ := τ) (K := j + 1) h ⟨0, r.g⟩ (by omega)
      have ho : on = -1 ∨ 0 ≤ on := hR.o.imp id (fun ⟨i, e, _⟩ => by omega)
      clear x0 x1 x2 hQ hB
      go_upto_region 15 with fail
      obtain ⟨id, hid⟩ : ∃ id, id = wrap64 (2 + wrap64 ((IntKind.u64.wrap t).tmod 18)) := ⟨_, rfl⟩
      have hid2 : 2 ≤ id := by
        have hm0 : 0 ≤ IntKind.u64.wrap t := by
          rw [IntKind.wrap_u64]
          omega
        have hm1 := Int.tmod_lt_of_pos (IntKind.u64.wrap t) (show (0 : Int) < 18 by omega)
        have hm2 := Int.tmod_nonneg (18 : Int) hm0
        generalize (IntKind.u64.wrap t).tmod 18 = m at *
        have e1 : wrap64 m = m := by
          unfold wrap64
          omega
        have e2 : wrap64 (2 + m) = 2 + m := by
          unfold wrap64
          omega
        rw [hid, e1, e2]
        omega
      rw [← hid]
      clear hid
      cases hpk : pickB σ
      · have PK : ∀ {W}, PQ W B T 20 σ → Calls Try.prog 18 #[.pointer (some ⟨B, 0, none⟩)] W fun e w' => e = .returned (.tuple #[.int .i64 (pickI σ), .bool false]) ∧ ∃ T', PQ w' B T' 20 (pickS σ) ∧ Step T W T' w' := fun {W} h => by
          have := S.pick h hF (by omega)
          rw [hpk] at this
          exact this
        have RP : on = -1 → Run (j + 1) (1 + a) (1 + b) on (pickS σ) := fun e => by
          subst e
          have := hR.pick
          rw [hpk] at this
          exact this
        go_wp2_with (first
          | (go_at_call 13; (with_reducible refine (S.back hQ1 hF (by omega) on).mono ?_); rintro e w4 ⟨rfl, T4, h4, q4⟩; have R4 := (hR.back (by omega) (by omega)).up; have B4 := hB1.trans q4)
          | (go_at_call 14; (with_reducible refine (S.block hQ1 hF (by omega) on).mono ?_); rintro e w4 ⟨rfl, T4, h4, q4⟩; have R4 := (hR.block (by omega) (by omega)).up; have B4 := hB1.trans q4)
          | (go_at_call 12; (with_reducible refine (S.join hQ1 hF (by omega) id y).mono ?_); rintro e w4 ⟨rfl, T4, h4, q4⟩; have R4 := (hR.join hid2 y).up; have B4 := hB1.trans q4)
          | (go_at_call 15; (with_reducible refine (S.wake hQ1 hF (by omega) id).mono ?_); rintro e w4 ⟨rfl, T4, h4, q4⟩; have R4 := (hR.wake (by omega) hid2).up; have B4 := hB1.trans q4)
          | (go_at_call 16; (with_reducible refine (S.state hQ1 id).mono ?_); rintro e w3 ⟨rfl, d3⟩; have hQ3 := S.keep hQ1 (.of_below d3); have hB3 := hB1.trans (Step.keep (.of_below d3)))
          | (go_at_call 17; (with_reducible refine (S.drop hQ3 hF (by omega) id).mono ?_); rintro e w4 ⟨rfl, T4, h4, q4⟩; have R4 := (hR.drop hid2 (by have hh := ‹((rwI σ id).1 != 2) = true›; simpa using hh)).up; have B4 := hB3.trans q4)
          | (go_at_call 18; first
              | (with_reducible refine (PK hQ1).mono ?_); rintro e w4 ⟨rfl, T4, h4, q4⟩; have R4 := RP (by omega); have B4 := hB1.trans q4
              | (with_reducible refine (PK hQ3).mono ?_); rintro e w4 ⟨rfl, T4, h4, q4⟩; have R4 := RP (by omega); have B4 := hB3.trans q4)
          | (go_at_call 20; first
              | (with_reducible refine (P0 h4 R4).mono ?_); rintro e w5 ⟨rfl, c5⟩; have h5 := S.keep h4 (.of_below c5)
              | (with_reducible refine (P1 h5 R4).mono ?_); rintro e w6 ⟨rfl, c6⟩; have h6 := S.keep h5 (.of_below c6))
          | (go_at_call 19; (with_reducible refine (PW _ R4).mono ?_); rintro e w7 ⟨rfl, c7⟩; have h7 := S.keep h6 (.of_below c7))
          | (go_at_call 21; (with_reducible refine (PS h7 R4).mono ?_); rintro e w8 ⟨rfl, c8⟩; have h8 := S.keep h7 (.of_below c8)))
        all_goals
          go_roundw
          case rel => exact ⟨j + 1, T4, _, _, by omega, by simp, rfl, h8, R4, (((B4.trans (Step.keep (.of_below c5))).trans (Step.keep (.of_below c6))).trans (Step.keep (.of_below c7))).trans (Step.keep (.of_below c8))⟩
          case measure =>
            simp [intOf]
            omega
      · have PK : ∀ {W}, PQ W B T 20 σ → Calls Try.prog 18 #[.pointer (some ⟨B, 0, none⟩)] W fun e w' => e = .returned (.tuple #[.int .i64 (pickI σ), .bool true]) ∧ ∃ T', PQ w' B T' 20 (pickS σ) ∧ Step T W T' w' := fun {W} h => by
          have := S.pick h hF (by omega)
          rw [hpk] at this
          exact this
        have RP : on = -1 → Run (j + 1) (1 + a) (1 + b) (pickI σ) (pickS σ) := fun e => by
          subst e
          have := hR.pick
          rw [hpk] at this
          exact this
        go_wp2_with (first
          | (go_at_call 13; (with_reducible refine (S.back hQ1 hF (by omega) on).mono ?_); rintro e w4 ⟨rfl, T4, h4, q4⟩; have R4 := (hR.back (by omega) (by omega)).up; have B4 := hB1.trans q4)
          | (go_at_call 14; (with_reducible refine (S.block hQ1 hF (by omega) on).mono ?_); rintro e w4 ⟨rfl, T4, h4, q4⟩; have R4 := (hR.block (by omega) (by omega)).up; have B4 := hB1.trans q4)
          | (go_at_call 12; (with_reducible refine (S.join hQ1 hF (by omega) id y).mono ?_); rintro e w4 ⟨rfl, T4, h4, q4⟩; have R4 := (hR.join hid2 y).up; have B4 := hB1.trans q4)
          | (go_at_call 15; (with_reducible refine (S.wake hQ1 hF (by omega) id).mono ?_); rintro e w4 ⟨rfl, T4, h4, q4⟩; have R4 := (hR.wake (by omega) hid2).up; have B4 := hB1.trans q4)
          | (go_at_call 16; (with_reducible refine (S.state hQ1 id).mono ?_); rintro e w3 ⟨rfl, d3⟩; have hQ3 := S.keep hQ1 (.of_below d3); have hB3 := hB1.trans (Step.keep (.of_below d3)))
          | (go_at_call 17; (with_reducible refine (S.drop hQ3 hF (by omega) id).mono ?_); rintro e w4 ⟨rfl, T4, h4, q4⟩; have R4 := (hR.drop hid2 (by have hh := ‹((rwI σ id).1 != 2) = true›; simpa using hh)).up; have B4 := hB3.trans q4)
          | (go_at_call 18; first
              | (with_reducible refine (PK hQ1).mono ?_); rintro e w4 ⟨rfl, T4, h4, q4⟩; have R4 := RP (by omega); have B4 := hB1.trans q4
              | (with_reducible refine (PK hQ3).mono ?_); rintro e w4 ⟨rfl, T4, h4, q4⟩; have R4 := RP (by omega); have B4 := hB3.trans q4)
          | (go_at_call 20; first
              | (with_reducible refine (P0 h4 R4).mono ?_); rintro e w5 ⟨rfl, c5⟩; have h5 := S.keep h4 (.of_below c5)
              | (with_reducible refine (P1 h5 R4).mono ?_); rintro e w6 ⟨rfl, c6⟩; have h6 := S.keep h5 (.of_below c6))
          | (go_at_call 19; (with_reducible refine (PW _ R4).mono ?_); rintro e w7 ⟨rfl, c7⟩; have h7 := S.keep h6 (.of_below c7))
          | (go_at_call 21; (with_reducible refine (PS h7 R4).mono ?_); rintro e w8 ⟨rfl, c8⟩; have h8 := S.keep h7 (.of_below c8)))
        all_goals
          go_roundw
          case rel => exact ⟨j + 1, T4, _, _, by omega, by simp, rfl, h8, R4, (((B4.trans (Step.keep (.of_below c5))).trans (Step.keep (.of_below c6))).trans (Step.keep (.of_below c7))).trans (Step.keep (.of_below c8))⟩
          case measure =>
            simp [intOf]
            omega
    · obtain rfl : j = xs.length := by omega
      go_wp2_with (first
        | (go_at_call 7; refine (HL _).mono ?_; rintro e w3 ⟨rfl, b3⟩))
      go_ret
      exact ⟨rfl, (hB.but.trans (.of_below b3)).to_below⟩
end
end Go.Proofs.Ytlnfabjgcecebaa.Rd
