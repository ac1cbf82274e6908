/- The walk of ReadyCopies, over any queue that tells as it must. -/
import Derived.Test.YtlnfabjgcecebaaGreatRdY
import Derived.Test.YtlnfabjgcecebaaGreatRdV
namespace Go.Proofs.YtlnfabjgcecebaaGreat.Rd
open Go Go.RowKit Go.Proofs.YtlnfabjgcecebaaGreat.Str
open Go.Proofs.YtlnfabjgcecebaaGreat.Hp (Step Disj)

section
variable {PQ : World → Nat → List Nat → Nat → Qs → Prop}
theorem Few.more {K L : Nat} {σ : Qs} (h : Few K σ) (hL : K ≤ L) : Few L σ := by
  induction hL with
  | refl => exact h
  | step _ ih =>
    obtain ⟨A, g⟩ := ih
    exact ⟨A, g.up⟩
set_option maxRecDepth 100000 in
set_option maxHeartbeats 4000000 in
theorem copies_any (S : Side PQ) (sa : Option Addr) (ca : Nat) (xs : List (Int × Int × Int)) (sb : Option Addr) (cb : Nat) (ys : List (Int × Int × Int)) (w : World) (ha : Acts w sa xs) (hb : Acts w sb ys) :
    Calls Tryz.prog 3 #[.slice sa xs.length ca, .slice sb ys.length cb] w fun e w' => e = .returned (.bool true) ∧ Below w.heap.size w w' := by
  have HL : ∀ W, _ := fun W => lives_any S W
  have C0 : Calls Tryz.prog 4 #[.int .i64 6] w fun e w' => ∃ B T, e = .returned (.pointer (some ⟨B, 0, none⟩)) ∧ PQ w' B T 6 ⟨0, List.replicate 6 z4⟩ ∧ Step [] w T w' := S.made 6 w (by omega) (by omega)
  have C1 : ∀ W, Calls Tryz.prog 5 #[.int .i64 6] W fun e w' => ∃ M, e = .returned (.pointer (some ⟨M, 0, none⟩)) ∧ ∃ G, RQ w' M G 6 ⟨0, List.replicate 6 z4⟩ ∧ Below W.heap.size W w' ∧ W.heap.size ≤ M ∧ W.heap.size ≤ G := fun W => new_some 6 (by omega) (by omega) W
  by_cases hx : 100 < xs.length
  · have hx' : (100 : Int) < (xs.length : Int) := by omega
    go_enter Tryz.func3, Tryz.ntmps3
    go_wp2_with (first
      | (go_at_call 4; (with_reducible refine C0.mono ?_); rintro e w1 ⟨B, T1, rfl, h1, s1⟩)
      | (go_at_call 5; (with_reducible refine (C1 _).mono ?_); rintro e w2 ⟨M, rfl, G, h2, b2, hM, hG⟩)
      | (go_at_call 6; refine (HL _).mono ?_; rintro e w3 ⟨rfl, b3⟩))
    go_ret
    exact ⟨rfl, ((s1.but.trans (.of_below b2)).trans (.of_below b3)).to_below⟩
  by_cases hy : 100 < ys.length
  · have hx' : ¬ (100 : Int) < (xs.length : Int) := by omega
    have hy' : (100 : Int) < (ys.length : Int) := by omega
    go_enter Tryz.func3, Tryz.ntmps3
    go_wp2_with (first
      | (go_at_call 4; (with_reducible refine C0.mono ?_); rintro e w1 ⟨B, T1, rfl, h1, s1⟩)
      | (go_at_call 5; (with_reducible refine (C1 _).mono ?_); rintro e w2 ⟨M, rfl, G, h2, b2, hM, hG⟩)
      | (go_at_call 6; refine (HL _).mono ?_; rintro e w3 ⟨rfl, b3⟩))
    go_ret
    exact ⟨rfl, ((s1.but.trans (.of_below b2)).trans (.of_below b3)).to_below⟩
  have hx' : ¬ (100 : Int) < (xs.length : Int) := by omega
  have hy' : ¬ (100 : Int) < (ys.length : Int) := by omega
  go_enter Tryz.func3, Tryz.ntmps3
  go_wp2_with (first
    | (go_at_call 4; (with_reducible refine C0.mono ?_); rintro e w1 ⟨B, T1, rfl, h1, s1⟩)
    | (go_at_call 5; (with_reducible refine (C1 _).mono ?_); rintro e w2 ⟨M, rfl, G, h2, b2, hM, hG⟩; have hP := Pr.new S h1 s1 h2 b2 hM hG))
  clear h1 s1 h2 b2 hM hG C0 C1
  go_loopw [35, 8] (fun v _ wr => ∃ (j : Nat) (T : List Nat) (σ : Qs), j ≤ xs.length ∧ v = .int .i64 j ∧ Pr PQ w wr B T M G 6 σ σ ∧ Few j σ) (fun v _ _ => 200 - (intOf v).toNat)
  case atStart => exact ⟨0, T1, _, by omega, rfl, hP, Few.new 6⟩
  case round =>
    clear hP
    obtain ⟨j, T, σ, hj, rfl, hP, hF⟩ := hrel
    by_cases hlt : j < xs.length
    · obtain ⟨b, o, rfl, x0, x1, x2⟩ := ha.below hP.s.below j xs[j] (by simp)
      have hlt' : (j : Int) < (xs.length : Int) := by omega
      generalize xs[j] = x at x0 x1 x2
      obtain ⟨k, t, y⟩ := x
      dsimp only at x0 x1 x2
      have hP1 := hP.keep S ((Hp.But.refl [] wr).alloc (.cells #[.int .i64 k, .int .i64 t, .int .i64 y] 29))
      have hA1 := Ac3.new wr k t y
      go_wp2_with fail
      generalize wr.alloc (.cells #[.int .i64 k, .int .i64 t, .int .i64 y] 29) = W1 at *
      have AC : ∀ W, Pr PQ w W B T M G 6 σ σ → _ := fun W h => act_any S (w := W) h hF (by omega) k t y
      have hF2 := hF.act (by omega) k t y
      generalize actS σ k t y = σ2 at AC hF2
      clear x0 x1 x2 hP
      go_wp2_with (first
        | (go_at_call 7; refine (AC _ hP1).mono ?_; rintro e w2 ⟨rfl, T2, p2, s2⟩))
      go_roundw
      case rel => exact ⟨j + 1, T2, σ2, by omega, by simp, p2, hF2⟩
      case measure =>
        simp [intOf]
        omega
    · obtain rfl : j = xs.length := by omega
      obtain ⟨wp, ewp⟩ : ∃ wp, wp = wr := ⟨_, rfl⟩
      subst ewp
      have hF' := hF.more (L := 100) (by omega)
      clear hF
      go_wp2_with (first
        | (go_at_call 8; refine (S.copy hP.a).mono ?_; rintro e wc ⟨B2, T2, rfl, hc, sc⟩; have hPc := hP.keep S sc.but)
        | (go_at_call 9; refine (copy_any hPc.r).mono ?_; rintro e wd ⟨M2, rfl, G2, hd, bd, hM2, hG2⟩; have hQ := Pr.new (W0 := wp) S hc sc hd bd hM2 hG2))
      clear hc sc hPc hd bd hM2 hG2
      go_loopw [50, 12] (fun v _ wq => ∃ (j : Nat) (T2 : List Nat) (τ : Qs), j ≤ ys.length ∧ v = .int .i64 j ∧ Pr PQ wp wq B2 T2 M2 G2 6 τ τ ∧ Few (100 + j) τ) (fun v _ _ => 200 - (intOf v).toNat)
      case atStart => exact ⟨0, T2, σ, by omega, rfl, hQ, hF'⟩
      case round =>
        clear hQ
        obtain ⟨wq, ewq⟩ : ∃ wq, wq = wr := ⟨_, rfl⟩
        subst ewq
        obtain ⟨j, T2, τ, hj, rfl, hQ, hF⟩ := hrel
        by_cases hlt : j < ys.length
        · obtain ⟨b, o, rfl, x0, x1, x2⟩ := hb.below ((Hp.But.of_below (S := []) hP.s.below).trans (.of_below hQ.s.below)).to_below j ys[j] (by simp)
          have hlt' : (j : Int) < (ys.length : Int) := by omega
          generalize ys[j] = x at x0 x1 x2
          obtain ⟨k, t, y⟩ := x
          dsimp only at x0 x1 x2
          have hP1 := hQ.keep S ((Hp.But.refl [] wq).alloc (.cells #[.int .i64 k, .int .i64 t, .int .i64 y] 29))
          have hA1 := Ac3.new wq k t y
          go_wp2_with fail
          generalize wq.alloc (.cells #[.int .i64 k, .int .i64 t, .int .i64 y] 29) = W1 at *
          have AC : ∀ W, Pr PQ wp W B2 T2 M2 G2 6 τ τ → _ := fun W h => act_any S (w := W) h hF (by omega) k t y
          have hF2 := hF.act (by omega) k t y
          generalize actS τ k t y = σ2 at AC hF2
          clear x0 x1 x2 hQ
          go_wp2_with (first
            | (go_at_call 7; refine (AC _ hP1).mono ?_; rintro e w2 ⟨rfl, T3, p2, s2⟩))
          go_roundw
          case rel => exact ⟨j + 1, T3, σ2, by omega, by simp, p2, hF2⟩
          case measure =>
            simp [intOf]
            omega
        · obtain rfl : j = ys.length := by omega
          have hP' := hP.keep S (.of_below hQ.s.below)
          have A1 : ∀ W (i : Int), Pr PQ w W B T M G 6 σ σ → _ := fun W i h => alike_any S (w := W) h hF' (by omega) i
          have A2 : ∀ W (i : Int), Pr PQ wp W B2 T2 M2 G2 6 τ τ → _ := fun W i h => alike_any S (w := W) h hF (by omega) i
          clear hP
          go_wp2_with fail
          go_loopw [13] (fun v wz => ∃ i : Nat, i ≤ 6 ∧ v = .int .i64 i ∧ Pr PQ w wz B T M G 6 σ σ ∧ Pr PQ wp wz B2 T2 M2 G2 6 τ τ) (fun v _ => 6 - (intOf v).toNat)
          case atStart => exact ⟨0, by omega, rfl, hP', hQ⟩
          case round =>
            clear hP' hQ
            obtain ⟨i, hi, rfl, hP, hQ⟩ := hrel
            by_cases hlt : i < 6
            · have hlt' : (i : Int) < 6 := by omega
              go_wp2_with (first
                | (go_at_call 10; first
                    | (with_reducible refine (A1 _ _ hP).mono ?_); rintro e w4 ⟨rfl, b4⟩; have hP4 := hP.keep S (.of_below b4); have hQ4 := hQ.keep S (.of_below b4)
                    | (with_reducible refine (A2 _ _ hQ4).mono ?_); rintro e w5 ⟨rfl, b5⟩; have hP5 := hP4.keep S (.of_below b5); have hQ5 := hQ4.keep S (.of_below b5)))
              go_roundw
              case rel => exact ⟨i + 1, by omega, by simp, hP5, hQ5⟩
              case measure =>
                simp [intOf]
                omega
            · obtain rfl : i = 6 := by omega
              go_wp2_with (first
                | (go_at_call 6; refine (HL _).mono ?_; rintro e w3 ⟨rfl, b3⟩))
              go_ret
              exact ⟨rfl, ((Hp.But.of_below (S := []) hP.s.below).trans (.of_below b3)).to_below⟩
end
end Go.Proofs.YtlnfabjgcecebaaGreat.Rd
