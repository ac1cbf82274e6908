/- The reference's Good and Whole. -/
import Derived.Test.YtllnpkijojpccaaDoorRFns
namespace Go.Proofs.YtllnpkijojpccaaDoor
open Go.RowKit

set_option maxRecDepth 100000 in
set_option maxHeartbeats 2000000 in
theorem rgood_any {ps : List Ins} {a : Option Addr} (c : Nat) (i : Int) {w : World} (hp : PV w a ps) :
    Calls Tryd.prog 28 #[.slice a ps.length c, .int .i64 i] w fun e w' => e = .returned (.bool (goodAt ps i)) ∧ Below w.heap.size w w' := by
  by_cases h0 : i < 0
  · have e : goodAt ps i = false := by unfold goodAt; simp; omega
    rw [e]
    clear e
    generalize ps.length = n
    go_enter Tryd.func28, Tryd.ntmps28
    go_wp2_with fail
    go_ret
    exact ⟨rfl, Below.refl _ _⟩
  · obtain ⟨k, rfl⟩ : ∃ k : Nat, i = (k : Int) := ⟨i.toNat, by omega⟩
    by_cases hk : k < ps.length
    · rw [goodAt_nat hk]
      obtain ⟨b, o, rfl, c0, c1, c2, c3⟩ := hp k hk
      have hlt : (k : Int) < (ps.length : Int) := by omega
      have h1 : (0 : Int) ≤ (k : Int) := by omega
      clear hp h0 hk
      generalize ins ps k = x at *
      have HS := rshape_any x.1
      cases ho : opB x.1 with
      | false =>
        have e : goodB ps.length x = false := by unfold goodB; rw [ho]; rfl
        rw [e]
        rw [shL_out ho] at HS
        clear ho e
        obtain ⟨x0, x1, x2, x3⟩ := x
        dsimp only at c0 c1 c2 c3 HS
        generalize ps.length = n at *
        go_enter Tryd.func28, Tryd.ntmps28
        go_wp2_with (go_at_call 32; (with_reducible refine (HS _).mono ?_); rintro e w' ⟨rfl, rfl⟩)
        go_ret
        exact ⟨rfl, (Below.refl _ w).alloc (Nat.le_refl _) _⟩
      | true =>
        obtain ⟨l0, l1, l2, hc⟩ := shL_three ho
        have s0 : sc x.1 0 = l0.toNat := by unfold sc; rw [hc]; rfl
        have s1 : sc x.1 1 = l1.toNat := by unfold sc; rw [hc]; rfl
        have s2 : sc x.1 2 = l2.toNat := by unfold sc; rw [hc]; rfl
        rw [hc] at HS
        have e : goodB ps.length x = (mayB l0.toNat x.2.1 ps.length && (mayB l1.toNat x.2.2.1 ps.length && mayB l2.toNat x.2.2.2 ps.length)) := by
          unfold goodB
          rw [ho, s0, s1, s2]
          rfl
        rw [e]
        have M0 := rmay_any l0.toNat x.2.1 ps.length
        have M1 := rmay_any l1.toNat x.2.2.1 ps.length
        have M2 := rmay_any l2.toNat x.2.2.2 ps.length
        clear s0 s1 s2 hc ho e
        obtain ⟨x0, x1, x2, x3⟩ := x
        dsimp only at c0 c1 c2 c3 HS M0 M1 M2 ⊢
        generalize mayB l0.toNat x1 ps.length = m0 at *
        generalize mayB l1.toNat x2 ps.length = m1 at *
        generalize mayB l2.toNat x3 ps.length = m2 at *
        generalize ps.length = n at *
        have hb1 : Below w.heap.size w (w.alloc (.cells #[.int .i64 x0, .int .i64 x1, .int .i64 x2, .int .i64 x3] 51)) := (Below.refl _ w).alloc (Nat.le_refl _) _
        have d1 : (w.alloc (.cells #[.int .i64 x0, .int .i64 x1, .int .i64 x2, .int .i64 x3] 51)).cell? ⟨w.heap.size, 1, none⟩ = some (.int .i64 x1) := by simp [go_sem]
        have d2 : (w.alloc (.cells #[.int .i64 x0, .int .i64 x1, .int .i64 x2, .int .i64 x3] 51)).cell? ⟨w.heap.size, 2, none⟩ = some (.int .i64 x2) := by simp [go_sem]
        have d3 : (w.alloc (.cells #[.int .i64 x0, .int .i64 x1, .int .i64 x2, .int .i64 x3] 51)).cell? ⟨w.heap.size, 3, none⟩ = some (.int .i64 x3) := by simp [go_sem]
        go_enter Tryd.func28, Tryd.ntmps28
        go_wp2_with (go_at_call 32; (with_reducible refine (HS _).mono ?_); rintro e w' ⟨rfl, rfl⟩)
        generalize (w.alloc (.cells #[.int .i64 x0, .int .i64 x1, .int .i64 x2, .int .i64 x3] 51)) = W1 at *
        have i0 : ∀ h, (⟨#[l0, l1, l2]⟩ : ByteArray)[0]'h = l0 := fun _ => rfl
        have i1 : ∀ h, (⟨#[l0, l1, l2]⟩ : ByteArray)[1]'h = l1 := fun _ => rfl
        have i2 : ∀ h, (⟨#[l0, l1, l2]⟩ : ByteArray)[2]'h = l2 := fun _ => rfl
        cases m0 with
        | false =>
          go_quiet ((go_at_call 33; with_reducible exact Calls.quiet_of_same (M0 _)))
          go_wp2_with fail
          go_ret
          exact ⟨rfl, below_drewN hb1 _⟩
        | true =>
          cases m1 with
          | false =>
            go_quiet ((go_at_call 33; first | with_reducible exact Calls.quiet_of_same (M0 _) | with_reducible exact Calls.quiet_of_same (M1 _)))
            go_wp2_with fail
            go_ret
            exact ⟨rfl, below_drewN hb1 _⟩
          | true =>
            go_quiet ((go_at_call 33; first | with_reducible exact Calls.quiet_of_same (M0 _) | with_reducible exact Calls.quiet_of_same (M1 _) | with_reducible exact Calls.quiet_of_same (M2 _)))
            go_wp2_with fail
            go_ret
            exact ⟨rfl, below_drewN hb1 _⟩
    · have e : goodAt ps (k : Int) = false := by
        unfold goodAt
        have h1 : ¬ ((k : Int) < (ps.length : Int)) := by omega
        simp [h1]
      rw [e]
      have h1 : (0 : Int) ≤ (k : Int) := by omega
      have h2 : (ps.length : Int) ≤ (k : Int) := by omega
      clear e hp h0 hk
      generalize (k : Int) = z at *
      generalize ps.length = n at *
      go_enter Tryd.func28, Tryd.ntmps28
      go_wp2_with fail
      go_ret
      exact ⟨rfl, Below.refl _ _⟩

set_option maxHeartbeats 1000000 in
theorem rwhole_any {ps : List Ins} {a : Option Addr} (c : Nat) {w : World} (hp : PV w a ps) :
    Calls Tryd.prog 19 #[.slice a ps.length c] w fun e w' => e = .returned (.bool (wholeB ps)) ∧ Below w.heap.size w w' := by
  by_cases h64 : ps.length ≤ 64
  · have HG : ∀ (i : Nat) W, Below w.heap.size w W → Calls Tryd.prog 28 #[.slice a ps.length c, .int .i64 (i : Int)] W fun e w' => e = .returned (.bool (goodAt ps i)) ∧ Below W.heap.size W w' := fun i W hb => rgood_any c i (hp.below hb)
    obtain ⟨W, hW⟩ : ∃ W, wholeB ps = W := ⟨_, rfl⟩
    have HW : Hid (wholeB ps = W) := Hid.mk hW
    rw [hW]
    clear hW
    have h6 : (ps.length : Int) ≤ 64 := by omega
    go_enter Tryd.func19, Tryd.ntmps19
    go_wp2_with fail
    go_loopw [9, 3] (fun p _ wr => ∃ i : Nat, i ≤ ps.length ∧ p = .int .i64 i ∧ Hid (∀ j, j < i → goodB ps.length (ins ps j) = true) ∧ Below w.heap.size w wr) (fun p _ _ => 64 - (intOf p).toNat)
    case atStart => exact ⟨0, by omega, rfl, Hid.mk (fun j hj => by omega), Below.refl _ _⟩
    case round =>
      obtain ⟨i, hi, rfl, hall, hb⟩ := hrel
      by_cases hlt : i < ps.length
      · have HC := HG i wr hb
        rw [goodAt_nat hlt] at HC
        have hlt' : (i : Int) < (ps.length : Int) := by omega
        cases hg : goodB ps.length (ins ps i) with
        | true =>
          rw [hg] at HC
          have hall2 := Hid.mk (all_good hall.out hg)
          clear hg hall
          go_wp2_with (go_at_call 28; (with_reducible refine HC.mono ?_); rintro e w' ⟨rfl, hb1⟩)
          go_roundw
          case rel => exact ⟨i + 1, by omega, by simp, hall2, hb.trans (hb1.mono hb.size)⟩
          case measure =>
            simp [intOf]
            omega
        | false =>
          rw [hg] at HC
          have hw := whole_not hlt hg
          rw [HW.out] at hw
          subst hw
          clear hg hall
          go_wp2_with (go_at_call 28; (with_reducible refine HC.mono ?_); rintro e w' ⟨rfl, hb1⟩)
          go_ret
          exact ⟨rfl, hb.trans (hb1.mono hb.size)⟩
      · obtain rfl : i = ps.length := by omega
        have hw : wholeB ps = true := wholeB_iff.2 ⟨h64, hall.out⟩
        rw [HW.out] at hw
        subst hw
        clear hall
        go_wp2_with fail
        go_ret
        exact ⟨rfl, hb⟩
  · have hw : wholeB ps = false := by
      unfold wholeB
      simp [h64]
    rw [hw]
    have h6 : (64 : Int) < (ps.length : Int) := by omega
    go_enter Tryd.func19, Tryd.ntmps19
    go_wp2_with fail
    go_ret
    exact ⟨rfl, Below.refl _ _⟩

end Go.Proofs.YtllnpkijojpccaaDoor
