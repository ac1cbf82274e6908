/- The walk of LockConds, over any locks that tell as they must. -/
import Derived.Test.YtimoleijdfoahaaLoV
namespace Go.Proofs.Ytimoleijdfoahaa.Lo
open Go Go.RowKit Go.Proofs.Ytimoleijdfoahaa.Bs
open Go.Proofs.Ytimoleijdfoahaa.Lk (inN inN_of inN_out ints ints_iv ints_len iv)

/-- The first t threads wait for condition 0. -/
def cA : Nat → St
  | 0 => new 2 12
  | t + 1 => waitS (lockS (cA t) 1 (t : Int)) 0 1 (t : Int)
/-- All k were told, t have had lock 1. -/
def cB (k : Nat) : Nat → St
  | 0 => castS (cA k) 0
  | t + 1 => unlS (cB k t) 1 (t : Int)
theorem cA_at : ∀ t, t < 12 → lockB (cA t) 1 (t : Int) = true ∧ lockE (cA t) 1 (t : Int) = 0 ∧ waitV (lockS (cA t) 1 (t : Int)) 0 1 (t : Int) = -1 ∧ waitE (lockS (cA t) 1 (t : Int)) 0 1 (t : Int) = 0 := by decide +kernel
theorem cA_end : ∀ k, k < 13 → owX (cA k) 1 = -1 ∧ (sX (cA k) 0).length = k ∧ sigE (cA k) 0 = 0 := by decide +kernel
theorem cA_cast : ∀ k, k < 13 → 1 ≤ k → castL (cA k) 0 = [0] ∧ sX (cB k 0) 0 = [] ∧ owX (cB k k) 1 = -1 := by decide +kernel
theorem cB_at : ∀ k, k < 13 → ∀ t, t < k → owX (cB k t) 1 = (t : Int) := by decide +kernel
theorem cA_ok : ∀ t, Ok 2 12 (cA t)
  | 0 => Ok.new (by omega) (by omega) (by omega) (by omega)
  | t + 1 => ((cA_ok t).lock 1 (t : Int)).wait 0 1 (t : Int)
theorem cB_ok (k : Nat) : ∀ t, Ok 2 12 (cB k t)
  | 0 => (cA_ok k).casts 0
  | t + 1 => (cB_ok k t).unl 1 (t : Int)
section
variable {PL : World → Nat → List Nat → Nat → Nat → St → Prop}
theorem rd_one (X : World) : Rd (X.alloc (.cells #[.int .i64 0] 3)) (.slice (some ⟨X.heap.size, 0, none⟩) 1 1) [0] := ⟨_, 1, rfl, fun j x hx => by
  cases j with
  | zero =>
    simp at hx
    subst hx
    exact ⟨_, rfl, by simp [go_sem]⟩
  | succ j => simp at hx⟩
set_option maxRecDepth 100000 in
set_option maxHeartbeats 8000000 in
theorem conds_law (S : Side PL) (a : Int) (a0 : 0 ≤ a) (a1 : a ≤ 255) (w : World) :
    Calls Try.prog 6 #[.int .u8 a] w fun e w' => e = .returned (.bool true) ∧ Below w.heap.size w w' := by
  have HL : ∀ W, _ := fun W => lives_any S W
  have C0 : Calls Try.prog 9 #[.int .i64 2, .int .i64 12] w fun e w' => ∃ B Q, e = .returned (.pointer (some ⟨B, 0, none⟩)) ∧ PL w' B Q 2 12 (cA 0) ∧ Step [] w Q w' := S.made 2 12 w (by omega) (by omega) (by omega) (by omega)
  obtain ⟨k, hk1, hk2, hk⟩ : ∃ k : Nat, 1 ≤ k ∧ k < 13 ∧ 1 + a % 12 = (k : Int) := ⟨(1 + a % 12).toNat, by omega, by omega, by omega⟩
  have hm0 : 0 ≤ a % 12 := by omega
  have hm1 : a % 12 ≤ 11 := by omega
  obtain ⟨E1, E2, E3⟩ := cA_end k hk2
  obtain ⟨D1, D2, D3⟩ := cA_cast k hk2 hk1
  go_enter Try.func6, Try.ntmps6
  go_wp2_with (first
    | (go_at_call 9; (with_reducible refine C0.mono ?_); rintro e w1 ⟨B, Q1, rfl, h1, s1⟩))
  generalize a % 12 = m at *
  go_loopw [5, 6, 7, 8, 9] (fun v _ _ _ _ wr => ∃ (t : Nat) (Q : List Nat), t ≤ k ∧ v = .int .i64 t ∧ PL wr B Q 2 12 (cA t) ∧ Step [] w Q wr) (fun v _ _ _ _ _ => 13 - (intOf v).toNat)
  case atStart => exact ⟨0, Q1, by omega, rfl, h1, s1⟩
  case round =>
    clear h1 s1 C0
    obtain ⟨t, Q, ht, rfl, h, hs⟩ := hrel
    by_cases hlt : t < k
    · have hlt' : (t : Int) < 1 + m := by omega
      obtain ⟨F1, F2, F3, F4⟩ := cA_at t (by omega)
      have C1 := S.lock h (cA_ok t) 1 (t : Int)
      have C2 : ∀ X Q, PL X B Q 2 12 (lockS (cA t) 1 (t : Int)) → _ := fun X Q h => S.wait (w := X) (Q := Q) h ((cA_ok t).lock 1 (t : Int)) 0 1 (t : Int)
      rw [F1, F2] at C1
      rw [F3, F4] at C2
      have hE : Hid (waitS (lockS (cA t) 1 (t : Int)) 0 1 (t : Int) = cA (t + 1)) := rfl
      generalize waitS (lockS (cA t) 1 (t : Int)) 0 1 (t : Int) = s2 at *
      generalize lockS (cA t) 1 (t : Int) = s1 at *
      clear F1 F2 F3 F4 E1 E2 E3 D1 D2 D3
      go_wp2_with (first
        | (go_at_call 17; (with_reducible refine C1.mono ?_); rintro e w2 ⟨rfl, Q2, h2, q2⟩)
        | (go_at_call 19; (with_reducible refine (C2 _ _ h2).mono ?_); rintro e w3 ⟨rfl, Q3, h3, q3⟩))
      go_roundw
      case rel => exact ⟨t + 1, Q3, by omega, by simp, by rw [← hE.out]; exact h3, (hs.trans q2).trans q3⟩
      case measure =>
        simp [intOf]
        omega
    obtain rfl : t = k := by omega
    have hge : ¬ (t : Int) < 1 + m := by omega
    have C3 : ∀ X Q, PL X B Q 2 12 (cA t) → _ := fun X Q h => S.owner (w := X) (Q := Q) h (cA_ok t) 1
    have C4 : ∀ X Q, PL X B Q 2 12 (cA t) → _ := fun X Q h => S.sleepers (w := X) (Q := Q) h (cA_ok t) 0
    have C5 : ∀ X Q, PL X B Q 2 12 (cA t) → _ := fun X Q h => S.cast (w := X) (Q := Q) h (cA_ok t) 0
    have C6 : ∀ X Q, PL X B Q 2 12 (cB t 0) → _ := fun X Q h => S.sleepers (w := X) (Q := Q) h (cB_ok t 0) 0
    rw [E1] at C3
    rw [D1, E3] at C5
    rw [D2] at C6
    have ht : Hid (((ints (sX (cA t) 0)).length : Int) = 1 + m) := by show _ = _; rw [ints_len, E2]; omega
    have hcb : Hid (castS (cA t) 0 = cB t 0) := rfl
    generalize castS (cA t) 0 = s3 at *
    generalize ints (sX (cA t) 0) = L0 at *
    clear E1 E2 E3 D1 D2
    have hne : (((L0.length : Nat) : Int) != 1 + m) = false := by rw [ht.out]; simp
    have K1 : ∀ X Q, PL X B Q 2 12 s3 → PL X B Q 2 12 (cB t 0) := fun X Q h => hcb.out ▸ h
    go_wp2_with (first
      | (go_at_call 13; (with_reducible refine (C3 _ _ h).mono ?_); rintro e w4 ⟨rfl, k4⟩; have h4 := S.keep h (.of_below k4))
      | (go_at_call 15; first
        | ((with_reducible refine (C4 _ _ h4).mono ?_); rintro e w5 ⟨v5, rfl, r5, k5⟩; obtain ⟨x5, y5, rfl⟩ := own_shape r5; have h5 := S.keep h4 (.of_below k5))
        | ((with_reducible refine (C6 _ _ h8).mono ?_); rintro e w9 ⟨v9, rfl, r9, k9⟩; obtain ⟨x9, y9, rfl⟩ := own_shape r9; rw [show (ints ([] : List Nat)).length = 0 from rfl]; have h9 := S.keep h8 (.of_below k9)))
      | (go_at_call 20; (with_reducible refine (C5 _ _ h5).mono ?_); rintro e w6 ⟨v6, rfl, r6, Q6, h6, s6, n6⟩; obtain ⟨x6, y6, rfl⟩ := own_shape r6; have h7 := S.keep (K1 _ _ h6) ((But.refl [] w6).alloc (.cells #[.int .i64 0] 3)); have IN : Calls Try.prog 21 #[.slice x6 1 y6, .slice (some ⟨w6.heap.size, 0, none⟩) 1 1] (w6.alloc (.cells #[.int .i64 0] 3)) fun e w' => e = .returned (.bool true) ∧ Below (w6.alloc (.cells #[.int .i64 0] 3)).heap.size (w6.alloc (.cells #[.int .i64 0] 3)) w' := ints_two (by simp) (r6.rd.below ((Below.refl _ w6).alloc (Nat.le_refl _) (.cells #[.int .i64 0] 3))) (rd_one w6))
      | (go_at_call 21; (with_reducible refine IN.mono ?_); rintro e w8 ⟨rfl, k8⟩; have h8 := S.keep h7 (.of_below k8)))
    have sW : Step [] w Q6 w9 := (((((hs.trans (Step.keep (.of_below k4))).trans (Step.keep (.of_below k5))).trans s6).trans (Step.keep ((But.refl [] w6).alloc (.cells #[.int .i64 0] 3)))).trans (Step.keep (.of_below k8))).trans (Step.keep (.of_below k9))
    have hB := cB_at t hk2
    clear C3 C4 C5 C6 K1 h h4 h5 h6 h7 h8 hcb ht hne
    go_loopw [12] (fun v wr => ∃ (i : Nat) (Q : List Nat), i ≤ t ∧ v = .int .i64 i ∧ PL wr B Q 2 12 (cB t i) ∧ Step [] w Q wr) (fun v _ => 13 - (intOf v).toNat)
    case atStart => exact ⟨0, Q6, by omega, rfl, h9, sW⟩
    case round =>
      clear h9 sW
      obtain ⟨i, Q, hi, rfl, h, hs⟩ := hrel
      by_cases hlt : i < t
      · have hlt' : (i : Int) < (t : Int) := by omega
        have C1 := S.owner h (cB_ok t i) 1
        have C2 : ∀ X Q, PL X B Q 2 12 (cB t i) → _ := fun X Q h => S.unlock (w := X) (Q := Q) h (cB_ok t i) 1 (i : Int)
        rw [hB i hlt] at C1
        have hE : Hid (unlS (cB t i) 1 (i : Int) = cB t (i + 1)) := rfl
        have hne : (((i : Nat) : Int) != (i : Int)) = false := by simp
        generalize unlS (cB t i) 1 (i : Int) = s2 at *
        generalize unlV (cB t i) 1 (i : Int) = z1 at *
        generalize unlE (cB t i) 1 (i : Int) = z2 at *
        clear hB D3
        go_wp2_with (first
          | (go_at_call 13; (with_reducible refine C1.mono ?_); rintro e w4 ⟨rfl, k4⟩; have h4 := S.keep h (.of_below k4))
          | (go_at_call 18; (with_reducible refine (C2 _ _ h4).mono ?_); rintro e w5 ⟨rfl, Q5, h5, s5⟩))
        go_roundw
        case rel => exact ⟨i + 1, Q5, by omega, by simp, by rw [← hE.out]; exact h5, (hs.trans (Step.keep (.of_below k4))).trans s5⟩
        case measure =>
          simp [intOf]
          omega
      obtain rfl : i = t := by omega
      have C1 := S.owner h (cB_ok i i) 1
      rw [D3] at C1
      go_wp2_with (first
        | (go_at_call 13; (with_reducible refine C1.mono ?_); rintro e w4 ⟨rfl, k4⟩)
        | (go_at_call 8; refine (HL _).mono ?_; rintro e w5 ⟨rfl, k5⟩))
      go_ret
      exact ⟨rfl, ((hs.but.trans (.of_below k4)).trans (.of_below k5)).to_below⟩
end
end Go.Proofs.Ytimoleijdfoahaa.Lo
