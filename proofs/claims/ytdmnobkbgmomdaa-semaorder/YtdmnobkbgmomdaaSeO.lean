/- The walk of SemaOrder, over any semaphores that tell as they must. -/
import Derived.Test.YtdmnobkbgmomdaaSeV
namespace Go.Proofs.Ytdmnobkbgmomdaa.Se
open Go Go.RowKit Go.Proofs.Ytdmnobkbgmomdaa.Bs
open Go.Proofs.Ytdmnobkbgmomdaa.Lk (inN inN_of inN_out ints ints_iv ints_len iv)

/-- The first t threads wait for semaphore 1. -/
def cA : Nat → St
  | 0 => new 2 12
  | t + 1 => downS (cA t) 1 (t : Int)
/-- Of k that waited d was dropped, and those of the first t that are left have gone on. -/
def cB (k d : Nat) : Nat → St
  | 0 => dropS (cA k) (d : Int)
  | t + 1 => if t = d then cB k d t else upS (cB k d t) 1
theorem cA_at : ∀ t, t < 12 → downB (cA t) 1 (t : Int) = false ∧ downE (cA t) 1 (t : Int) = 0 := by decide +kernel
theorem cB_drop : ∀ k, k < 13 → ∀ d, d < k → dropB (cA k) (d : Int) = true ∧ dropB (cB k d 0) (d : Int) = false := by decide +kernel
theorem cB_at : ∀ k, k < 13 → ∀ d, d < k → ∀ t, t < k → t ≠ d → upR (cB k d t) 1 = (t : Int) ∧ upE (cB k d t) 1 = 0 := by decide +kernel
theorem cB_end : ∀ k, k < 13 → ∀ d, d < k → upR (cB k d k) 1 = -1 ∧ upE (cB k d k) 1 = 0 ∧ valX (upS (cB k d k) 1) 1 = 1 := by decide +kernel
theorem cA_ok : ∀ t, Ok 2 12 (cA t)
  | 0 => Ok.new (by omega) (by omega) (by omega) (by omega)
  | t + 1 => (cA_ok t).down 1 (t : Int)
theorem cB_ok (k d : Nat) : ∀ t, Ok 2 12 (cB k d t)
  | 0 => (cA_ok k).drop (d : Int)
  | t + 1 => by
    unfold cB
    split
    · exact cB_ok k d t
    · exact (cB_ok k d t).up 1
theorem drop_no {σ : St} {t : Int} (h : dropB σ t = false) : dropS σ t = σ := by
  unfold dropS
  unfold dropB at h
  rw [if_neg (by simpa using h)]
section
variable {PL : World → Nat → List Nat → Nat → Nat → St → Prop}
set_option maxRecDepth 100000 in
set_option maxHeartbeats 8000000 in
theorem order_law (S : Side PL) (a b : Int) (a0 : 0 ≤ a) (a1 : a ≤ 255) (b0 : 0 ≤ b) (b1 : b ≤ 255) (w : World) :
    Calls Try.prog 4 #[.int .u8 a, .int .u8 b] w fun e w' => e = .returned (.bool true) ∧ Below w.heap.size w w' := by
  have HL : ∀ W, _ := fun W => lives_any S W
  have C0 : Calls Try.prog 6 #[.int .i64 2, .int .i64 12] w fun e w' => ∃ B Q, e = .returned (.pointer (some ⟨B, 0, none⟩)) ∧ PL w' B Q 2 12 (cA 0) ∧ Step [] w Q w' := S.made 2 12 w (by omega) (by omega) (by omega) (by omega)
  obtain ⟨k, hk1, hk2, hk⟩ : ∃ k : Nat, 1 ≤ k ∧ k < 13 ∧ 1 + a % 12 = (k : Int) := ⟨(1 + a % 12).toNat, by omega, by omega, by omega⟩
  go_enter Try.func4, Try.ntmps4
  go_wp2_with (first
    | (go_at_call 6; (with_reducible refine C0.mono ?_); rintro e w1 ⟨B, Q1, rfl, h1, s1⟩))
  generalize a % 12 = m at *
  go_loopw [7, 8, 9] (fun v _ _ wr => ∃ (t : Nat) (Q : List Nat), t ≤ k ∧ v = .int .i64 t ∧ PL wr B Q 2 12 (cA t) ∧ Step [] w Q wr) (fun v _ _ _ => 13 - (intOf v).toNat)
  case atStart => exact ⟨0, Q1, by omega, rfl, h1, s1⟩
  case round =>
    clear h1 s1 C0 hk
    obtain ⟨t, Q, ht, rfl, h, hs⟩ := hrel
    by_cases hlt : t < k
    · have hlt' : (t : Int) < (k : Int) := by omega
      obtain ⟨F1, F2⟩ := cA_at t (by omega)
      have C1 := S.down h (cA_ok t) 1 (t : Int)
      rw [F1, F2] at C1
      have hE : Hid (downS (cA t) 1 (t : Int) = cA (t + 1)) := rfl
      generalize downS (cA t) 1 (t : Int) = s1 at *
      clear F1 F2
      go_wp2_with (first
        | (go_at_call 9; (with_reducible refine C1.mono ?_); rintro e w2 ⟨rfl, Q2, h2, q2⟩))
      go_roundw
      case rel => exact ⟨t + 1, Q2, by omega, by simp, by rw [← hE.out]; exact h2, hs.trans q2⟩
      case measure =>
        simp [intOf]
        omega
    obtain rfl : t = k := by omega
    have hge : ¬ (t : Int) < (t : Int) := by omega
    have ht0 : ¬ (t : Int) = 0 := by omega
    go_upto_region 10 with fail
    obtain ⟨d, hd⟩ : ∃ d : Nat, b % (t : Int) = (d : Int) := ⟨(b % (t : Int)).toNat, by have := Int.emod_nonneg b ht0; omega⟩
    have hdt : d < t := by have := Int.emod_lt_of_pos b (show (0 : Int) < (t : Int) by omega); omega
    rw [hd]
    obtain ⟨D1, D2⟩ := cB_drop t hk2 d hdt
    obtain ⟨E1, E2, E3⟩ := cB_end t hk2 d hdt
    have HT := cB_at t hk2 d hdt
    have C1 := S.drop h (cA_ok t) (d : Int)
    have C2 : ∀ X Q, PL X B Q 2 12 (cB t d 0) → _ := fun X Q h => S.drop (w := X) (Q := Q) h (cB_ok t d 0) (d : Int)
    rw [D1, show dropS (cA t) (d : Int) = cB t d 0 from rfl] at C1
    rw [drop_no D2, D2] at C2
    clear D1 D2 hd
    go_wp2_with (first
      | (go_at_call 12; first
        | ((with_reducible refine C1.mono ?_); rintro e w2 ⟨rfl, Q2, h2, q2⟩; clear C1)
        | ((with_reducible refine (C2 _ _ h2).mono ?_); rintro e w3 ⟨rfl, Q3, h3, q3⟩)))
    have s3 := (hs.trans q2).trans q3
    clear C2 h h2 q2 q3 hs
    go_loopw [11, 12, 13] (fun v _ _ wr => ∃ (i : Nat) (Q : List Nat), i ≤ t ∧ v = .int .i64 i ∧ PL wr B Q 2 12 (cB t d i) ∧ Step [] w Q wr) (fun v _ _ _ => 13 - (intOf v).toNat)
    case atStart => exact ⟨0, Q3, by omega, rfl, h3, s3⟩
    case round =>
      clear h3 s3
      obtain ⟨i, Q, hi, rfl, h, hs⟩ := hrel
      by_cases hlt : i < t
      · have hlt' : (i : Int) < (t : Int) := by omega
        by_cases hid : i = d
        · have hE : Hid (cB t d i = cB t d (i + 1)) := show _ = _ by rw [show cB t d (i + 1) = if i = d then cB t d i else upS (cB t d i) 1 from rfl, if_pos hid]
          have hq : ((i : Int) == (d : Int)) = true := by simp [hid]
          clear HT E1 E2 E3 hid
          go_wp2_with fail
          go_roundw
          case rel => exact ⟨i + 1, Q, by omega, by simp, by rw [← hE.out]; exact h, hs⟩
          case measure =>
            simp [intOf]
            omega
        · have hE : Hid (upS (cB t d i) 1 = cB t d (i + 1)) := show _ = _ by rw [show cB t d (i + 1) = if i = d then cB t d i else upS (cB t d i) 1 from rfl, if_neg hid]
          have hq : ((i : Int) == (d : Int)) = false := by simpa using fun e => hid (by omega)
          obtain ⟨F1, F2⟩ := HT i hlt hid
          have C1 := S.up h (cB_ok t d i) 1
          rw [F1, F2] at C1
          generalize upS (cB t d i) 1 = s1 at *
          clear HT E1 E2 E3 hid F1 F2
          go_wp2_with (first
            | (go_at_call 8; (with_reducible refine C1.mono ?_); rintro e w2 ⟨rfl, Q2, h2, q2⟩))
          go_roundw
          case rel => exact ⟨i + 1, Q2, by omega, by simp, by rw [← hE.out]; exact h2, hs.trans q2⟩
          case measure =>
            simp [intOf]
            omega
      obtain rfl : i = t := by omega
      have hge2 : ¬ (i : Int) < (i : Int) := by omega
      have C1 := S.up h (cB_ok i d i) 1
      have hok := (cB_ok i d i).up 1
      rw [E1, E2] at C1
      have CV := fun X Q (h : PL X B Q 2 12 (upS (cB i d i) 1)) => S.value (w := X) (Q := Q) h hok 1
      rw [E3] at CV
      generalize upS (cB i d i) 1 = s1 at *
      clear HT E1 E2 E3
      go_wp2_with (first
        | (go_at_call 8; (with_reducible refine C1.mono ?_); rintro e w2 ⟨rfl, Q2, h2, q2⟩)
        | (go_at_call 10; (with_reducible refine (CV _ _ h2).mono ?_); rintro e w3 ⟨rfl, b3⟩)
        | (go_at_call 7; refine (HL _).mono ?_; rintro e w4 ⟨rfl, b4⟩))
      go_ret
      exact ⟨rfl, (((hs.trans q2).but.trans (.of_below b3)).trans (.of_below b4)).to_below⟩
end
end Go.Proofs.Ytdmnobkbgmomdaa.Se
