/- Numbers with bounds: numTo, count, intIn. -/
import Derived.Test.YteiidkojofaamaaDoorCGet
namespace Go.Proofs.YteiidkojofaamaaDoor
open Go.RowKit

theorem xor_not {x : Int} (h1 : -9223372036854775808 ≤ x) (h2 : x ≤ 9223372036854775807) : bits BinOp.xor IntKind.i64 (-1) x = -x - 1 := by
  show IntKind.i64.wrap ((BitVec.ofInt 64 (-1) ^^^ BitVec.ofInt 64 x).toNat : Int) = _
  have e : BitVec.ofInt 64 (-1) = BitVec.allOnes 64 := by decide
  rw [e, BitVec.allOnes_xor, BitVec.toNat_not, BitVec.toNat_ofInt, IntKind.wrap_i64]
  omega

theorem numG_lt {bs : List UInt8} (h : (numG 0 0 bs).1 = 0) : (numG 0 0 bs).2.1 < 2 ^ 64 := by
  have e : numG 0 0 bs = (0, (numG 0 0 bs).2.1, (numG 0 0 bs).2.2) := Prod.ext h rfl
  exact (numG_back e).2

/-- What num tells, the good way and the other one. -/
theorem num_ok {B : Nat} {bs : List UInt8} {w : World} (h : SR w B 0 bs) {n : Nat} {t : List UInt8} (hg : numG 0 0 bs = (0, n, t)) :
    Calls Tryd.prog 85 #[.pointer (some ⟨B, 0, none⟩)] w fun e w' => e = .returned (.int .u64 (n : Int)) ∧ But [B] w w' ∧ SR w' B 0 t := by
  refine (num_any B bs w h).mono ?_
  rintro e w' ⟨hb, h⟩
  rw [hg] at h
  rcases h with ⟨_, rfl, hs⟩ | ⟨h, _⟩
  · exact ⟨rfl, hb, hs⟩
  · exact absurd rfl h
theorem num_no {B : Nat} {bs : List UInt8} {w : World} (h : SR w B 0 bs) (hg : (numG 0 0 bs).1 ≠ 0) :
    Calls Tryd.prog 85 #[.pointer (some ⟨B, 0, none⟩)] w fun e w' => e = .panicked [flt (numG 0 0 bs).1] ∧ But [B] w w' ∧ ∃ t, SR w' B 0 t := by
  refine (num_any B bs w h).mono ?_
  rintro e w' ⟨hb, h⟩
  rcases h with ⟨h, _⟩ | ⟨_, rfl, hs⟩
  · exact absurd h hg
  · exact ⟨rfl, hb, hs⟩

set_option maxHeartbeats 400000 in
theorem numTo_any (B most : Nat) (bs : List UInt8) (w : World) (h : SR w B 0 bs) :
    Calls Tryd.prog 73 #[.pointer (some ⟨B, 0, none⟩), .int .u64 (most : Int)] w fun e w' => Told B w w' e (.int .u64 ((numT most bs).2.1 : Int)) (numT most bs).1 (numT most bs).2.2 := by
  by_cases h0 : (numG 0 0 bs).1 = 0
  · have hl := numG_lt h0
    have e : numG 0 0 bs = (0, (numG 0 0 bs).2.1, (numG 0 0 bs).2.2) := Prod.ext h0 rfl
    generalize (numG 0 0 bs).2.1 = n at e hl
    generalize (numG 0 0 bs).2.2 = t at e
    have hc := num_ok h e
    by_cases hg : most < n
    · have e1 : numT most bs = (8, 0, []) := by simp [numT, e, hg]
      rw [e1]
      clear e1 e h0
      have k : (most : Int) < n := by omega
      go_enter Tryd.func73, Tryd.ntmps73
      go_wp2_with (go_at_call 85; refine hc.mono ?_; rintro e w' ⟨rfl, hb1, hs1⟩)
      exact ⟨rfl, hb1, .inr ⟨by simp, rfl, t, hs1⟩⟩
    · have e1 : numT most bs = (0, n, t) := by simp [numT, e, hg]
      rw [e1]
      clear e1 e h0
      have k : ¬ (most : Int) < n := by omega
      go_enter Tryd.func73, Tryd.ntmps73
      go_wp2_with (go_at_call 85; refine hc.mono ?_; rintro e w' ⟨rfl, hb1, hs1⟩)
      go_ret
      exact ⟨hb1, .inl ⟨rfl, rfl, hs1⟩⟩
  · have hc := num_no h h0
    have e1 : numT most bs = numG 0 0 bs := by simp [numT, h0]
    rw [e1]
    clear e1
    go_enter Tryd.func73, Tryd.ntmps73
    go_wp2_with (go_at_call 85; refine hc.mono ?_; rintro e w' ⟨rfl, hb1, hs1⟩)
    exact ⟨rfl, hb1, .inr ⟨h0, rfl, hs1⟩⟩

set_option maxHeartbeats 1000000 in
theorem intIn_any (B : Nat) (least most : Int) (bs : List UInt8) (w : World) (h : SR w B 0 bs) :
    Calls Tryd.prog 83 #[.pointer (some ⟨B, 0, none⟩), .int .i64 least, .int .i64 most] w fun e w' => Told B w w' e (.int .i64 (intT least most bs).2.1) (intT least most bs).1 (intT least most bs).2.2 := by
  by_cases h0 : (numG 0 0 bs).1 = 0
  · have hl := numG_lt h0
    have e : numG 0 0 bs = (0, (numG 0 0 bs).2.1, (numG 0 0 bs).2.2) := Prod.ext h0 rfl
    generalize (numG 0 0 bs).2.1 = n at e hl
    generalize (numG 0 0 bs).2.2 = t at e
    have hc := num_ok h e
    have hin := unzig_in hl
    have e1 : intT least most bs = if unzig n < least ∨ most < unzig n then (8, 0, []) else (0, unzig n, t) := by simp [intT, e]
    rw [e1]
    clear e1 e h0
    have k0 : (0 : Int) ≤ n := by omega
    have k1 : (n : Int) < 18446744073709551616 := by omega
    by_cases h2 : n % 2 = 1
    · have e2 : unzig n = -((n : Int) / 2) - 1 := by unfold unzig; rw [if_pos h2]; omega
      have k2 : (n : Int) % 2 = 1 := by omega
      rw [e2] at hin ⊢
      clear e2 hl h2
      generalize (n : Int) = z at hc hin k0 k1 k2 ⊢
      have hxn := xor_not (x := z / 2) (by omega) (by omega)
      have hsg : IntKind.i64.signed = true := rfl
      by_cases hg : -(z / 2) - 1 < least ∨ most < -(z / 2) - 1
      · rw [if_pos hg]
        rcases Classical.em (-(z / 2) - 1 < least) with g | g
        all_goals
          try have g' : most < -(z / 2) - 1 := by omega
          clear hg
          go_enter Tryd.func83, Tryd.ntmps83
          go_wp2_with (go_at_call 85; refine hc.mono ?_; rintro e w' ⟨rfl, hb1, hs1⟩)
          exact ⟨rfl, hb1, .inr ⟨by simp, rfl, t, hs1⟩⟩
      · rw [if_neg hg]
        have g1 : ¬ -(z / 2) - 1 < least := by omega
        have g2 : ¬ most < -(z / 2) - 1 := by omega
        clear hg
        go_enter Tryd.func83, Tryd.ntmps83
        go_wp2_with (go_at_call 85; refine hc.mono ?_; rintro e w' ⟨rfl, hb1, hs1⟩)
        go_ret
        exact ⟨hb1, .inl ⟨rfl, rfl, hs1⟩⟩
    · have e2 : unzig n = (n : Int) / 2 := by unfold unzig; rw [if_neg h2]; omega
      have k2 : ¬ (n : Int) % 2 = 1 := by omega
      rw [e2] at hin ⊢
      clear e2 hl h2
      generalize (n : Int) = z at hc hin k0 k1 k2 ⊢
      by_cases hg : z / 2 < least ∨ most < z / 2
      · rw [if_pos hg]
        rcases Classical.em (z / 2 < least) with g | g
        all_goals
          try have g' : most < z / 2 := by omega
          clear hg
          go_enter Tryd.func83, Tryd.ntmps83
          go_wp2_with (go_at_call 85; refine hc.mono ?_; rintro e w' ⟨rfl, hb1, hs1⟩)
          exact ⟨rfl, hb1, .inr ⟨by simp, rfl, t, hs1⟩⟩
      · rw [if_neg hg]
        have g1 : ¬ z / 2 < least := by omega
        have g2 : ¬ most < z / 2 := by omega
        clear hg
        go_enter Tryd.func83, Tryd.ntmps83
        go_wp2_with (go_at_call 85; refine hc.mono ?_; rintro e w' ⟨rfl, hb1, hs1⟩)
        go_ret
        exact ⟨hb1, .inl ⟨rfl, rfl, hs1⟩⟩
  · have hc := num_no h h0
    have e1 : intT least most bs = ((numG 0 0 bs).1, 0, []) := by simp [intT, h0]
    rw [e1]
    clear e1
    go_enter Tryd.func83, Tryd.ntmps83
    go_wp2_with (go_at_call 85; refine hc.mono ?_; rintro e w' ⟨rfl, hb1, hs1⟩)
    exact ⟨rfl, hb1, .inr ⟨h0, rfl, hs1⟩⟩

end Go.Proofs.YteiidkojofaamaaDoor
