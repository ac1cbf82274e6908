/- The next number: num, numTo, count, intIn. -/
import Derived.Test.YteiidkojofaamaaDoorCCut
import Derived.Laws.Bits64b
namespace Go.Proofs.YteiidkojofaamaaDoor
open Go.RowKit

theorem or_up {acc sh m : Nat} {z : Int} (ha : acc < 2 ^ sh) (hz : z % 128 = (m : Int)) (hm : m * 2 ^ sh < 18446744073709551616) (hs : sh ≤ 63) :
    bits BinOp.or IntKind.u64 (acc : Int) (IntKind.u64.wrap (z % 128 * 2 ^ sh)) = ((acc + m * 2 ^ sh : Nat) : Int) := by
  have hp : 2 ^ sh ≤ 2 ^ 63 := Nat.pow_le_pow_right (by omega) hs
  have e1 : z % 128 * 2 ^ sh = ((m * 2 ^ sh : Nat) : Int) := by rw [hz]; simp
  have e2 : IntKind.u64.wrap ((m * 2 ^ sh : Nat) : Int) = ((m * 2 ^ sh : Nat) : Int) := by
    rw [IntKind.wrap_u64]
    exact Int.emod_eq_of_lt (by omega) (by omega)
  rw [e1, e2, bits_or_u64_nat _ _ (by omega) hm, Nat.mul_comm, Nat.or_comm, ← Nat.two_pow_add_eq_or_of_lt ha]
  omega

/-- What one byte more makes of a number. -/
theorem up_lt {acc m sh : Nat} (ha : acc < 2 ^ sh) (hm : m < 128) : acc + m * 2 ^ sh < 2 ^ (sh + 7) := by
  have : 2 ^ (sh + 7) = 2 ^ sh * 128 := Nat.pow_add 2 sh 7
  rw [this]
  have : m * 2 ^ sh ≤ 127 * 2 ^ sh := Nat.mul_le_mul_right _ (by omega)
  omega
theorem up_fits {m i : Nat} (hi : i ≤ 9) (hm : m < 128) (h9 : i = 9 → m ≤ 1) : m * 2 ^ (7 * i) < 18446744073709551616 := by
  by_cases h : i = 9
  · subst h
    have := h9 rfl
    have : m * 2 ^ (7 * 9) ≤ 1 * 2 ^ (7 * 9) := Nat.mul_le_mul_right _ this
    omega
  · have h1 : 2 ^ (7 * i) ≤ 2 ^ 56 := Nat.pow_le_pow_right (by omega) (by omega)
    have h2 : m * 2 ^ (7 * i) ≤ 127 * 2 ^ (7 * i) := Nat.mul_le_mul_right _ (by omega)
    omega

set_option maxHeartbeats 2000000 in
theorem num_any (B : Nat) (bs : List UInt8) (w : World) (h : SR w B 0 bs) :
    Calls Tryd.prog 85 #[.pointer (some ⟨B, 0, none⟩)] w fun e w' => Told B w w' e (.int .u64 ((numG 0 0 bs).2.1 : Int)) (numG 0 0 bs).1 (numG 0 0 bs).2.2 := by
  generalize hR : (numG 0 0 bs).2.1 = R1
  generalize hR0 : (numG 0 0 bs).1 = R0
  generalize hR2 : (numG 0 0 bs).2.2 = R2
  have HR : Hid (numG 0 0 bs = (R0, R1, R2)) := Hid.mk (by rw [← hR, ← hR0, ← hR2])
  clear hR hR0 hR2
  go_enter Tryd.func85, Tryd.ntmps85
  go_wp2_with fail
  go_loopw [3, 4, 5] (fun n s _ wr => ∃ (i acc sh : Nat) (rest : List UInt8), Hid (sh = 7 * i) ∧ i ≤ 9 ∧ n = .int .u64 (acc : Nat) ∧ s = .int .i64 (sh : Int) ∧ Hid (acc < 2 ^ sh) ∧ Hid (numG sh acc rest = (R0, R1, R2)) ∧ But [B] w wr ∧ SR wr B 0 rest) (fun _ s _ _ => 70 - (intOf s).toNat)
  case atStart => exact ⟨0, 0, 0, bs, Hid.mk rfl, by omega, rfl, rfl, Hid.mk (by omega), HR, But.refl _ _, h⟩
  case round =>
    obtain ⟨i, acc, sh, rest, Hsh, hi, rfl, rfl, hacc, HG, hb, hs⟩ := hrel
    have k0 : (0 : Int) ≤ (sh : Int) := by omega
    have k1 : (sh : Int) ≤ 63 := by have := Hsh.out; omega
    cases rest with
    | nil =>
      have hc := next_short B _ hs
      go_wp2_with (go_at_call 80; refine hc.mono ?_; rintro e w' ⟨rfl, rfl⟩)
      have hq := HG.out
      rw [numG_nil] at hq
      cases hq
      exact ⟨rfl, hb, .inr ⟨by simp, rfl, [], hs⟩⟩
    | cons c t =>
      have hc := next_ok B c t _ hs
      have hc2 : c.toNat < 256 := c.toNat_lt
      cases hbad : badB sh c with
      | true =>
        have hq := HG.out
        rw [numG_bad hbad] at hq
        cases hq
        unfold badB at hbad
        simp at hbad
        have fin : ∀ w', But [B] wr w' → SR w' B 0 t → bodyPost Tryd.prog Tryd.f85 (fun e w' => Told B w w' e (Value.int IntKind.u64 ((0 : Nat) : Int)) 10 []) (.panic [{ v := .iface 98 (.int .i64 10), recovered := false }]) ⟨#[], []⟩ w' :=
          fun w' hb1 hs1 => ⟨rfl, hb.trans hb1, .inr ⟨by simp, rfl, t, hs1⟩⟩
        rcases hbad with ⟨h1, h2⟩ | ⟨h1, h2⟩
        · have e0 : (c.toNat : Int) = 0 := by omega
          have k4 : (0 : Int) < (sh : Int) := by omega
          rw [e0] at hc
          clear e0 h2 hc2
          go_wp2_with (go_at_call 80; refine hc.mono ?_; rintro e w' ⟨rfl, hb1, hs1⟩)
          exact fin _ hb1 hs1
        · have k2 : (1 : Int) < (c.toNat : Int) := by omega
          have k3 : (c.toNat : Int) < 256 := by omega
          have e63 : (sh : Int) = 63 := by omega
          clear h2 hc2
          generalize (c.toNat : Int) = z at hc k2 k3
          rw [e63]
          clear e63 k0 k1 h1
          go_wp2_with (go_at_call 80; refine hc.mono ?_; rintro e w' ⟨rfl, hb1, hs1⟩)
          exact fin _ hb1 hs1
      | false =>
        obtain ⟨b0, b1⟩ := badB_out hbad
        have hm : ((c.toNat : Int)) % 128 = ((c.toNat % 128 : Nat) : Int) := by omega
        have hor := or_up (acc := acc) (sh := sh) hacc.out hm (by rw [Hsh.out]; exact up_fits hi (by omega) (fun e => by have := b1 (by rw [Hsh.out]; omega); omega)) (by omega)
        obtain ⟨z, hz⟩ : ∃ z : Int, (c.toNat : Int) = z := ⟨_, rfl⟩
        rw [hz] at hor hc
        have k2 : z < 256 := by omega
        have k3 : 0 ≤ z := by omega
        by_cases hlt : c.toNat < 128
        · have hq := HG.out
          rw [numG_last hbad hlt] at hq
          simp only [Prod.mk.injEq] at hq
          obtain ⟨rfl, rfl, rfl⟩ := hq
          have hmm : c.toNat % 128 = c.toNat := by omega
          rw [hmm] at hor
          have fin : ∀ (a : Act) w', a.defers = [] → (results Tryd.f85 a.tmps).run Tryd.prog w' = .ok (.int .u64 (bits BinOp.or IntKind.u64 (acc : Int) (IntKind.u64.wrap (z % 128 * 2 ^ sh)))) w' → But [B] wr w' → SR w' B 0 t → bodyPost Tryd.prog Tryd.f85 (fun e w' => Told B w w' e (Value.int IntKind.u64 ((acc + c.toNat * 2 ^ sh : Nat) : Int)) 0 t) .ret a w' :=
            fun a w' hd hr hb1 hs1 => ⟨hd, _, hr, hb.trans hb1, .inl ⟨rfl, by rw [hor], hs1⟩⟩
          have k4 : z < 128 := by omega
          have B0 := Hid.mk b0
          have B1 := Hid.mk b1
          have HZ := Hid.mk hz
          clear hor hm hmm hbad b0 b1 HG HR hz hlt hc2
          by_cases hs0 : sh = 0
          · have k5 : (sh : Int) ≤ 0 := by omega
            have k7 : ¬ (sh : Int) = 63 := by omega
            clear hs0
            go_wp2_with (go_at_call 80; refine hc.mono ?_; rintro e w' ⟨rfl, hb1, hs1⟩)
            exact fin _ _ rfl (by simp [results, Tryd.results85, go_sem]) hb1 hs1
          · have k5 : (0 : Int) < sh := by omega
            have k6 : 0 < z := by have := B0.out (by omega); have := HZ.out; omega
            by_cases h63 : sh = 63
            · have k7 : z ≤ 1 := by have := B1.out h63; have := HZ.out; omega
              obtain rfl : z = 1 := by omega
              subst h63
              clear k0 k1 k2 k3 k4 k5 k6 k7 hs0
              go_wp2_with (go_at_call 80; refine hc.mono ?_; rintro e w' ⟨rfl, hb1, hs1⟩)
              exact fin _ _ rfl (by simp [results, Tryd.results85, go_sem, IntKind.wrap_u64]) hb1 hs1
            · have k7 : ¬ (sh : Int) = 63 := by omega
              clear h63 hs0
              go_wp2_with (go_at_call 80; refine hc.mono ?_; rintro e w' ⟨rfl, hb1, hs1⟩)
              exact fin _ _ rfl (by simp [results, Tryd.results85, go_sem]) hb1 hs1
        · have hq := HG.out
          rw [numG_more hbad hlt] at hq
          have HQ := Hid.mk hq
          have HO := Hid.mk hor
          have HA : Hid (acc + c.toNat % 128 * 2 ^ sh < 2 ^ (sh + 7)) := Hid.mk (up_lt hacc.out (by omega))
          have h63 : ¬ sh = 63 := fun e => by have := b1 e; omega
          have hi8 : i ≤ 8 := by have := Hsh.out; omega
          have k4 : ¬ z < 128 := by omega
          have k6 : 0 < z := by omega
          have k7 : ¬ (sh : Int) = 63 := by omega
          generalize acc + c.toNat % 128 * 2 ^ sh = Y at HQ HO HA
          clear hor hm hbad b0 b1 HG HR hz hlt hc2 hq h63
          by_cases hs0 : sh = 0
          · have k5 : (sh : Int) ≤ 0 := by omega
            clear hs0
            go_wp2_with (go_at_call 80; refine hc.mono ?_; rintro e w' ⟨rfl, hb1, hs1⟩)
            go_roundw
            case rel => exact ⟨i + 1, Y, sh + 7, t, Hid.mk (by have := Hsh.out; omega), by omega, by rw [HO.out], by simp, HA, HQ, hb.trans hb1, hs1⟩
            case measure =>
              simp [intOf]
              omega
          · have k5 : (0 : Int) < sh := by omega
            clear hs0
            go_wp2_with (go_at_call 80; refine hc.mono ?_; rintro e w' ⟨rfl, hb1, hs1⟩)
            go_roundw
            case rel => exact ⟨i + 1, Y, sh + 7, t, Hid.mk (by have := Hsh.out; omega), by omega, by rw [HO.out], by simp, HA, HQ, hb.trans hb1, hs1⟩
            case measure =>
              simp [intOf]
              omega

end Go.Proofs.YteiidkojofaamaaDoor
