/- The calls of the reference's source: Flag, Text, End. -/
import Derived.Test.YtdndpncbagjidaaRefC
namespace Go.Proofs.Ytdndpncbagjidaa
open Go.RowKit

theorem RR.same {w : World} {lo M : Nat} {bs : List UInt8} (h : RR w lo M 0 bs) {a : Option Addr} {c : Nat} (h0 : w.cell? ⟨M, 0, none⟩ = some (.slice a bs.length c)) : RR (w.setCell ⟨M, 0, none⟩ (.slice a bs.length c)) lo M 0 bs := by
  obtain ⟨a1, c1, hb, hy, hlo, hG⟩ := h
  have e : a1 = a ∧ c1 = c := by
    simp [World.cell?, hb] at h0
    exact h0
  obtain ⟨rfl, rfl⟩ := e
  exact ⟨a1, c1, heap_setCell_same w M 0 _ 45 _ hb, hy.but (S := [M]) ((But.refl [M] w).set (by simp) _) (by simp), hlo, hG⟩
theorem Byts.leI {w : World} {B c : Nat} {a : Option Addr} {bs : List UInt8} (h : Byts w B a c bs) : (bs.length : Int) ≤ c := by
  have := h.len
  omega

section
variable {lo M : Nat} {w : World}
set_option maxHeartbeats 1000000 in
theorem rs43 (st : Nat × List UInt8) (h : RQ w lo M st) :
    Calls Try.prog 43 #[.pointer (some ⟨M, 0, none⟩)] w fun e w' => GotR lo M w (fun (b : Bool) v _ => v = .bool b) flagT false st e w' := by
  obtain ⟨x, bs⟩ := st
  have hc := rs45 (x, bs) h
  replace hc : Calls Try.prog 45 #[.pointer (some ⟨M, 0, none⟩)] w fun e w' => e = .returned (.int .u8 ((getS byteT 0 (x, bs)).1.toNat : Int)) ∧ RQ w' lo M (getS byteT 0 (x, bs)).2 ∧ But [M] w w' := hc.mono (fun e w' ⟨h1, h2, v, h3, h4⟩ => ⟨by rw [h3, h4], h2, h1⟩)
  by_cases hx : x = 0
  · subst hx
    cases bs with
    | nil =>
      have HE : Hid (getS flagT false (0, []) = (false, 9, [])) := Hid.mk rfl
      have e : getS byteT 0 (0, []) = (0, 9, []) := rfl
      rw [e] at hc
      simp only at hc
      have e0 : (((0 : UInt8).toNat : Nat) : Int) = 0 := rfl
      rw [e0] at hc
      clear e e0
      go_enter Try.func43, Try.ntmps43
      go_wp2_with (first | (go_at_call 45; refine hc.mono ?_; rintro e w' ⟨rfl, hq1, hb1⟩))
      go_ret
      exact ⟨hb1, by rw [HE.out]; exact hq1, _, rfl, by rw [HE.out]; rfl⟩
    | cons b t =>
      have e : getS byteT 0 (0, b :: t) = (b, 0, t) := rfl
      rw [e] at hc
      simp only at hc
      clear e
      have hb256 : b.toNat < 256 := b.toNat_lt
      by_cases h1 : 1 < b.toNat
      · have HE : Hid (getS flagT false (0, b :: t) = (false, 10, [])) := Hid.mk (getS_is (show flagT (b :: t) = (10, false, []) by simp [flagT, h1]))
        have k1 : (1 : Int) < b.toNat := by omega
        have k2 : (b.toNat : Int) < 256 := by omega
        clear h1 hb256
        generalize (b.toNat : Int) = z at hc k1 k2
        go_enter Try.func43, Try.ntmps43
        go_wp2_with (first | (go_at_call 45; refine hc.mono ?_; rintro e w' ⟨rfl, hq1, hb1⟩; have F := rfail hq1.1 10) | (go_at_call 64; refine F.mono ?_; rintro e w2 ⟨rfl, hq2, hb2⟩))
        go_ret
        exact ⟨hb1.trans hb2, by rw [HE.out]; exact hq2, _, rfl, by rw [HE.out]; rfl⟩
      · have e2 : decide (b.toNat = 1) = decide ((b.toNat : Int) = 1) := by
          by_cases e3 : b.toNat = 1
          · simp [e3]
          · have e4 : ¬ (b.toNat : Int) = 1 := by omega
            simp only [e3, e4]
        have HE : Hid (getS flagT false (0, b :: t) = (decide ((b.toNat : Int) = 1), 0, t)) := Hid.mk (getS_is (show flagT (b :: t) = (0, decide ((b.toNat : Int) = 1), t) by rw [← e2]; simp [flagT, h1]))
        have k1 : ¬ (1 : Int) < b.toNat := by omega
        have k2 : (b.toNat : Int) < 256 := by omega
        clear h1 hb256 e2
        generalize (b.toNat : Int) = z at hc k1 k2 HE
        go_enter Try.func43, Try.ntmps43
        go_wp2_with (first | (go_at_call 45; refine hc.mono ?_; rintro e w' ⟨rfl, hq1, hb1⟩))
        go_ret
        exact ⟨hb1, by rw [HE.out]; exact hq1, _, rfl, by rw [HE.out]; rfl⟩
  · rw [getS_err _ _ hx] at hc
    have e0 : (((0 : UInt8).toNat : Nat) : Int) = 0 := rfl
    simp only at hc
    rw [e0] at hc
    have HE : Hid (getS flagT false (x, bs) = (false, x, bs)) := Hid.mk (getS_err _ _ hx)
    clear e0
    go_enter Try.func43, Try.ntmps43
    go_wp2_with (first | (go_at_call 45; refine hc.mono ?_; rintro e w' ⟨rfl, hq1, hb1⟩))
    go_ret
    exact ⟨hb1, by rw [HE.out]; exact hq1, _, rfl, by rw [HE.out]; rfl⟩

set_option maxHeartbeats 1000000 in
theorem rend (st : Nat × List UInt8) (h : RQ w lo M st) :
    Calls Try.prog 26 #[.pointer (some ⟨M, 0, none⟩)] w fun e w' => e = .returned (.int .i64 (endN st : Int)) ∧ w' = w := by
  obtain ⟨x, bs⟩ := st
  obtain ⟨hr, h2⟩ := h
  simp only at hr h2
  have m1 := hr.c1
  obtain ⟨a, c, m0, hy⟩ := hr.c0
  by_cases hx : x = 0
  · subst hx
    by_cases hb : bs = []
    · have e : endN (0, bs) = 0 := by simp [endN, hb]
      have k : ¬ (0 : Int) < bs.length := by simp [hb]
      rw [e]
      clear e hb h2
      go_enter Try.func26, Try.ntmps26
      go_wp2_with fail
      go_ret
      exact ⟨rfl, rfl⟩
    · have e : endN (0, bs) = 10 := by simp [endN, hb]
      have k : (0 : Int) < bs.length := by
        cases bs with
        | nil => exact absurd rfl hb
        | cons _ _ => simp
      rw [e]
      clear e hb h2
      go_enter Try.func26, Try.ntmps26
      go_wp2_with fail
      go_ret
      exact ⟨rfl, rfl⟩
  · have e : endN (x, bs) = x := by simp [endN, hx]
    have k : ((x : Int) == 0) = false := by simp; omega
    rw [e]
    clear e h2
    go_enter Try.func26, Try.ntmps26
    go_wp2_with fail
    go_ret
    exact ⟨rfl, rfl⟩

set_option maxHeartbeats 2000000 in
theorem rs42 (st : Nat × List UInt8) (h : RQ w lo M st) (hl : st.2.length ≤ 100000) (most : Int) (hm : -9223372036854775808 ≤ most ∧ most ≤ 9223372036854775807) :
    Calls Try.prog 42 #[.pointer (some ⟨M, 0, none⟩), .int .i64 most] w fun e w' => GotR lo M w (fun (l : List UInt8) v _ => v = strV l) (textT most) [] st e w' := by
  obtain ⟨x, bs⟩ := st
  obtain ⟨hr, h2⟩ := h
  simp only at hr h2 hl
  by_cases hx : x = 0
  · subst hx
    have hc := rnum_any hr hl
    by_cases h0 : (numG 0 0 bs).1 = 0
    · have hl64 := numG_lt h0
      have hte := numG_eats (bs := bs) (n := (numG 0 0 bs).2.1) (t := (numG 0 0 bs).2.2) (Prod.ext h0 rfl)
      have e : numG 0 0 bs = (0, (numG 0 0 bs).2.1, (numG 0 0 bs).2.2) := Prod.ext h0 rfl
      generalize (numG 0 0 bs).2.1 = n at e hc hl64
      generalize (numG 0 0 bs).2.2 = t at e hc hte
      rw [h0] at hc
      clear h0
      have hu : ((upN most : Nat) : Int) = max most 0 := by unfold upN; omega
      have hlt : t.length ≤ 100000 := by omega
      by_cases hg : upN most < n
      · have HE : Hid (getS (textT most) [] (0, bs) = ([], 8, [])) := Hid.mk (getS_is (show textT most bs = (8, [], []) by simp [textT, numT, e, hg]))
        clear e
        by_cases hm0 : most < 0
        · have k1 : (0 : Int) < n := by omega
          clear hu hg hl64 hte hlt
          go_enter Try.func42, Try.ntmps42
          go_wp2_with (first | (go_at_call 63; refine hc.mono ?_; rintro e w' ⟨rfl, hq1, hb1⟩; have F := rfail hq1.1 8; have m1 := hq1.1.c1) | (go_at_call 64; refine F.mono ?_; rintro e w2 ⟨rfl, hq2, hb2⟩))
          go_ret
          exact ⟨hb1.trans hb2, by rw [HE.out]; exact hq2, _, rfl, by rw [HE.out]; rfl⟩
        · have k1 : most < n := by omega
          clear hu hg hl64 hte hlt
          go_enter Try.func42, Try.ntmps42
          go_wp2_with (first | (go_at_call 63; refine hc.mono ?_; rintro e w' ⟨rfl, hq1, hb1⟩; have F := rfail hq1.1 8; have m1 := hq1.1.c1) | (go_at_call 64; refine F.mono ?_; rintro e w2 ⟨rfl, hq2, hb2⟩))
          go_ret
          exact ⟨hb1.trans hb2, by rw [HE.out]; exact hq2, _, rfl, by rw [HE.out]; rfl⟩
      · have enm : numT (upN most) bs = (0, n, t) := by simp [numT, e, hg]
        clear e
        have key : ∀ (P : Prop), (most < 0 → n = 0 → P) → (0 ≤ most → (n : Int) ≤ most → P) → P := fun P a b => by
          by_cases hm0 : most < 0
          · exact a hm0 (by unfold upN at hg; omega)
          · exact b (by omega) (by unfold upN at hg; omega)
        by_cases hs : t.length < n
        · have HE : Hid (getS (textT most) [] (0, bs) = ([], 9, [])) := Hid.mk (getS_is (show textT most bs = (9, [], []) by simp [textT, enm, hs]))
          have k2 : (t.length : Int) < n := by omega
          have hm0 : ¬ most < 0 := fun e => by
            unfold upN at hg
            omega
          have k1 : ¬ most < (n : Int) := by unfold upN at hg; omega
          clear enm key hu hg hl64 hte
          have k3 : (t.length : Int) ≤ 100000 := by omega
          go_enter Try.func42, Try.ntmps42
          go_wp2_with (first | (go_at_call 63; refine hc.mono ?_; rintro e w' ⟨rfl, hq1, hb1⟩; have F := rfail hq1.1 9; have m1 := hq1.1.c1; obtain ⟨a, c, m0, hy⟩ := hq1.1.c0; simp only at m0) | (go_at_call 64; refine F.mono ?_; rintro e w2 ⟨rfl, hq2, hb2⟩))
          go_ret
          exact ⟨hb1.trans hb2, by rw [HE.out]; exact hq2, _, rfl, by rw [HE.out]; rfl⟩
        · have HE : Hid (getS (textT most) [] (0, bs) = (t.take n, 0, t.drop n)) := Hid.mk (getS_is (show textT most bs = (0, t.take n, t.drop n) by simp [textT, enm, hs]))
          have k2 : ¬ (t.length : Int) < n := by omega
          have k2' : (n : Int) ≤ t.length := by omega
          have k3 : (t.length : Int) ≤ 100000 := by omega
          have k0 : (0 : Int) ≤ n := by omega
          clear enm hu hl64 hte
          refine key _ (fun g1 g2 => ?_) (fun g1 g2 => ?_)
          · subst g2
            clear key hg
            go_enter Try.func42, Try.ntmps42
            go_wp2_with (first | (go_at_call 63; refine hc.mono ?_; rintro e w' ⟨rfl, hq1, hb1⟩; have hr1 : RR w' lo M 0 t := hq1.1; have m1 := hr1.c1; have f0 := hr1.fz 0; obtain ⟨a, c, m0, hy⟩ := hr1.c0; have hcl := Byts.leI hy; have hcl2 := Int.le_trans k2' hcl; have hv := conv_byts (hy.take 0) (l := 0) (by rw [List.length_take]; omega)))
            all_goals
              go_ret
              first
              | exact ⟨hb1.trans ((But.refl [M] w').set (by simp) _), by rw [HE.out]; exact ⟨hr1.same m0, fun e => absurd rfl e⟩, _, rfl, by rw [HE.out]; rfl⟩
              | exact ⟨hb1.trans ((But.refl [M] w').set (by simp) _), by rw [HE.out]; exact ⟨hr1.end m0 (n := 0) (by omega) (.inl ⟨rfl, rfl⟩) rfl, fun e => absurd rfl e⟩, _, rfl, by rw [HE.out]; rfl⟩
              | exact ⟨hb1.trans ((But.refl [M] w').set (by simp) _), by rw [HE.out]; exact ⟨hr1.end m0 (n := 0) (by omega) (.inr ⟨(‹c = 0›).symm, rfl, rfl⟩) rfl, fun e => absurd rfl e⟩, _, rfl, by rw [HE.out]; rfl⟩
              | exact ⟨hb1.trans ((But.refl [M] w').set (by simp) _), by rw [HE.out]; exact ⟨hr1.end m0 (n := 0) (by omega) (.inr ⟨(‹c = 0›).symm, rfl, rfl⟩) (by have := hy.len; have := ‹c = 0›; omega), fun e => absurd rfl e⟩, _, rfl, by rw [HE.out]; rfl⟩
          · have g1' : ¬ most < 0 := by omega
            have g2' : ¬ most < (n : Int) := by omega
            clear key hg
            go_enter Try.func42, Try.ntmps42
            go_wp2_with (first | (go_at_call 63; refine hc.mono ?_; rintro e w' ⟨rfl, hq1, hb1⟩; have hr1 : RR w' lo M 0 t := hq1.1; have m1 := hr1.c1; have f0 := hr1.fz 0; obtain ⟨a, c, m0, hy⟩ := hr1.c0; have hcl := Byts.leI hy; have hcl2 := Int.le_trans k2' hcl; have hv := conv_byts (hy.take n) (l := n) (by rw [List.length_take]; omega)))
            all_goals
              go_ret
              first
              | exact ⟨hb1.trans ((But.refl [M] w').set (by simp) _), by rw [HE.out]; exact ⟨hr1.end m0 (n := n) (by omega) (.inl ⟨rfl, rfl⟩) rfl, fun e => absurd rfl e⟩, _, rfl, by rw [HE.out]; rfl⟩
              | exact ⟨hb1.trans ((But.refl [M] w').set (by simp) _), by rw [HE.out]; exact ⟨hr1.end m0 (n := n) (by omega) (.inr ⟨(‹c = n›).symm, rfl, rfl⟩) rfl, fun e => absurd rfl e⟩, _, rfl, by rw [HE.out]; rfl⟩
              | exact ⟨hb1.trans ((But.refl [M] w').set (by simp) _), by rw [HE.out]; exact ⟨hr1.end m0 (n := n) (by omega) (.inr ⟨(‹c = n›).symm, rfl, rfl⟩) (by have := hy.len; have := ‹c = n›; omega), fun e => absurd rfl e⟩, _, rfl, by rw [HE.out]; rfl⟩
    · have HE : Hid (getS (textT most) [] (0, bs) = ([], (numG 0 0 bs).1, [])) := Hid.mk (getS_is (show textT most bs = ((numG 0 0 bs).1, [], []) by simp [textT, numT, h0]))
      have e2 : (numG 0 0 bs).2.2 = [] := by rw [numG_err _ _ _ h0]
      rw [e2] at hc
      clear e2
      generalize (numG 0 0 bs).2.1 = n at *
      generalize (numG 0 0 bs).1 = y at *
      have k : ¬ (y : Int) = 0 := by omega
      go_enter Try.func42, Try.ntmps42
      go_wp2_with (first | (go_at_call 63; refine hc.mono ?_; rintro e w' ⟨rfl, hq1, hb1⟩; have m1 := hq1.1.c1))
      go_ret
      exact ⟨hb1, by rw [HE.out]; exact hq1, _, rfl, by rw [HE.out]; rfl⟩
  · have hc := rnum_err hr hx
    have m1 := hr.c1
    have k : ¬ (x : Int) = 0 := by omega
    go_enter Try.func42, Try.ntmps42
    go_wp2_with (first | (go_at_call 63; refine hc.mono ?_; rintro e w' ⟨rfl, rfl⟩))
    go_ret
    exact ⟨But.refl _ _, by rw [getS_err _ _ hx]; exact ⟨hr, h2⟩, _, rfl, by rw [getS_err _ _ hx]; rfl⟩
end

end Go.Proofs.Ytdndpncbagjidaa
