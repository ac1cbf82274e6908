/- The calls of the reference's source: Num, Int, Byte, Flag, End. -/
import Derived.Test.YtbcdjpafdmgbmaaDoorCRefS
import Derived.Test.YtbcdjpafdmgbmaaDoorCSrc
namespace Go.Proofs.YtbcdjpafdmgbmaaDoor
open Go.RowKit

/-- What a call of the reference's source tells. -/
def GotR {α : Type} (lo M : Nat) (w : World) (V : α → Value → World → Prop) (f : List UInt8 → Nat × α × List UInt8) (z : α) (st : Nat × List UInt8) (e : Ending) (w' : World) : Prop :=
  But [M] w w' ∧ RQ w' lo M (getS f z st).2 ∧ ∃ v, e = .returned v ∧ V (getS f z st).1 v w'

theorem getS_err {α : Type} (f : List UInt8 → Nat × α × List UInt8) (z : α) {x : Nat} {bs : List UInt8} (h : x ≠ 0) : getS f z (x, bs) = (z, x, bs) := by
  unfold getS
  rw [if_neg h]
theorem getS_is {α : Type} {f : List UInt8 → Nat × α × List UInt8} {z : α} {bs : List UInt8} {r : Nat × α × List UInt8} (h : f bs = r) : getS f z (0, bs) = (r.2.1, r.1, r.2.2) := by
  unfold getS
  rw [if_pos rfl, h]

section
variable {lo M : Nat} {w : World}
set_option maxHeartbeats 400000 in
theorem rnum_err {x : Nat} {bs : List UInt8} (h : RR w lo M x bs) (hx : x ≠ 0) :
    Calls Tryd.prog 92 #[.pointer (some ⟨M, 0, none⟩)] w fun e w' => e = .returned (.int .u64 0) ∧ w' = w := by
  have m1 := h.c1
  have k : ¬ (x : Int) = 0 := by omega
  go_enter Tryd.func92, Tryd.ntmps92
  go_wp2_with fail
  go_loopw [3, 4, 5] (fun _ _ _ wr => wr = w) (fun _ _ _ _ => 0)
  case atStart => rfl
  case round =>
    subst hrel
    go_wp2_with fail
    go_ret
    exact ⟨rfl, rfl⟩

set_option maxHeartbeats 1000000 in
theorem rs40 (st : Nat × List UInt8) (h : RQ w lo M st) (hl : st.2.length ≤ 100000) (most : Nat) :
    Calls Tryd.prog 66 #[.pointer (some ⟨M, 0, none⟩), .int .u64 (most : Int)] w fun e w' => GotR lo M w (fun (n : Nat) v _ => v = .int .u64 (n : Int)) (numT most) 0 st e w' := by
  obtain ⟨x, bs⟩ := st
  obtain ⟨hr, h2⟩ := h
  simp only at hr h2 hl
  have k0 : (0 : Int) ≤ most := by omega
  by_cases hx : x = 0
  · subst hx
    have hc := rnum_any hr hl
    by_cases h0 : (numG 0 0 bs).1 = 0
    · have e : numG 0 0 bs = (0, (numG 0 0 bs).2.1, (numG 0 0 bs).2.2) := Prod.ext h0 rfl
      generalize (numG 0 0 bs).2.1 = n at e hc
      generalize (numG 0 0 bs).2.2 = t at e hc
      rw [h0] at hc
      by_cases hg : most < n
      · have e1 : getS (numT most) 0 (0, bs) = (0, 8, []) := getS_is (show numT most bs = (8, 0, []) by simp [numT, e, hg])
        have HE := Hid.mk e1
        clear e1 e h0
        have k : (most : Int) < n := by omega
        go_enter Tryd.func66, Tryd.ntmps66
        go_wp2_with (first | (go_at_call 92; refine hc.mono ?_; rintro e w' ⟨rfl, hq1, hb1⟩; have F := rfail hq1.1 8) | (go_at_call 93; refine F.mono ?_; rintro e w2 ⟨rfl, hq2, hb2⟩))
        go_ret
        exact ⟨hb1.trans hb2, by rw [HE.out]; exact hq2, _, rfl, by rw [HE.out]; rfl⟩
      · have e1 : getS (numT most) 0 (0, bs) = (n, 0, t) := getS_is (show numT most bs = (0, n, t) by simp [numT, e, hg])
        have HE := Hid.mk e1
        clear e1 e h0
        have k : ¬ (most : Int) < n := by omega
        go_enter Tryd.func66, Tryd.ntmps66
        go_wp2_with (first | (go_at_call 92; refine hc.mono ?_; rintro e w' ⟨rfl, hq1, hb1⟩))
        go_ret
        exact ⟨hb1, by rw [HE.out]; exact hq1, _, rfl, by rw [HE.out]; rfl⟩
    · have e1 : getS (numT most) 0 (0, bs) = ((numG 0 0 bs).2.1, (numG 0 0 bs).1, (numG 0 0 bs).2.2) := getS_is (show numT most bs = numG 0 0 bs by simp [numT, h0])
      have HE := Hid.mk e1
      have e2 : (numG 0 0 bs).2.1 = 0 := by rw [numG_err _ _ _ h0]
      clear e1
      generalize (numG 0 0 bs).2.1 = n at *
      subst e2
      have k : ¬ (most : Int) < 0 := by omega
      go_enter Tryd.func66, Tryd.ntmps66
      go_wp2_with (first | (go_at_call 92; refine hc.mono ?_; rintro e w' ⟨rfl, hq1, hb1⟩))
      go_ret
      exact ⟨hb1, by rw [HE.out]; exact hq1, _, rfl, by rw [HE.out]; rfl⟩
  · have hc := rnum_err hr hx
    have k : ¬ (most : Int) < 0 := by omega
    go_enter Tryd.func66, Tryd.ntmps66
    go_wp2_with (first | (go_at_call 92; refine hc.mono ?_; rintro e w' ⟨rfl, rfl⟩))
    go_ret
    exact ⟨But.refl _ _, by rw [getS_err _ _ hx]; exact ⟨hr, h2⟩, _, rfl, by rw [getS_err _ _ hx]; rfl⟩

set_option maxHeartbeats 2000000 in
theorem rs41 (st : Nat × List UInt8) (h : RQ w lo M st) (hl : st.2.length ≤ 100000) (least most : Int) :
    Calls Tryd.prog 68 #[.pointer (some ⟨M, 0, none⟩), .int .i64 least, .int .i64 most] w fun e w' => GotR lo M w (fun (n : Int) v _ => v = .int .i64 n) (intT least most) 0 st e w' := by
  obtain ⟨x, bs⟩ := st
  obtain ⟨hr, h2⟩ := h
  simp only at hr h2 hl
  by_cases hx : x = 0
  · subst hx
    have hc := rnum_any hr hl
    by_cases h0 : (numG 0 0 bs).1 = 0
    · have hl64 := numG_lt h0
      have e : numG 0 0 bs = (0, (numG 0 0 bs).2.1, (numG 0 0 bs).2.2) := Prod.ext h0 rfl
      generalize (numG 0 0 bs).2.1 = n at e hc hl64
      generalize (numG 0 0 bs).2.2 = t at e hc
      rw [h0] at hc
      have hin := unzig_in hl64
      have e1 : intT least most bs = if unzig n < least ∨ most < unzig n then (8, 0, []) else (0, unzig n, t) := by simp [intT, e]
      have k0 : (0 : Int) ≤ n := by omega
      have k1 : (n : Int) < 18446744073709551616 := by omega
      clear e h0
      by_cases hp : n % 2 = 1
      · have e2 : unzig n = -((n : Int) / 2) - 1 := by unfold unzig; rw [if_pos hp]; omega
        have k2 : (n : Int) % 2 = 1 := by omega
        rw [e2] at hin e1
        clear e2 hl64 hp
        generalize (n : Int) = z at hc hin k0 k1 k2 e1
        by_cases hg : -(z / 2) - 1 < least ∨ most < -(z / 2) - 1
        · rw [if_pos hg] at e1
          have HE := Hid.mk (getS_is (z := 0) e1)
          clear e1
          rcases Classical.em (-(z / 2) - 1 < least) with g | g
          all_goals
            try have g' : most < -(z / 2) - 1 := by omega
            clear hg
            go_enter Tryd.func68, Tryd.ntmps68
            go_wp2_with (first | (go_at_call 92; refine hc.mono ?_; rintro e w' ⟨rfl, hq1, hb1⟩; have F := rfail hq1.1 8; have m1 := hq1.1.c1) | (go_at_call 93; refine F.mono ?_; rintro e w2 ⟨rfl, hq2, hb2⟩))
            go_ret
            exact ⟨hb1.trans hb2, by rw [HE.out]; exact hq2, _, rfl, by rw [HE.out]; rfl⟩
        · rw [if_neg hg] at e1
          have HE := Hid.mk (getS_is (z := 0) e1)
          have g1 : ¬ -(z / 2) - 1 < least := by omega
          have g2 : ¬ most < -(z / 2) - 1 := by omega
          clear e1 hg
          go_enter Tryd.func68, Tryd.ntmps68
          go_wp2_with (first | (go_at_call 92; refine hc.mono ?_; rintro e w' ⟨rfl, hq1, hb1⟩; have m1 := hq1.1.c1))
          go_ret
          exact ⟨hb1, by rw [HE.out]; exact hq1, _, rfl, by rw [HE.out]; rfl⟩
      · have e2 : unzig n = (n : Int) / 2 := by unfold unzig; rw [if_neg hp]; omega
        have k2 : ¬ (n : Int) % 2 = 1 := by omega
        rw [e2] at hin e1
        clear e2 hl64 hp
        generalize (n : Int) = z at hc hin k0 k1 k2 e1
        by_cases hg : z / 2 < least ∨ most < z / 2
        · rw [if_pos hg] at e1
          have HE := Hid.mk (getS_is (z := 0) e1)
          clear e1
          rcases Classical.em (z / 2 < least) with g | g
          all_goals
            try have g' : most < z / 2 := by omega
            clear hg
            go_enter Tryd.func68, Tryd.ntmps68
            go_wp2_with (first | (go_at_call 92; refine hc.mono ?_; rintro e w' ⟨rfl, hq1, hb1⟩; have F := rfail hq1.1 8; have m1 := hq1.1.c1) | (go_at_call 93; refine F.mono ?_; rintro e w2 ⟨rfl, hq2, hb2⟩))
            go_ret
            exact ⟨hb1.trans hb2, by rw [HE.out]; exact hq2, _, rfl, by rw [HE.out]; rfl⟩
        · rw [if_neg hg] at e1
          have HE := Hid.mk (getS_is (z := 0) e1)
          have g1 : ¬ z / 2 < least := by omega
          have g2 : ¬ most < z / 2 := by omega
          clear e1 hg
          go_enter Tryd.func68, Tryd.ntmps68
          go_wp2_with (first | (go_at_call 92; refine hc.mono ?_; rintro e w' ⟨rfl, hq1, hb1⟩; have m1 := hq1.1.c1))
          go_ret
          exact ⟨hb1, by rw [HE.out]; exact hq1, _, rfl, by rw [HE.out]; rfl⟩
    · have e1 : getS (intT least most) 0 (0, bs) = (0, (numG 0 0 bs).1, []) := getS_is (show intT least most bs = ((numG 0 0 bs).1, 0, []) by simp [intT, h0])
      have HE := Hid.mk e1
      have e2 : (numG 0 0 bs).2.2 = [] := by rw [numG_err _ _ _ h0]
      rw [e2] at hc
      clear e1 e2
      generalize (numG 0 0 bs).2.1 = n at *
      generalize (numG 0 0 bs).1 = y at *
      have k : ¬ (y : Int) = 0 := by omega
      go_enter Tryd.func68, Tryd.ntmps68
      go_wp2_with (first | (go_at_call 92; refine hc.mono ?_; rintro e w' ⟨rfl, hq1, hb1⟩; have m1 := hq1.1.c1))
      go_ret
      exact ⟨hb1, by rw [HE.out]; exact hq1, _, rfl, by rw [HE.out]; rfl⟩
  · have hc := rnum_err hr hx
    have m1 := hr.c1
    have k : ¬ (x : Int) = 0 := by omega
    go_enter Tryd.func68, Tryd.ntmps68
    go_wp2_with (first | (go_at_call 92; refine hc.mono ?_; rintro e w' ⟨rfl, rfl⟩))
    go_ret
    exact ⟨But.refl _ _, by rw [getS_err _ _ hx]; exact ⟨hr, h2⟩, _, rfl, by rw [getS_err _ _ hx]; rfl⟩

set_option maxHeartbeats 1000000 in
theorem rs45 (st : Nat × List UInt8) (h : RQ w lo M st) :
    Calls Tryd.prog 67 #[.pointer (some ⟨M, 0, none⟩)] w fun e w' => GotR lo M w (fun (c : UInt8) v _ => v = .int .u8 (c.toNat : Int)) byteT 0 st e w' := by
  obtain ⟨x, bs⟩ := st
  obtain ⟨hr, h2⟩ := h
  simp only at hr h2
  have m1 := hr.c1
  by_cases hx : x = 0
  · subst hx
    obtain ⟨a, c, m0, hy⟩ := hr.c0
    have f0 := hr.fz 0
    by_cases hb0 : bs = []
    · have F := rfail hr 9
      have HE : Hid (getS byteT 0 (0, bs) = (0, 9, [])) := Hid.mk (by rw [hb0]; rfl)
      have k1 : (bs.length : Int) = 0 := by rw [hb0]; rfl
      clear hb0
      go_enter Tryd.func67, Tryd.ntmps67
      go_wp2_with (first | (go_at_call 93; refine F.mono ?_; rintro e w2 ⟨rfl, hq2, hb2⟩))
      go_ret
      exact ⟨hb2, by rw [HE.out]; exact hq2, _, rfl, by rw [HE.out]; rfl⟩
    · obtain ⟨b, hbj⟩ : ∃ b, bs[0]? = some b := by
        cases bs with
        | nil => exact absurd rfl hb0
        | cons b t => exact ⟨b, rfl⟩
      have HE : Hid (getS byteT 0 (0, bs) = (b, 0, bs.drop 1)) := Hid.mk (by
        cases bs with
        | nil => exact absurd rfl hb0
        | cons b' t =>
          simp at hbj
          subst hbj
          rfl)
      obtain ⟨G, o, rfl, hcell⟩ := hy.at hbj
      have hcl := hy.len
      have hpos : 0 < bs.length := (List.getElem?_eq_some_iff.1 hbj).1
      have k1 : (1 : Int) ≤ c := by omega
      have k2 : (1 : Int) ≤ bs.length := by omega
      have k3 : (bs.length : Int) ≤ c := by omega
      have k4 : ¬ (bs.length : Int) = 0 := by omega
      rw [Nat.add_zero] at hcell
      clear hbj hb0
      by_cases hcn : c = 1
      · subst hcn
        have hl1 : bs.length = 1 := by omega
        have hend := hr.end m0 (n := 1) (by omega) (a' := some ⟨G, o, none⟩) (k := 0) (c' := 0) (.inr ⟨rfl, rfl, rfl⟩) (by omega)
        rw [hl1] at m0
        clear hl1 hcl hpos k1 k2 k3 k4 hy
        go_enter Tryd.func67, Tryd.ntmps67
        go_wp2_with fail
        go_ret
        exact ⟨(But.refl [M] w).set (by simp) _, by rw [HE.out]; exact ⟨hend, fun e => absurd rfl e⟩, _, rfl, by rw [HE.out]; rfl⟩
      · have hend := hr.end m0 (n := 1) (by omega) (a' := some ⟨G, o + 1, none⟩) (k := bs.length - 1) (c' := c - 1) (.inl ⟨by simp [WideShapes.add_plain], rfl⟩) rfl
        clear hcl hpos hy
        go_enter Tryd.func67, Tryd.ntmps67
        go_wp2_with fail
        go_ret
        exact ⟨(But.refl [M] w).set (by simp) _, by rw [HE.out]; exact ⟨hend, fun e => absurd rfl e⟩, _, rfl, by rw [HE.out]; rfl⟩
  · have k : ¬ (x : Int) = 0 := by omega
    go_enter Tryd.func67, Tryd.ntmps67
    go_wp2_with fail
    go_ret
    exact ⟨But.refl _ _, by rw [getS_err _ _ hx]; exact ⟨hr, h2⟩, _, rfl, by rw [getS_err _ _ hx]; rfl⟩
end

end Go.Proofs.YtbcdjpafdmgbmaaDoor
