/- IsaBytes' walk. -/
import Derived.Test.YtbcdjpafdmgbmaaDoorLives
import Derived.Test.YtbcdjpafdmgbmaaDoorParse
import Derived.Test.YtbcdjpafdmgbmaaDoorRParse
import Derived.Test.YtbcdjpafdmgbmaaDoorBytes
import Derived.Test.YtbcdjpafdmgbmaaDoorRBytes
import Derived.Test.YtbcdjpafdmgbmaaDoorCHoldT
import Derived.Test.YtbcdjpafdmgbmaaDoorCPutL
import Derived.Deep.RegionHeld3
namespace Go.Proofs.YtbcdjpafdmgbmaaDoor
open Go.RowKit

/-- The number that goes with what is told. -/
def pe : Option (List Ins) → Int
  | some _ => 0
  | none => 10
theorem ParV.out {lo : Nat} {o : Option (List Ins)} {w' : World} {v : Value} (h : ParV lo o w' v .i64) : ∃ a c, v = .tuple #[.slice a (o.getD []).length c, .int .i64 (pe o)] ∧ PV w' a (o.getD []) := by
  cases o with
  | none => exact ⟨none, 0, h, PV.nil _ _⟩
  | some p =>
    obtain ⟨x, e, ho⟩ := h
    obtain ⟨a, c, ev, hp⟩ := ow_sl ho rfl
    subst ev
    exact ⟨a, c, e, hp⟩
theorem res_len {b : List UInt8} {o : Option (List Ins)} (h : Res b o) : (o.getD []).length ≤ 64 := by
  cases o with
  | none => simp
  | some p => exact (wholeB_iff.1 h.1).1

set_option maxRecDepth 100000 in
set_option maxHeartbeats 8000000 in
theorem bytes_tail (ps : List Ins) (bs : List UInt8) (a a2 : Option Addr) (c c2 : Nat) (w : World) (hp : PV w a ps) (hb : Byts w w.heap.size a2 c2 bs) (hE : Env w) :
    Calls Tryd.prog 4 #[.slice a ps.length c, .slice a2 bs.length c2] w fun e w' => e = .returned (.bool true) ∧ Below w.heap.size w w' := by
  have L1 := fun W => light_any (ps := ps) (a := a) c W
  have HL := fun W (hW : Below w.heap.size w W) => lives_any (hE.on hW)
  by_cases hlp : ps.length ≤ 80
  · by_cases hlb : bs.length ≤ 2000
    · simp only [hlp, decide_true] at L1
      have HP := fun W (hW : Below w.heap.size w W) => parse_any (a := a2) (c := c2) (hb.but (S := []) (.of_below hW) (by simp)) (by omega) (hE.on hW).tab
      have HR := fun W (hW : Below w.heap.size w W) => rparse_any (a := a2) (c := c2) (hb.but (S := []) (.of_below hW) (by simp)) (by omega)
      have HB := fun W (hW : Below w.heap.size w W) => bytes_any c (hp.below hW) (hE.on hW).tab
      have HQ := fun W (hW : Below w.heap.size w W) => rbytes_any c (hp.below hW)
      have hl3 : (bs.length : Int) ≤ 2000 := by omega
      clear hp hb hE hlp hlb
      generalize ps.length = n at *
      generalize bs.length = m at *
      generalize bytesA ps = B at *
      have b0 : Below w.heap.size w w := Below.refl _ _
      go_enter Tryd.func4, Tryd.ntmps4
      go_wp2_with (first
        | (go_at_call 7; (with_reducible refine (L1 _).mono ?_); rintro e w' ⟨rfl, rfl⟩)
        | (go_at_call 21; (with_reducible refine (HP _ b0).mono ?_); rintro e w1 ⟨o1, v1, hr1, rfl, hv1, hb1⟩; obtain ⟨xa, xc, ev1, hx1⟩ := hv1.out; subst ev1; have hl1 := res_len hr1)
        | (go_at_call 22; (with_reducible refine (HR _ hb1).mono ?_); rintro e w2 ⟨o2, v2, hr2, rfl, hv2, hb2⟩; obtain ⟨ya, yc, ev2, hy2⟩ := hv2.out; subst ev2))
      obtain rfl := hr1.same hr2
      have hx2 := hx1.below hb2
      have b2 := hb1.trans (hb2.mono hb1.size)
      clear hr1 hr2 hv1 hv2 hx1
      generalize pe o1 = ee at *
      generalize o1.getD [] = xs at *
      refine wp_region_held_drew (S := (fun w' => Below w2.drew.heap.size w2.drew w')) (by kernel_rfl) (Below.refl _ _) (fun hHeld => ?_)
      have bd := b2.drew
      have hx3 : PV w2.drew xa xs := hx2
      have hy3 : PV w2.drew ya xs := hy2
      generalize w2.drew = W at *
      refine anyH_take (i := 0) (v := ?_) (some 28) rfl rfl (by kernel_rfl) (fun _ _ _ h => h) (Or.inl ⟨by rfl, ?_⟩) (by assumption) ?_
      rotate_left
      · (intro w hSw; go_simp; all_goals with_reducible rfl)
      try simp only [Act.put, List.setIfInBounds_toArray, List.set_cons_zero, List.set_cons_succ]
      refine anyH_take (i := 3) (v := ?_) (some 31) rfl rfl (by kernel_rfl) (fun _ _ _ h => h) (Or.inl ⟨by rfl, ?_⟩) (by assumption) ?_
      rotate_left
      · (intro w hSw; go_simp; all_goals with_reducible rfl)
      try simp only [Act.put, List.setIfInBounds_toArray, List.set_cons_zero, List.set_cons_succ]
      refine anyH_one (i := 1) (by kernel_rfl) rfl (fun K hK => ?_)
      go_simp
      go_at_call 23
      refine (HB _ bd).mono ?_
      rintro e w3 ⟨⟨v3, rfl, ho3⟩, hb3⟩
      refine hK.out _ _ (hb3) (fun hHeld => ?_)
      clear hK K
      try simp only [Act.put, List.setIfInBounds_toArray, List.set_cons_zero, List.set_cons_succ]
      have b3 := bd.trans (hb3.mono bd.size)
      refine anyH_mono (S2 := fun w' => Below w3.heap.size w3 w') (fun w' h => hb3.trans (h.mono hb3.size)) ?_
      have hH3 : Below w3.heap.size w3 w3 := Below.refl _ _
      clear hHeld
      refine anyH_take (i := 2) (v := ?_) (some 30) rfl rfl (by kernel_rfl) (fun _ _ _ h => h) (Or.inl ⟨by rfl, ?_⟩) (by assumption) ?_
      rotate_left
      · (intro w hSw; have q1 := conv_own (ho3.below hSw); go_simp; all_goals with_reducible rfl)
      try simp only [Act.put, List.setIfInBounds_toArray, List.set_cons_zero, List.set_cons_succ]
      refine anyH_one (i := 4) (by kernel_rfl) rfl (fun K hK => ?_)
      go_simp
      go_at_call 24
      refine (HQ _ b3).mono ?_
      rintro e w4 ⟨⟨v4, rfl, ho4⟩, hb4⟩
      refine hK.out _ _ (hb4) (fun hHeld => ?_)
      clear hK K
      try simp only [Act.put, List.setIfInBounds_toArray, List.set_cons_zero, List.set_cons_succ]
      have b4 := b3.trans (hb4.mono b3.size)
      refine anyH_mono (S2 := fun w' => Below w4.heap.size w4 w') (fun w' h => hb4.trans (h.mono hb4.size)) ?_
      have hH4 : Below w4.heap.size w4 w4 := Below.refl _ _
      clear hHeld hH3
      have hx4 := (hx3.below hb3).below hb4
      have hy4 := (hy3.below hb3).below hb4
      refine anyH_take (i := 5) (v := ?_) (some 33) rfl rfl (by kernel_rfl) (fun _ _ _ h => h) (Or.inl ⟨by rfl, ?_⟩) (by assumption) ?_
      rotate_left
      · (intro w hSw; have q1 := conv_own (ho4.below hSw); go_simp; all_goals with_reducible rfl)
      try simp only [Act.put, List.setIfInBounds_toArray, List.set_cons_zero, List.set_cons_succ]
      refine anyH_take (i := 6) (v := ?_) (some 34) rfl rfl (by kernel_rfl) (fun _ _ _ h => h) (Or.inl ⟨by rfl, ?_⟩) (by assumption) ?_
      rotate_left
      · (intro w hSw; go_simp; all_goals with_reducible rfl)
      try simp only [Act.put, List.setIfInBounds_toArray, List.set_cons_zero, List.set_cons_succ]
      refine anyH_take (i := 7) (v := ?_) (some 35) rfl rfl (by kernel_rfl) (fun _ _ _ h => h) (Or.inl ⟨by rfl, ?_⟩) (by assumption) ?_
      rotate_left
      · (intro w hSw; go_simp; all_goals with_reducible rfl)
      try simp only [Act.put, List.setIfInBounds_toArray, List.set_cons_zero, List.set_cons_succ]
      refine anyH_take (i := 8) (v := ?_) (some 36) rfl rfl (by kernel_rfl) (fun _ _ _ h => h) (Or.inl ⟨by rfl, ?_⟩) (by assumption) ?_
      rotate_left
      · (intro w hSw; go_simp; all_goals with_reducible rfl)
      try simp only [Act.put, List.setIfInBounds_toArray, List.set_cons_zero, List.set_cons_succ]
      refine anyH_take (i := 9) (v := ?_) (some 37) rfl rfl (by kernel_rfl) (fun _ _ _ h => h) (Or.inl ⟨by rfl, ?_⟩) (by assumption) ?_
      rotate_left
      · (intro w hSw; go_simp; all_goals with_reducible rfl)
      try simp only [Act.put, List.setIfInBounds_toArray, List.set_cons_zero, List.set_cons_succ]
      have HS := rsame_any (xc := xc) (yc := yc) hx4 hy4 (by omega)
      simp only [decide_true] at HS
      refine anyH_one (i := 10) (by kernel_rfl) rfl (fun K hK => ?_)
      go_simp
      go_at_call 20
      refine (HS).mono ?_
      rintro e w5 ⟨rfl, hb5⟩
      refine hK.out _ _ (hb5) (fun hHeld => ?_)
      clear hK K
      try simp only [Act.put, List.setIfInBounds_toArray, List.set_cons_zero, List.set_cons_succ]
      have b5 := b4.trans (hb5.mono b4.size)
      refine anyH_take (i := 11) (v := ?_) (some 39) rfl rfl (by kernel_rfl) (fun _ _ _ h => h) (Or.inl ⟨by rfl, ?_⟩) (by assumption) ?_
      rotate_left
      · (intro w hSw; go_simp; all_goals with_reducible rfl)
      try simp only [Act.put, List.setIfInBounds_toArray, List.set_cons_zero, List.set_cons_succ]
      refine anyH_take (i := 12) (v := ?_) (some 40) rfl rfl (by kernel_rfl) (fun _ _ _ h => h) (Or.inl ⟨by rfl, ?_⟩) (by assumption) ?_
      rotate_left
      · (intro w hSw; go_simp; all_goals with_reducible rfl)
      try simp only [Act.put, List.setIfInBounds_toArray, List.set_cons_zero, List.set_cons_succ]
      refine anyH_take (i := 13) (v := ?_) (some 41) rfl rfl (by kernel_rfl) (fun _ _ _ h => h) (Or.inl ⟨by rfl, ?_⟩) (by assumption) ?_
      rotate_left
      · (intro w hSw; go_simp; all_goals with_reducible rfl)
      try simp only [Act.put, List.setIfInBounds_toArray, List.set_cons_zero, List.set_cons_succ]
      refine anyH_take (i := 14) (v := ?_) (some 42) rfl rfl (by kernel_rfl) (fun _ _ _ h => h) (Or.inl ⟨by rfl, ?_⟩) (by assumption) ?_
      rotate_left
      · (intro w hSw; go_simp; all_goals with_reducible rfl)
      try simp only [Act.put, List.setIfInBounds_toArray, List.set_cons_zero, List.set_cons_succ]
      refine anyH_take (i := 15) (v := ?_) (some 43) rfl rfl (by kernel_rfl) (fun _ _ _ h => h) (Or.inl ⟨by rfl, ?_⟩) (by assumption) ?_
      rotate_left
      · (intro w hSw; go_simp; all_goals with_reducible rfl)
      try simp only [Act.put, List.setIfInBounds_toArray, List.set_cons_zero, List.set_cons_succ]
      refine anyH_take (i := 16) (v := ?_) (some 44) rfl rfl (by kernel_rfl) (fun _ _ _ h => h) (Or.inl ⟨by rfl, ?_⟩) (by assumption) ?_
      rotate_left
      · (intro w hSw; go_simp; all_goals with_reducible rfl)
      try simp only [Act.put, List.setIfInBounds_toArray, List.set_cons_zero, List.set_cons_succ]
      refine anyH_take (i := 17) (v := ?_) (some 45) rfl rfl (by kernel_rfl) (fun _ _ _ h => h) (Or.inl ⟨by rfl, ?_⟩) (by assumption) ?_
      rotate_left
      · (intro w hSw; go_simp; all_goals with_reducible rfl)
      try simp only [Act.put, List.setIfInBounds_toArray, List.set_cons_zero, List.set_cons_succ]
      refine anyH_one (i := 18) (by kernel_rfl) rfl (fun K hK => ?_)
      go_simp
      go_at_call 8
      refine (HL _ b5).mono ?_
      rintro e w6 ⟨rfl, hb6⟩
      refine hK.out _ _ (hb5.trans (hb6.mono hb5.size)) (fun hHeld => ?_)
      clear hK K
      try simp only [Act.put, List.setIfInBounds_toArray, List.set_cons_zero, List.set_cons_succ]
      have b6 := b5.trans (hb6.mono b5.size)
      refine anyH_take (i := 19) (v := ?_) (some 47) rfl rfl (by kernel_rfl) (fun _ _ _ h => h) (Or.inl ⟨by rfl, ?_⟩) (by assumption) ?_
      rotate_left
      · (intro w hSw; go_simp; all_goals with_reducible rfl)
      try simp only [Act.put, List.setIfInBounds_toArray, List.set_cons_zero, List.set_cons_succ]
      refine anyH_take (i := 20) (v := ?_) (some 4) rfl rfl (by kernel_rfl) (fun _ _ _ h => h) (Or.inl ⟨by rfl, ?_⟩) (by assumption) ?_
      rotate_left
      · (intro w hSw; go_simp; all_goals with_reducible rfl)
      try simp only [Act.put, List.setIfInBounds_toArray, List.set_cons_zero, List.set_cons_succ]
      refine wpAnyH_done (by kernel_rfl) ?_ _
      go_wp2_with fail
      go_ret
      exact ⟨rfl, b6⟩
    · simp only [hlp, decide_true] at L1
      have hl3 : ¬ (bs.length : Int) ≤ 2000 := by omega
      have b0 : Below w.heap.size w w := Below.refl _ _
      clear hp hb hE hlp hlb
      generalize ps.length = n at *
      generalize bs.length = m at *
      go_enter Tryd.func4, Tryd.ntmps4
      go_wp2_with (first
        | (go_at_call 7; (with_reducible refine (L1 _).mono ?_); rintro e w' ⟨rfl, rfl⟩)
        | (go_at_call 8; (with_reducible refine (HL _ b0).mono ?_); rintro e w9 ⟨rfl, q9⟩))
      go_ret
      exact ⟨rfl, q9⟩
  · simp only [hlp, decide_false] at L1
    have b0 : Below w.heap.size w w := Below.refl _ _
    clear hp hb hE hlp
    generalize ps.length = n at *
    generalize bs.length = m at *
    go_enter Tryd.func4, Tryd.ntmps4
    go_wp2_with (first
      | (go_at_call 7; (with_reducible refine (L1 _).mono ?_); rintro e w' ⟨rfl, rfl⟩)
      | (go_at_call 8; (with_reducible refine (HL _ b0).mono ?_); rintro e w9 ⟨rfl, q9⟩))
    go_ret
    exact ⟨rfl, q9⟩

end Go.Proofs.YtbcdjpafdmgbmaaDoor
