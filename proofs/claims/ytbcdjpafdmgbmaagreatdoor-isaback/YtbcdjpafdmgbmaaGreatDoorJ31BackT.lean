/- IsaBack's walk. -/
/- The wrap for rows that list variables, the world's shape at hand. -/
import Derived.Test.YtbcdjpafdmgbmaaGreatDoorJ14BackT
import Derived.Test.YtbcdjpafdmgbmaaGreatDoorJ18BackT
import Derived.Test.YtbcdjpafdmgbmaaGreatDoorJ15BackT
import Derived.Test.YtbcdjpafdmgbmaaGreatDoorJ29BackT
import Derived.Test.YtbcdjpafdmgbmaaGreatDoorJ30BackT
import Derived.Test.YtbcdjpafdmgbmaaGreatDoorJ10BackT
import Derived.BigQuiet
import Derived.Deep.CutRange
import Derived.Deep.RegionHeld3
import Derived.Handed
import Derived.HandedShaped
import Derived.Test.YtbcdjpafdmgbmaaGreatDoorRows
namespace Go.Proofs.YtbcdjpafdmgbmaaGreatDoor
open Go.RowKit

def pe2 : Option (List Ins) → Int
  | some _ => 0
  | none => 10
theorem ParV.sl {lo : Nat} {o : Option (List Ins)} {w' : World} {v : Value} (h : ParV lo o w' v .i64) : ∃ a c, v = .tuple #[.slice a (o.getD []).length c, .int .i64 (pe2 o)] ∧ PV w' a (o.getD []) := by
  cases o with
  | none => exact ⟨none, 0, h, PV.nil _ _⟩
  | some p =>
    obtain ⟨x, e, ho⟩ := h
    obtain ⟨a, c, ev, hp⟩ := ow_sl ho rfl
    subst ev
    exact ⟨a, c, e, hp⟩
theorem ScanV.sl {s : List UInt8} {lo : Nat} {e : Ending} {w' : World} (h : ScanV s lo e w') : ∃ a c, e = .returned (.tuple #[.slice a (scanV s).1.length c, .int .i64 ((scanV s).2.1 : Nat), .int .i64 ((scanV s).2.2 : Nat)]) ∧ PV w' a (scanV s).1 := by
  obtain ⟨v, rfl, ho⟩ := h
  obtain ⟨a, c, ev, hp⟩ := ow_sl ho rfl
  subst ev
  exact ⟨a, c, rfl, hp⟩
theorem strB_back (s : ByteArray) : strB s.data.toList = s := by
  apply ByteArray.ext
  simp [strB]

set_option maxRecDepth 100000 in
set_option maxHeartbeats 16000000 in
theorem back_tail (ps : List Ins) (bs s : List UInt8) (a a2 : Option Addr) (c c2 : Nat) (w : World) (hp : PV w a ps) (hb : Byts w w.heap.size a2 c2 bs) (hE : Env w) {mx : Int} (hM : w.cell? ⟨mxB, 0, none⟩ = some (.int .i64 mx)) :
    Calls Tryz.prog 3 #[.slice a ps.length c, .slice a2 bs.length c2, .string (strB s)] w fun e w' => e = .returned (.bool true) ∧ Below w.heap.size w w' := by
  have L1 : ∀ W, Calls Tryz.prog 4 #[.slice a ps.length c] W fun e w' => e = .returned (.bool (decide (ps.length ≤ 80))) ∧ Below W.heap.size W w' := fun W => (light_any (ps := ps) (a := a) c W).mono (fun e w' h => ⟨h.1, by rw [h.2]; exact Below.refl _ _⟩)
  have HL := fun W (hW : Below w.heap.size w W) => lives_any (hE.on hW)
  have b0 : Below w.heap.size w w := Below.refl _ _
  by_cases hlp : ps.length ≤ 80
  · by_cases hlb : bs.length ≤ 2000
    · simp only [hlp, decide_true] at L1
      have HP := fun W (hW : Below w.heap.size w W) => parse_any (a := a2) (c := c2) (hb.but (S := []) (.of_below hW) (by simp)) (by omega) (hE.on hW).tab
      have HP2 := fun (W : World) (hW : Below w.heap.size w W) (B : Nat) (a2 : Option Addr) (c2 : Nat) (bs : List UInt8) (hb : Byts W B a2 c2 bs) (hl : bs.length ≤ 100000) => parse_any hb hl (hE.on hW).tab
      have HS := fun (W : World) (hW : Below w.heap.size w W) (t : List UInt8) => scan_any t W (hE.on hW).tab (cell_on hW hM)
      have HW := fun W (hW : Below w.heap.size w W) => whole_any c (hp.below hW) (hE.on hW).tab
      have HW2 := fun (W : World) (hW : Below w.heap.size w W) {q : List Ins} {qa : Option Addr} {qc : Nat} (hq : PV W qa q) => whole_any qc hq (hE.on hW).tab
      have HB := fun W (hW : Below w.heap.size w W) => bytes_any c (hp.below hW) (hE.on hW).tab
      have HB2 := fun (W : World) (hW : Below w.heap.size w W) {q : List Ins} {qa : Option Addr} {qc : Nat} (hq : PV W qa q) => bytes_any qc hq (hE.on hW).tab
      have HQ := fun W (hW : Below w.heap.size w W) => print_any c (hp.below hW) (hE.on hW)
      have hl3 : (bs.length : Int) ≤ 2000 := by omega
      have hps := fun W (hW : Below w.heap.size w W) => hp.below hW
      clear hE hlp hlb hM
      go_enter Tryz.func3, Tryz.ntmps3
      go_wp2_with (first
        | (go_at_call 4; (with_reducible refine (L1 _).mono ?_); rintro e w0 ⟨rfl, hb0⟩)
        | (go_at_call 6; (with_reducible refine (HP _ hb0).mono ?_); rintro e w1 ⟨o1, v1, hr1, rfl, hv1, hb1⟩; obtain ⟨xa, xc, ev1, hx1⟩ := hv1.sl; subst ev1; have b1 := hb0.trans (hb1.mono hb0.size)))
      have hx0 : o1 = none ∨ ∃ p1, o1 = some p1 := by cases o1 with | none => exact .inl rfl | some p => exact .inr ⟨p, rfl⟩
      have HX0 := Hid.mk hx0
      have HR1 := Hid.mk hr1
      have HX1 := Hid.mk hx1
      obtain ⟨lx, hlx⟩ : ∃ l, (o1.getD []).length = l := ⟨_, rfl⟩
      obtain ⟨ee, hee⟩ : ∃ ee, pe2 o1 = ee := ⟨_, rfl⟩
      rw [hlx, hee]
      have HLX := Hid.mk hlx
      have HEE := Hid.mk hee
      clear hx0 hr1 hx1 hlx hee hv1
      go_cut [45] from 31 to 45 (fun v wx => v = .bool false ∧ Below w.heap.size w wx)
      case first =>
        rcases HX0.out with ho | ⟨p1, ho⟩
        · have hd1 : (ee == 0) = false := by
            have := HEE.out
            rw [ho] at this
            subst this
            rfl
          have hd2 : ¬ ee = 0 := by simpa using hd1
          clear ho
          go_quiet (fail)
          go_wp2_with fail
          go_meet
          case rel => exact ⟨rfl, below_drewN b1 _⟩
        have hR := HR1.out
        have hX := HX1.out
        have hE0 := HEE.out
        have hL0 := HLX.out
        rw [ho] at hR hX hE0 hL0
        simp only [Option.getD_some] at hX hL0
        obtain ⟨hw1, hbe⟩ := hR
        have hd1 : (ee == 0) = true := by rw [← hE0]; rfl
        have hd2 : ee = 0 := by rw [← hE0]; rfl
        have HWx : ∀ W, Below w.heap.size w W → PV W xa p1 → Calls Tryz.prog 7 #[.slice xa lx xc] W fun e w' => e = .returned (.bool true) ∧ Below W.heap.size W w' := fun W hW hq => by
          have := HW2 W hW (qc := xc) hq
          rw [hL0, hw1] at this
          exact this
        have HBx : ∀ W, Below w.heap.size w W → PV W xa p1 → Calls Tryz.prog 8 #[.slice xa lx xc] W fun e w' => (∃ v, e = .returned v ∧ Own w' W.heap.size v bs) ∧ Below W.heap.size W w' := fun W hW hq => by
          have := HB2 W hW (qc := xc) hq
          have e : bytesA p1 = bs := by unfold bytesA; rw [hw1]; exact hbe
          rw [hL0, e] at this
          exact this
        have HX := Hid.mk hX
        clear hE0 hL0 ho hbe hw1 hX hd2
        refine wp_region_held_drew (S := (fun w' => Below w1.drew.heap.size w1.drew w')) (by kernel_rfl) (Below.refl _ _) (fun hHeld => ?_)
        have bd := b1.drew
        have hx3 : PV w1.drew xa p1 := HX.out
        generalize w1.drew = W at *
        refine anyH_take (i := 0) (v := ?_) (some 31) rfl rfl (by kernel_rfl) (fun _ _ _ h => h) (Or.inl ⟨by rfl, ?_⟩) (by assumption) ?_
        rotate_left
        · (intro w hSw; go_simp; all_goals with_reducible rfl)
        try simp only [Act.put, List.setIfInBounds_toArray, List.set_cons_zero, List.set_cons_succ]
        refine anyH_take (i := 1) (v := ?_) (some 32) rfl rfl (by kernel_rfl) (fun _ _ _ h => h) (Or.inl ⟨by rfl, ?_⟩) (by assumption) ?_
        rotate_left
        · (intro w hSw; go_simp; all_goals with_reducible rfl)
        try simp only [Act.put, List.setIfInBounds_toArray, List.set_cons_zero, List.set_cons_succ]
        refine anyH_take (i := 2) (v := ?_) (some 33) rfl rfl (by kernel_rfl) (fun _ _ _ h => h) (Or.inl ⟨by rfl, ?_⟩) (by assumption) ?_
        rotate_left
        · (intro w hSw; go_simp; all_goals with_reducible rfl)
        try simp only [Act.put, List.setIfInBounds_toArray, List.set_cons_zero, List.set_cons_succ]
        refine anyH_take (i := 3) (v := ?_) (some 34) rfl rfl (by kernel_rfl) (fun _ _ _ h => h) (Or.inl ⟨by rfl, ?_⟩) (by assumption) ?_
        rotate_left
        · (intro w hSw; go_simp; all_goals with_reducible rfl)
        try simp only [Act.put, List.setIfInBounds_toArray, List.set_cons_zero, List.set_cons_succ]
        refine anyH_one (i := 4) (by kernel_rfl) rfl (fun K hK => ?_)
        go_simp
        go_at_call 7
        refine (HWx _ bd hx3).mono ?_
        rintro e w3 ⟨rfl, hb3⟩
        refine hK.out _ _ (hb3) (fun hHeld => ?_)
        clear hK K
        try simp only [Act.put, List.setIfInBounds_toArray, List.set_cons_zero, List.set_cons_succ]
        have b3 := bd.trans (hb3.mono bd.size)
        have hx4 := hx3.below hb3
        refine anyH_mono (S2 := fun w' => Below w3.heap.size w3 w') (fun w' h => hb3.trans (h.mono hb3.size)) ?_
        have hHw3 : Below w3.heap.size w3 w3 := Below.refl _ _
        clear hHeld
        refine anyH_take (i := 5) (v := ?_) (some 36) rfl rfl (by kernel_rfl) (fun _ _ _ h => h) (Or.inl ⟨by rfl, ?_⟩) (by assumption) ?_
        rotate_left
        · (intro w hSw; go_simp; all_goals with_reducible rfl)
        try simp only [Act.put, List.setIfInBounds_toArray, List.set_cons_zero, List.set_cons_succ]
        refine anyH_take (i := 6) (v := ?_) (some 37) rfl rfl (by kernel_rfl) (fun _ _ _ h => h) (Or.inl ⟨by rfl, ?_⟩) (by assumption) ?_
        rotate_left
        · (intro w hSw; go_simp; all_goals with_reducible rfl)
        try simp only [Act.put, List.setIfInBounds_toArray, List.set_cons_zero, List.set_cons_succ]
        refine anyH_take (i := 7) (v := ?_) (some 38) rfl rfl (by kernel_rfl) (fun _ _ _ h => h) (Or.inl ⟨by rfl, ?_⟩) (by assumption) ?_
        rotate_left
        · (intro w hSw; go_simp; all_goals with_reducible rfl)
        try simp only [Act.put, List.setIfInBounds_toArray, List.set_cons_zero, List.set_cons_succ]
        refine anyH_take (i := 10) (v := ?_) (some 41) rfl rfl (by kernel_rfl) (fun _ _ _ h => h) (Or.inl ⟨by rfl, ?_⟩) (by assumption) ?_
        rotate_left
        · (intro w hSw; go_simp; all_goals with_reducible rfl)
        try simp only [Act.put, List.setIfInBounds_toArray, List.set_cons_zero, List.set_cons_succ]
        refine anyH_take (i := 11) (v := ?_) (some 42) rfl rfl (by kernel_rfl) (fun _ _ _ h => h) (Or.inl ⟨by rfl, ?_⟩) (by assumption) ?_
        rotate_left
        · (intro w hSw; have q2 := conv_byts (a := a2) (c := c2) ((hb.but (S := []) (.of_below b3) (by simp)).but (S := []) (.of_below hSw) (by simp)) rfl; go_simp; all_goals with_reducible rfl)
        try simp only [Act.put, List.setIfInBounds_toArray, List.set_cons_zero, List.set_cons_succ]
        refine anyH_one (i := 8) (by kernel_rfl) rfl (fun K hK => ?_)
        go_simp
        go_at_call 8
        refine (HBx _ b3 hx4).mono ?_
        rintro e w4 ⟨⟨v4, rfl, ho4⟩, hb4⟩
        refine hK.out _ _ (hb4) (fun hHeld => ?_)
        clear hK K
        try simp only [Act.put, List.setIfInBounds_toArray, List.set_cons_zero, List.set_cons_succ]
        have b4 := b3.trans (hb4.mono b3.size)
        refine anyH_mono (S2 := fun w' => Below w4.heap.size w4 w') (fun w' h => hb4.trans (h.mono hb4.size)) ?_
        have hHw4 : Below w4.heap.size w4 w4 := Below.refl _ _
        clear hHeld
        refine anyH_take (i := 9) (v := ?_) (some 40) rfl rfl (by kernel_rfl) (fun _ _ _ h => h) (Or.inl ⟨by rfl, ?_⟩) (by assumption) ?_
        rotate_left
        · (intro w hSw; have q1 := conv_own (ho4.below hSw); go_simp; all_goals with_reducible rfl)
        try simp only [Act.put, List.setIfInBounds_toArray, List.set_cons_zero, List.set_cons_succ]
        refine anyH_take (i := 12) (v := ?_) (some 43) rfl rfl (by kernel_rfl) (fun _ _ _ h => h) (Or.inl ⟨by rfl, ?_⟩) (by assumption) ?_
        rotate_left
        · (intro w hSw; go_simp; all_goals with_reducible rfl)
        try simp only [Act.put, List.setIfInBounds_toArray, List.set_cons_zero, List.set_cons_succ]
        refine anyH_take (i := 13) (v := ?_) (some 44) rfl rfl (by kernel_rfl) (fun _ _ _ h => h) (Or.inl ⟨by rfl, ?_⟩) (by assumption) ?_
        rotate_left
        · (intro w hSw; go_simp; all_goals with_reducible rfl)
        try simp only [Act.put, List.setIfInBounds_toArray, List.set_cons_zero, List.set_cons_succ]
        refine anyH_take (i := 14) (v := ?_) (some 45) rfl rfl (by kernel_rfl) (fun _ _ _ h => h) (Or.inl ⟨by rfl, ?_⟩) (by assumption) ?_
        rotate_left
        · (intro w hSw; go_simp; all_goals with_reducible rfl)
        try simp only [Act.put, List.setIfInBounds_toArray, List.set_cons_zero, List.set_cons_succ]
        refine wpAnyH_done (by kernel_rfl) ?_ _
        go_wp2_with fail
        go_meet
        case rel => exact ⟨rfl, b4⟩
      case rest =>
        obtain ⟨rfl, b2⟩ := hcut
        clear HX0 HR1 HX1 HLX HEE HP HB2 hb
        have HSW := scan_whole (s := s)
        have HSs : Calls Tryz.prog 9 #[.string (strB s)] wc fun e w' => (∃ ya yc, e = .returned (.tuple #[.slice ya (scanV s).1.length yc, .int .i64 ((scanV s).2.1 : Nat), .int .i64 ((scanV s).2.2 : Nat)]) ∧ PV w' ya (scanV s).1) ∧ Below wc.heap.size wc w' := (HS wc b2 s).mono (fun e w' h => ⟨h.1.sl, h.2⟩)
        rcases hsv : scanV s with ⟨q, n1, z2⟩
        rw [hsv] at HSs HSW
        dsimp only at HSs HSW
        clear hsv
        obtain ⟨lq, hlq⟩ : ∃ l, q.length = l := ⟨_, rfl⟩
        rw [hlq] at HSs
        obtain ⟨zz, hzz⟩ : ∃ zz : Int, (z2 : Int) = zz := ⟨_, rfl⟩
        rw [hzz] at HSs
        generalize (n1 : Int) = nn at HSs
        have HZZ := Hid.mk hzz
        have HLQ := Hid.mk hlq
        have HSWh := Hid.mk HSW
        clear hzz hlq HSW
        go_upto_region 7 with (go_at_call 9; (with_reducible refine HSs.mono ?_); rintro e w3 ⟨⟨ya, yc, rfl, hy3⟩, hb3⟩; have b3 := b2.trans (hb3.mono b2.size))
        have HY3 := Hid.mk hy3
        clear hy3
        go_cut [58] from 52 to 58 (fun v wx => v = .bool false ∧ Below w.heap.size w wx)
        case first =>
          by_cases he : zz = 0
          · have hz20 : z2 = 0 := by have := HZZ.out; omega
            have hsw := HSWh.out hz20
            have HWs := HW2 _ b3 (qc := yc) HY3.out
            rw [hsw, HLQ.out] at HWs
            clear hsw hz20
            have he1 : (zz == 0) = true := by simpa using he
            clear he
            go_wp2_with (go_at_call 7; (with_reducible refine HWs.mono ?_); rintro e w4 ⟨rfl, hb4⟩; have b4 := b3.trans (hb4.mono b3.size))
            go_meet
            case rel => exact ⟨rfl, b4⟩
          · have he1 : (zz == 0) = false := by simpa using he
            go_wp2_with fail
            go_meet
            case rel => exact ⟨rfl, b3⟩
        case rest =>
          obtain ⟨rfl, b4⟩ := hcut
          clear HSs HY3 HZZ HLQ HSWh b2 b3 b1 HW2
          cases hwp : wholeB ps with
          | false =>
            have eB : bytesA ps = [] := by unfold bytesA; rw [hwp]; rfl
            have eP : printA ps = [] := by unfold printA; rw [hwp]; rfl
            rw [hwp] at HW
            rw [eB] at HB
            rw [eP] at HQ
            clear eB eP hwp hp hps HP2 HS
            generalize ps.length = n at *
            generalize bs.length = m at *
            go_wp2_with (first
              | (go_at_call 7; (with_reducible refine (HW _ b4).mono ?_); rintro e w5 ⟨rfl, hb5⟩; have b5 := b4.trans (hb5.mono b4.size))
              | (go_at_call 8; (with_reducible refine (HB _ b5).mono ?_); rintro e w6 ⟨⟨v6, rfl, ho6⟩, hb6⟩; obtain ⟨va, vc, ev6, _⟩ := own_sl ho6 (n := 0) rfl; subst ev6; have b6 := b5.trans (hb6.mono b5.size))
              | (go_at_call 10; (with_reducible refine (HQ _ b6).mono ?_); rintro e w7 ⟨rfl, hb7⟩; have b7 := b6.trans (hb7.mono b6.size))
              | (go_at_call 5; (with_reducible refine (HL _ b7).mono ?_); rintro e w8 ⟨rfl, hb8⟩))
            go_ret
            exact ⟨rfl, b7.trans (hb8.mono b7.size)⟩
          | true =>
            have eB : bytesA ps = bytesL ps := by unfold bytesA; rw [hwp]; rfl
            have eP : printA ps = printL ps := by unfold printA; rw [hwp]; rfl
            rw [hwp] at HW
            rw [eB] at HB
            rw [eP] at HQ
            have HSp : ∀ W, Below w.heap.size w W → Calls Tryz.prog 9 #[.string ⟨(printL ps).toArray⟩] W fun e w' => (∃ ya yc, e = .returned (.tuple #[.slice ya ps.length yc, .int .i64 0, .int .i64 0]) ∧ PV w' ya ps) ∧ Below W.heap.size W w' := fun W hW => by
              refine (HS W hW (printL ps)).mono (fun e w' h => ⟨?_, h.2⟩)
              have := h.1.sl
              rw [scan_print hwp] at this
              exact this
            have HSm : ∀ (W : World) (xa ya : Option Addr) (xc yc : Nat), PV W xa ps → PV W ya ps → Calls Tryz.prog 11 #[.slice xa ps.length xc, .slice ya ps.length yc] W fun e w' => e = .returned (.bool true) ∧ Below W.heap.size W w' := fun W xa ya xc yc h1 h2 => by
              have := same_any (xc := xc) (yc := yc) h1 h2 (by have := (wholeB_iff.1 hwp).1; omega)
              simpa using this
            have hres : Res (bytesL ps) (some ps) := ⟨hwp, rfl⟩
            have HRes := Hid.mk hres
            have hblen := bytesL_len ps
            have h64 := (wholeB_iff.1 hwp).1
            have hHd := fun W hW => Hid.mk (hps W hW)
            clear eB eP hwp hp hps HS hres
            obtain ⟨lb, hlb2⟩ : ∃ l, (bytesL ps).length = l := ⟨_, rfl⟩
            have HLB := Hid.mk hlb2
            have hlb5 : lb ≤ 100000 := by omega
            clear hlb2 hblen
            generalize hn : ps.length = n at *
            have HN := Hid.mk hn
            clear hn
            generalize bs.length = m at *
            go_wp2_with (first
              | (go_at_call 7; (with_reducible refine (HW _ b4).mono ?_); rintro e w5 ⟨rfl, hb5⟩; have b5 := b4.trans (hb5.mono b4.size))
              | (go_at_call 8; (with_reducible refine (HB _ b5).mono ?_); rintro e w6 ⟨⟨v6, rfl, ho6⟩, hb6⟩; obtain ⟨va, vc, ev6, hy6⟩ := own_sl ho6 HLB.out; subst ev6; have b6 := b5.trans (hb6.mono b5.size); have HPb := HP2 w6 b6 _ _ _ _ hy6 (by rw [HLB.out]; exact hlb5); rw [HLB.out] at HPb)
              | (go_at_call 6; (with_reducible refine HPb.mono ?_); rintro e w7 ⟨o7, v7, hr7, rfl, hv7, hb7⟩; obtain rfl := HRes.out.same hr7; obtain ⟨za, zc, ev7, hz7⟩ := hv7.sl; simp only [Option.getD_some, HN.out, pe2] at ev7; subst ev7; have b7 := b6.trans (hb7.mono b6.size))
              | (go_at_call 10; first
                  | ((with_reducible refine (HQ _ b7).mono ?_); rintro e w8 ⟨rfl, hb8⟩; have b8 := b7.trans (hb8.mono b7.size)))
              | (go_at_call 9; (with_reducible refine (HSp _ b8).mono ?_); rintro e w9 ⟨⟨ta, tc, rfl, ht9⟩, hb9⟩; have b9 := b8.trans (hb9.mono b8.size); have hz9 := ((show PV w7 za ps from hz7).below hb8).below hb9; have hp9 := (hHd _ b9).out)
              | (go_at_call 11; first
                  | ((with_reducible refine (HSm w9 za a zc c hz9 hp9).mono ?_); rintro e w10 ⟨rfl, hb10⟩; have b10 := b9.trans (hb10.mono b9.size); have ht10 := ht9.below hb10; have hp10 := hp9.below hb10)
                  | ((with_reducible refine (HSm w10 ta a tc c ht10 hp10).mono ?_); rintro e w11 ⟨rfl, hb11⟩; have b11 := b10.trans (hb11.mono b10.size)))
              | (go_at_call 5; (with_reducible refine (HL _ b11).mono ?_); rintro e w12 ⟨rfl, hb12⟩))
            go_ret
            exact ⟨rfl, b11.trans (hb12.mono b11.size)⟩
    · simp only [hlp, decide_true] at L1
      have hl3 : ¬ (bs.length : Int) ≤ 2000 := by omega
      clear hp hb hE hlp hlb
      generalize ps.length = n at *
      generalize bs.length = m at *
      go_enter Tryz.func3, Tryz.ntmps3
      go_wp2_with (first
        | (go_at_call 4; (with_reducible refine (L1 _).mono ?_); rintro e w0 ⟨rfl, hb0⟩)
        | (go_at_call 5; (with_reducible refine (HL _ hb0).mono ?_); rintro e w9 ⟨rfl, q9⟩))
      go_ret
      exact ⟨rfl, hb0.trans (q9.mono hb0.size)⟩
  · simp only [hlp, decide_false] at L1
    clear hp hb hE hlp
    generalize ps.length = n at *
    generalize bs.length = m at *
    go_enter Tryz.func3, Tryz.ntmps3
    go_wp2_with (first
      | (go_at_call 4; (with_reducible refine (L1 _).mono ?_); rintro e w0 ⟨rfl, hb0⟩)
      | (go_at_call 5; (with_reducible refine (HL _ hb0).mono ?_); rintro e w9 ⟨rfl, q9⟩))
    go_ret
    exact ⟨rfl, hb0.trans (q9.mono hb0.size)⟩

end Go.Proofs.YtbcdjpafdmgbmaaGreatDoor
namespace Go.Proofs.YtbcdjpafdmgbmaaGreatDoor
open Go

theorem wrap_shaped {H : Type} {enc : TypeId × Value → H} {a : Assume} {C : Checked} {os : Os} {f : FuncId} {fn : Func} {s : ChangeSpec} {conds : List PathCond} {apart fresh handsOn again : Bool} {X : World → Array Value → Prop}
    (hX : ∀ (w w' : World) (args : Array Value), w.heap = w'.heap → X w args → X w' args)
    (own : ownKnob C.prog.godebug = none) (started : os.Started) (noInit : C.prog.inits.idxOf? f = none) (hfn : C.prog.funcs[f]? = some fn)
    (witness : ∃ (w : World) (tape : Tape) (i : Input), w.os = os ∧ (w.forCall tape i).Shaped C.prog ∧ i.vars = [] ∧ Input.okWide C.prog (w.forCall tape i) .any w.heap.size f i ∧
      ((s.pre enc C.prog fn conds apart (w.forCall tape i).memory i.args ∧ X (w.forCall tape i).memory i.args) ∧ sizedMet enc C.prog fn (OpenSpec.ofChange s) apart (w.forCall tape i).memory i.args) ∧ a.holds C.prog (lone (Frame.enter C.prog f i.args .normal) [] (w.forCall tape i)))
    (contract : ∀ (W : World) (base : Nat) (args : Array Value) (ds gs : List (DataW H)) (before : List MemPlace),
      (∀ (j : Nat) t v, fn.params[j]? = some t → args[j]? = some v → Value.okWide C.prog W .any base t v) →
      DataW.Whole enc C.prog fn.params.toList s.vars apart W args.toList ds gs before → X W args → W.ShapedOpen C.prog →
      Calls C.prog f args W fun e W' => ∃ v, e = .returned v ∧ s.post enc C.prog fn apart fresh handsOn again W args v W') :
    ReturnsInHanded a C os f .any (fun w args => (s.pre enc C.prog fn conds apart w args ∧ X w args) ∧ sizedMet enc C.prog fn (OpenSpec.ofChange s) apart w args) (s.post enc C.prog fn apart fresh handsOn again) := by
  refine returnsInHanded_of_calls own started noInit witness ?_
  intro w tape i _ hsh _ hok hpre _
  obtain ⟨_, _, _, fn', hfn', _, _, _, _, hval⟩ := hok
  obtain rfl : fn' = fn := Option.some.inj (hfn'.symm.trans hfn)
  obtain ⟨⟨⟨ds, gs, before, hw, _⟩, hx⟩, _⟩ := hpre
  refine (contract (w.forCall tape i) w.heap.size i.args ds gs before hval (DataW.Whole.of_heap (w' := w.forCall tape i) (by rfl) hw) (hX _ _ _ (by rfl) hx) hsh).mono fun e W' ⟨v, he, hp⟩ => ?_
  subst he
  exact ChangeSpec.post_blind hp

end Go.Proofs.YtbcdjpafdmgbmaaGreatDoor
