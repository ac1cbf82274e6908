/- The reference's Bytes, by what a kind has. -/
/- The reference's Bytes, of any event that may be. -/
import Derived.Test.YteiidkojofaamaaDoorJ01Rows2
import Derived.Deep.CutRange
import Derived.Test.YteiidkojofaamaaDoorJ02Rows2
namespace Go.Proofs.YteiidkojofaamaaDoor
open Go Go.RowKit

set_option maxHeartbeats 4000000 in
set_option maxRecDepth 100000 in
theorem rby_p (e : Ev) (w : World) (k : Nat) (he : e.kd = (k : Int)) (hk1 : (1 : Int) ≤ (k : Int)) (hk7 : (k : Int) ≤ 7) (hg : goodE e = true) (htk : thrB (k : Int) = true) (hvk : valB (k : Int) = false) (HT : ∀ W : World, Calls Tryd.prog 32 #[.int .i64 (k : Int)] W fun r w' => r = .returned (.bool true) ∧ w' = W) (HV : ∀ W : World, Calls Tryd.prog 33 #[.int .i64 (k : Int)] W fun r w' => r = .returned (.bool false) ∧ w' = W) (hp : ((k : Int) == 2) = true) (ha : 0 ≤ e.ac ∧ e.ac ≤ 1099511627776) (ht : 0 ≤ e.th ∧ e.th ≤ 1099511627776) (hh : ∀ x ∈ hdL e, 0 ≤ x ∧ x ≤ 1099511627776) (hR : RgE e) :
    Calls Tryd.prog 13 #[.agg (evA e)] w fun r w' => ∃ v, r = .returned v ∧ Own w' w.heap.size v (byt e) ∧ Below w.heap.size w w' := by
  have tk : Hid (thrB (k : Int) = true) := htk
  have vk : Hid (valB (k : Int) = false) := hvk
  have B0 : Below w.heap.size w (w.alloc (.cells (evA e) 26)) := (Below.refl _ w).alloc (Nat.le_refl _) _
  have HG := rgood_any e (w.alloc (.cells (evA e) 26))
  rw [hg] at HG
  have E0 : Cel (w.alloc (.cells (evA e) 26)) w.heap.size (evA e) 26 := Cel.new w _ 26
  have hkk : (k : Int) = 2 ↔ True := by
    simpa using hp
  have HF : Hid (byt e = [UInt8.ofNat k] ++ numI e.ac ++ numI e.th ++ (numsL (hdL e) ++ intsF (rgL e))) := by
    refine Hid.mk ?_
    unfold byt thL vaL cxL
    rw [he, show thrB (k : Int) = true from tk.out, show valB (k : Int) = false from vk.out]
    simp [hkk, numsL, hdL, rgL, regL, List.append_assoc]
  have n0 := numI_len e.ac
  have n1 := numI_len e.th
  obtain ⟨ha1, ha2⟩ := ha
  obtain ⟨ht1, ht2⟩ := ht
  clear htk hvk tk vk hkk hg
  have HE := Hid.mk he
  unfold evA at HG ⊢
  rw [he] at HG ⊢
  clear he
  go_enter Tryd.func13, Tryd.ntmps13
  go_upto_region 3 with (go_at_call 9; (with_reducible refine HG.mono ?_); rintro r w1 ⟨rfl, hb1⟩)
  have hE1 : Cel w1 w.heap.size (evA e) 26 := E0.below (by unfold evA; rw [HE.out]; exact hb1)
  have B1 : Below w.heap.size w w1 := B0.trans (Below.mono (by unfold evA; rw [HE.out]; exact hb1) B0.size)
  have c0 : w1.cell? ⟨w.heap.size, 0, none⟩ = some (.int .i64 (k : Int)) := by rw [← HE.out]; exact hE1.cell (j := 0) rfl
  have c1 : w1.cell? ⟨w.heap.size, 1, none⟩ = some (.int .i64 e.ac) := hE1.cell (j := 1) rfl
  have hu8 : ((UInt8.ofNat k).toNat : Int) = (k : Int) := by rw [UInt8.toNat_ofNat', Nat.mod_eq_of_lt (by omega)]
  have O1 : Own (w1.alloc (.cells #[.int .u8 (k : Int)] 5)) w.heap.size (.slice (some ⟨w1.heap.size, 0, none⟩) 1 1) [UInt8.ofNat k] := by
    have := World.ownsRow_lit (base := w.heap.size) (e := 5) (size := 1) w1 #[.int .u8 (k : Int)] 1 B1.size (by unfold maxLen; omega) rfl
    unfold Own bc
    simp only [List.map_cons, List.map_nil, hu8]
    exact this
  have Ba : Below w1.heap.size w1 (w1.alloc (.cells #[.int .u8 (k : Int)] 5)) := (Below.refl _ w1).alloc (Nat.le_refl _) _
  have b1 := B1.trans (Ba.mono B1.size)
  have d1 := cell_on Ba c1
  have hEa := hE1.below Ba
  have C1 := rnum_own O1 b1.size ⟨ha1, ha2⟩ (by simp)
  clear HG E0 B0 hb1 O1 hu8
  go_upto_region 9 with (first | (go_at_call 32; (with_reducible refine (HT _).mono ?_); rintro r w' ⟨rfl, hw⟩; subst w') | (go_at_call 33; (with_reducible refine (HV _).mono ?_); rintro r w' ⟨rfl, hw⟩; subst w') | (go_at_call 39; first | ((with_reducible refine C1.mono ?_); rintro r w2 ⟨v2, rfl, ho2, hb2⟩; have b2 := b1.trans (hb2.mono b1.size); have hE2 := hEa.below hb2; have e20 : w2.cell? ⟨w.heap.size, 0, none⟩ = some (.int .i64 (k : Int)) := cell_on hb2 (cell_on Ba c0); have e22 : w2.cell? ⟨w.heap.size, 2, none⟩ = some (.int .i64 e.th) := hE2.cell (j := 2) rfl; have e23 : w2.cell? ⟨w.heap.size, 3, none⟩ = some (.int .i64 e.va) := hE2.cell (j := 3) rfl; have C2 := rnum_own ho2 b2.size ⟨ht1, ht2⟩ (by simp; omega)) | ((with_reducible refine C2.mono ?_); rintro r w3 ⟨v3, rfl, ho3, hb3⟩; have b3 := b2.trans (hb3.mono b2.size); have hE3 := hE2.below hb3; have e30 : w3.cell? ⟨w.heap.size, 0, none⟩ = some (.int .i64 (k : Int)) := cell_on hb3 e20; have e33 : w3.cell? ⟨w.heap.size, 3, none⟩ = some (.int .i64 e.va) := hE3.cell (j := 3) rfl; skip)))
  have g4 : w3.cell? ⟨w.heap.size, 4, none⟩ = some (.int .i64 e.pg) := hE3.cell (j := 4) rfl
  have g5 : w3.cell? ⟨w.heap.size, 5, none⟩ = some (.int .i64 e.pc) := hE3.cell (j := 5) rfl
  have g14 : w3.cell? ⟨w.heap.size, 14, none⟩ = some (.int .i64 e.dp) := hE3.cell (j := 14) rfl
  obtain ⟨l, hl0⟩ : ∃ l, Hid ([UInt8.ofNat k] ++ numI e.ac ++ numI e.th = l) := ⟨_, rfl⟩
  have hll : l.length ≤ 100 := by rw [← hl0.out]; simp; omega
  have HO : Hid (Own w3 w.heap.size v3 l) := by rw [← hl0.out]; exact Hid.mk ho3
  rw [hl0.out] at HF
  clear ho3
  go_wp2_with fail
  go_loopw [48, 3, 5] (fun v48 v3 _ wr => ∃ j : Nat, j ≤ 3 ∧ v48 = .int .i64 j ∧ Own wr w.heap.size v3 (l ++ numsL ((hdL e).take j)) ∧ Below w3.heap.size w3 wr) (fun v48 _ _ _ => 3 - (intOf v48).toNat)
  case atStart => exact ⟨0, by omega, rfl, by simpa [numsL] using HO.out, Below.refl _ _⟩
  case round =>
    obtain ⟨j, hj, rfl, ho, hb⟩ := hrel
    have bw := b3.trans (hb.mono b3.size)
    by_cases hlt : j < 3
    · have hlt' : (j : Int) < 3 := by omega
      have hgj : (hdL e)[j]? = some (hdL e)[j] := List.getElem?_eq_getElem hlt
      have hrj := hh _ (List.mem_of_getElem? hgj)
      have hxx : (j = 0 ∧ (hdL e)[j] = e.pg) ∨ (j = 1 ∧ (hdL e)[j] = e.pc) ∨ (j = 2 ∧ (hdL e)[j] = e.dp) := by
        rcases (show j = 0 ∨ j = 1 ∨ j = 2 by omega) with rfl | rfl | rfl
        · exact .inl ⟨rfl, rfl⟩
        · exact .inr (.inl ⟨rfl, rfl⟩)
        · exact .inr (.inr ⟨rfl, rfl⟩)
      have hst := numsL_step hgj
      have hnl := numsL_len ((hdL e).take j)
      rw [List.length_take] at hnl
      generalize (hdL e)[j] = x at *
      have HS : Hid (l ++ numsL ((hdL e).take j) ++ numI x = l ++ numsL ((hdL e).take (j + 1))) := by rw [hst, List.append_assoc]; exact Hid.mk rfl
      have CN := rnum_own ho bw.size hrj (by rw [List.length_append]; omega)
      obtain ⟨hx1, hx2⟩ := hrj
      clear hst hgj ho
      rcases hxx with ⟨hj0, hx0⟩ | ⟨hj0, hx0⟩ | ⟨hj0, hx0⟩
      · have hjc : (j : Int) = 0 := by omega
        have HJ := Hid.mk hj0
        rw [hjc]
        have HX0 := Hid.mk hx0
        rw [hx0] at hx1 hx2 CN
        clear hjc hj0 hlt' hlt hx0
        have HI : ∀ W : World, (Instr.index 68 (.agg #[.int .i64 e.pg, .int .i64 e.pc, .int .i64 e.dp]) (.int .i64 0)).run Tryd.prog W = .ok (.int .i64 e.pg) W := fun W => index3 _ 0 _ (by decide) rfl W
        go_wp2_with (go_at_call 39; (with_reducible refine CN.mono ?_); rintro r w7 ⟨v7, rfl, ho7, hb7⟩)
        go_roundw
        case rel => exact ⟨j + 1, by have := HJ.out; omega, by rw [HJ.out]; rfl, by rw [← HS.out, HX0.out]; exact ho7, hb.trans (hb7.mono hb.size)⟩
        case measure => simp [intOf]
      · have hjc : (j : Int) = 1 := by omega
        have HJ := Hid.mk hj0
        rw [hjc]
        have HX0 := Hid.mk hx0
        rw [hx0] at hx1 hx2 CN
        clear hjc hj0 hlt' hlt hx0
        have HI : ∀ W : World, (Instr.index 68 (.agg #[.int .i64 e.pg, .int .i64 e.pc, .int .i64 e.dp]) (.int .i64 1)).run Tryd.prog W = .ok (.int .i64 e.pc) W := fun W => index3 _ 1 _ (by decide) rfl W
        go_wp2_with (go_at_call 39; (with_reducible refine CN.mono ?_); rintro r w7 ⟨v7, rfl, ho7, hb7⟩)
        go_roundw
        case rel => exact ⟨j + 1, by have := HJ.out; omega, by rw [HJ.out]; rfl, by rw [← HS.out, HX0.out]; exact ho7, hb.trans (hb7.mono hb.size)⟩
        case measure => simp [intOf]
      · have hjc : (j : Int) = 2 := by omega
        have HJ := Hid.mk hj0
        rw [hjc]
        have HX0 := Hid.mk hx0
        rw [hx0] at hx1 hx2 CN
        clear hjc hj0 hlt' hlt hx0
        have HI : ∀ W : World, (Instr.index 68 (.agg #[.int .i64 e.pg, .int .i64 e.pc, .int .i64 e.dp]) (.int .i64 2)).run Tryd.prog W = .ok (.int .i64 e.dp) W := fun W => index3 _ 2 _ (by decide) rfl W
        go_wp2_with (go_at_call 39; (with_reducible refine CN.mono ?_); rintro r w7 ⟨v7, rfl, ho7, hb7⟩)
        go_roundw
        case rel => exact ⟨j + 1, by have := HJ.out; omega, by rw [HJ.out]; rfl, by rw [← HS.out, HX0.out]; exact ho7, hb.trans (hb7.mono hb.size)⟩
        case measure => simp [intOf]
    · have hj3 : j = 3 := by omega
      have hjc : (j : Int) = 3 := by omega
      rw [hjc]
      rw [hj3, show (hdL e).take 3 = hdL e from rfl] at ho
      clear hjc hj3 hlt hj
      have hEw := hE3.below hb
      have r0 : wr.cell? ⟨w.heap.size, 6, none⟩ = some (.int .i64 (e.rs 0)) := hEw.cell (j := 6) rfl
      have r1 : wr.cell? ⟨w.heap.size, 7, none⟩ = some (.int .i64 (e.rs 1)) := hEw.cell (j := 7) rfl
      have r2 : wr.cell? ⟨w.heap.size, 8, none⟩ = some (.int .i64 (e.rs 2)) := hEw.cell (j := 8) rfl
      have r3 : wr.cell? ⟨w.heap.size, 9, none⟩ = some (.int .i64 (e.rs 3)) := hEw.cell (j := 9) rfl
      have r4 : wr.cell? ⟨w.heap.size, 10, none⟩ = some (.int .i64 (e.rs 4)) := hEw.cell (j := 10) rfl
      have r5 : wr.cell? ⟨w.heap.size, 11, none⟩ = some (.int .i64 (e.rs 5)) := hEw.cell (j := 11) rfl
      have r6 : wr.cell? ⟨w.heap.size, 12, none⟩ = some (.int .i64 (e.rs 6)) := hEw.cell (j := 12) rfl
      have r7 : wr.cell? ⟨w.heap.size, 13, none⟩ = some (.int .i64 (e.rs 7)) := hEw.cell (j := 13) rfl
      have hnl := numsL_len (hdL e)
      have hl2 : (l ++ numsL (hdL e)).length ≤ 200 := by rw [show (hdL e).length = 3 from rfl] at hnl; rw [List.length_append]; omega
      obtain ⟨l2, hl2e⟩ : ∃ l2, Hid (l ++ numsL (hdL e) = l2) := ⟨_, rfl⟩
      rw [hl2e.out] at ho hl2
      have HF2 : Hid (byt e = l2 ++ intsF (rgL e)) := by rw [HF.out, ← hl2e.out, List.append_assoc]; exact Hid.mk rfl
      have HOO := Hid.mk ho
      clear ho hnl
      go_wp2_with fail
      go_loopw [59, 3, 7] (fun v59 v3 _ wq => ∃ j : Nat, j ≤ 8 ∧ v59 = .int .i64 j ∧ Own wq w.heap.size v3 (l2 ++ intsF ((rgL e).take j)) ∧ Below wr.heap.size wr wq) (fun v59 _ _ _ => 8 - (intOf v59).toNat)
      case atStart => exact ⟨0, by omega, rfl, by simpa [intsF] using HOO.out, Below.refl _ _⟩
      case round =>
        obtain ⟨j, hj8, rfl, ho, hbq⟩ := hrel
        have bq := bw.trans (hbq.mono bw.size)
        by_cases hlt8 : j < 8
        · have hlt8' : (j : Int) < 8 := by omega
          have hnl := intsF_len ((rgL e).take j)
          rw [List.length_take] at hnl
          have HS : Hid (l2 ++ intsF ((rgL e).take j) ++ numL (zigN (e.rs j)) = l2 ++ intsF ((rgL e).take (j + 1))) := by rw [ints_step e hlt8, List.append_assoc]; exact Hid.mk rfl
          have CN := rint_own ho bq.size (hR.reg hlt8) (by rw [List.length_append]; omega)
          clear ho hnl
          rcases (show j = 0 ∨ j = 1 ∨ j = 2 ∨ j = 3 ∨ j = 4 ∨ j = 5 ∨ j = 6 ∨ j = 7 by omega) with hj0 | hj0 | hj0 | hj0 | hj0 | hj0 | hj0 | hj0
          · have hjc : (j : Int) = 0 := by omega
            have HJ := Hid.mk hj0
            rw [hjc]
            rw [hj0] at CN
            clear hjc hj0 hlt8' hlt8
            have HI : ∀ W : World, (Instr.index 22 (.agg #[.int .i64 (e.rs 0), .int .i64 (e.rs 1), .int .i64 (e.rs 2), .int .i64 (e.rs 3), .int .i64 (e.rs 4), .int .i64 (e.rs 5), .int .i64 (e.rs 6), .int .i64 (e.rs 7)]) (.int .i64 0)).run Tryd.prog W = .ok (.int .i64 (e.rs 0)) W := fun W => index8 _ 0 _ (by decide) rfl W
            go_wp2_with (go_at_call 40; (with_reducible refine CN.mono ?_); rintro r w8 ⟨v8, rfl, ho8, hb8⟩)
            go_roundw
            case rel => exact ⟨j + 1, by have := HJ.out; omega, by rw [HJ.out]; rfl, by rw [← HS.out, HJ.out]; exact ho8, hbq.trans (hb8.mono hbq.size)⟩
            case measure => simp [intOf]
          · have hjc : (j : Int) = 1 := by omega
            have HJ := Hid.mk hj0
            rw [hjc]
            rw [hj0] at CN
            clear hjc hj0 hlt8' hlt8
            have HI : ∀ W : World, (Instr.index 22 (.agg #[.int .i64 (e.rs 0), .int .i64 (e.rs 1), .int .i64 (e.rs 2), .int .i64 (e.rs 3), .int .i64 (e.rs 4), .int .i64 (e.rs 5), .int .i64 (e.rs 6), .int .i64 (e.rs 7)]) (.int .i64 1)).run Tryd.prog W = .ok (.int .i64 (e.rs 1)) W := fun W => index8 _ 1 _ (by decide) rfl W
            go_wp2_with (go_at_call 40; (with_reducible refine CN.mono ?_); rintro r w8 ⟨v8, rfl, ho8, hb8⟩)
            go_roundw
            case rel => exact ⟨j + 1, by have := HJ.out; omega, by rw [HJ.out]; rfl, by rw [← HS.out, HJ.out]; exact ho8, hbq.trans (hb8.mono hbq.size)⟩
            case measure => simp [intOf]
          · have hjc : (j : Int) = 2 := by omega
            have HJ := Hid.mk hj0
            rw [hjc]
            rw [hj0] at CN
            clear hjc hj0 hlt8' hlt8
            have HI : ∀ W : World, (Instr.index 22 (.agg #[.int .i64 (e.rs 0), .int .i64 (e.rs 1), .int .i64 (e.rs 2), .int .i64 (e.rs 3), .int .i64 (e.rs 4), .int .i64 (e.rs 5), .int .i64 (e.rs 6), .int .i64 (e.rs 7)]) (.int .i64 2)).run Tryd.prog W = .ok (.int .i64 (e.rs 2)) W := fun W => index8 _ 2 _ (by decide) rfl W
            go_wp2_with (go_at_call 40; (with_reducible refine CN.mono ?_); rintro r w8 ⟨v8, rfl, ho8, hb8⟩)
            go_roundw
            case rel => exact ⟨j + 1, by have := HJ.out; omega, by rw [HJ.out]; rfl, by rw [← HS.out, HJ.out]; exact ho8, hbq.trans (hb8.mono hbq.size)⟩
            case measure => simp [intOf]
          · have hjc : (j : Int) = 3 := by omega
            have HJ := Hid.mk hj0
            rw [hjc]
            rw [hj0] at CN
            clear hjc hj0 hlt8' hlt8
            have HI : ∀ W : World, (Instr.index 22 (.agg #[.int .i64 (e.rs 0), .int .i64 (e.rs 1), .int .i64 (e.rs 2), .int .i64 (e.rs 3), .int .i64 (e.rs 4), .int .i64 (e.rs 5), .int .i64 (e.rs 6), .int .i64 (e.rs 7)]) (.int .i64 3)).run Tryd.prog W = .ok (.int .i64 (e.rs 3)) W := fun W => index8 _ 3 _ (by decide) rfl W
            go_wp2_with (go_at_call 40; (with_reducible refine CN.mono ?_); rintro r w8 ⟨v8, rfl, ho8, hb8⟩)
            go_roundw
            case rel => exact ⟨j + 1, by have := HJ.out; omega, by rw [HJ.out]; rfl, by rw [← HS.out, HJ.out]; exact ho8, hbq.trans (hb8.mono hbq.size)⟩
            case measure => simp [intOf]
          · have hjc : (j : Int) = 4 := by omega
            have HJ := Hid.mk hj0
            rw [hjc]
            rw [hj0] at CN
            clear hjc hj0 hlt8' hlt8
            have HI : ∀ W : World, (Instr.index 22 (.agg #[.int .i64 (e.rs 0), .int .i64 (e.rs 1), .int .i64 (e.rs 2), .int .i64 (e.rs 3), .int .i64 (e.rs 4), .int .i64 (e.rs 5), .int .i64 (e.rs 6), .int .i64 (e.rs 7)]) (.int .i64 4)).run Tryd.prog W = .ok (.int .i64 (e.rs 4)) W := fun W => index8 _ 4 _ (by decide) rfl W
            go_wp2_with (go_at_call 40; (with_reducible refine CN.mono ?_); rintro r w8 ⟨v8, rfl, ho8, hb8⟩)
            go_roundw
            case rel => exact ⟨j + 1, by have := HJ.out; omega, by rw [HJ.out]; rfl, by rw [← HS.out, HJ.out]; exact ho8, hbq.trans (hb8.mono hbq.size)⟩
            case measure => simp [intOf]
          · have hjc : (j : Int) = 5 := by omega
            have HJ := Hid.mk hj0
            rw [hjc]
            rw [hj0] at CN
            clear hjc hj0 hlt8' hlt8
            have HI : ∀ W : World, (Instr.index 22 (.agg #[.int .i64 (e.rs 0), .int .i64 (e.rs 1), .int .i64 (e.rs 2), .int .i64 (e.rs 3), .int .i64 (e.rs 4), .int .i64 (e.rs 5), .int .i64 (e.rs 6), .int .i64 (e.rs 7)]) (.int .i64 5)).run Tryd.prog W = .ok (.int .i64 (e.rs 5)) W := fun W => index8 _ 5 _ (by decide) rfl W
            go_wp2_with (go_at_call 40; (with_reducible refine CN.mono ?_); rintro r w8 ⟨v8, rfl, ho8, hb8⟩)
            go_roundw
            case rel => exact ⟨j + 1, by have := HJ.out; omega, by rw [HJ.out]; rfl, by rw [← HS.out, HJ.out]; exact ho8, hbq.trans (hb8.mono hbq.size)⟩
            case measure => simp [intOf]
          · have hjc : (j : Int) = 6 := by omega
            have HJ := Hid.mk hj0
            rw [hjc]
            rw [hj0] at CN
            clear hjc hj0 hlt8' hlt8
            have HI : ∀ W : World, (Instr.index 22 (.agg #[.int .i64 (e.rs 0), .int .i64 (e.rs 1), .int .i64 (e.rs 2), .int .i64 (e.rs 3), .int .i64 (e.rs 4), .int .i64 (e.rs 5), .int .i64 (e.rs 6), .int .i64 (e.rs 7)]) (.int .i64 6)).run Tryd.prog W = .ok (.int .i64 (e.rs 6)) W := fun W => index8 _ 6 _ (by decide) rfl W
            go_wp2_with (go_at_call 40; (with_reducible refine CN.mono ?_); rintro r w8 ⟨v8, rfl, ho8, hb8⟩)
            go_roundw
            case rel => exact ⟨j + 1, by have := HJ.out; omega, by rw [HJ.out]; rfl, by rw [← HS.out, HJ.out]; exact ho8, hbq.trans (hb8.mono hbq.size)⟩
            case measure => simp [intOf]
          · have hjc : (j : Int) = 7 := by omega
            have HJ := Hid.mk hj0
            rw [hjc]
            rw [hj0] at CN
            clear hjc hj0 hlt8' hlt8
            have HI : ∀ W : World, (Instr.index 22 (.agg #[.int .i64 (e.rs 0), .int .i64 (e.rs 1), .int .i64 (e.rs 2), .int .i64 (e.rs 3), .int .i64 (e.rs 4), .int .i64 (e.rs 5), .int .i64 (e.rs 6), .int .i64 (e.rs 7)]) (.int .i64 7)).run Tryd.prog W = .ok (.int .i64 (e.rs 7)) W := fun W => index8 _ 7 _ (by decide) rfl W
            go_wp2_with (go_at_call 40; (with_reducible refine CN.mono ?_); rintro r w8 ⟨v8, rfl, ho8, hb8⟩)
            go_roundw
            case rel => exact ⟨j + 1, by have := HJ.out; omega, by rw [HJ.out]; rfl, by rw [← HS.out, HJ.out]; exact ho8, hbq.trans (hb8.mono hbq.size)⟩
            case measure => simp [intOf]
        · obtain rfl : j = 8 := by omega
          rw [show (rgL e).take 8 = rgL e from rfl] at ho
          have HOF := Hid.mk ho
          clear ho
          go_wp2_with fail
          go_ret
          exact ⟨_, rfl, by rw [HF2.out]; exact HOF.out, bq⟩
end Go.Proofs.YteiidkojofaamaaDoor
namespace Go.Proofs.YteiidkojofaamaaDoor
open Go Go.RowKit

theorem rbytes_any (e : Ev) (w : World) (hg : goodE e = true) (hR : RgE e) : Calls Tryd.prog 13 #[.agg (evA e)] w fun r w' => ∃ v, r = .returned v ∧ Own w' w.heap.size v (byt e) ∧ Below w.heap.size w w' := by
  have hk : kindB e.kd = true := by
    cases hk : kindB e.kd with
    | true => rfl
    | false => rw [good_kind hk] at hg; cases hg
  obtain ⟨k, he, h1, h7⟩ := kind_nat hk
  have hg' := hg
  rw [row_good h1 h7 he] at hg'
  clear hk
  rcases (show k = 1 ∨ k = 2 ∨ k = 3 ∨ k = 4 ∨ k = 5 ∨ k = 6 ∨ k = 7 by omega) with rfl | rfl | rfl | rfl | rfl | rfl | rfl
  · simp [rowB, inB, aLo, aHi, tLo, tHi, vHi, cxK] at hg'
    exact rby_n e w 1 he (by decide) (by decide) hg rfl rfl rthr1 rval1 rfl ⟨by omega, by omega⟩
  · simp [rowB, inB, aLo, aHi, tLo, tHi, vHi, cxK, ctxB] at hg'
    exact rby_p e w 2 he (by decide) (by decide) hg rfl rfl rthr2 rval2 rfl ⟨by omega, by omega⟩ ⟨by omega, by omega⟩ (fun x hx => by simp [hdL] at hx; rcases hx with rfl | rfl | rfl <;> constructor <;> omega) hR
  · simp [rowB, inB, aLo, aHi, tLo, tHi, vHi, cxK] at hg'
    exact rby_t e w 3 he (by decide) (by decide) hg rfl rfl rthr3 rval3 rfl ⟨by omega, by omega⟩ ⟨by omega, by omega⟩
  · simp [rowB, inB, aLo, aHi, tLo, tHi, vHi, cxK] at hg'
    exact rby_tv e w 4 he (by decide) (by decide) hg rfl rfl rthr4 rval4 rfl ⟨by omega, by omega⟩ ⟨by omega, by omega⟩ ⟨by omega, by omega⟩
  · simp [rowB, inB, aLo, aHi, tLo, tHi, vHi, cxK] at hg'
    exact rby_v e w 5 he (by decide) (by decide) hg rfl rfl rthr5 rval5 rfl ⟨by omega, by omega⟩ ⟨by omega, by omega⟩
  · simp [rowB, inB, aLo, aHi, tLo, tHi, vHi, cxK] at hg'
    exact rby_n e w 6 he (by decide) (by decide) hg rfl rfl rthr6 rval6 rfl ⟨by omega, by omega⟩
  · simp [rowB, inB, aLo, aHi, tLo, tHi, vHi, cxK] at hg'
    exact rby_n e w 7 he (by decide) (by decide) hg rfl rfl rthr7 rval7 rfl ⟨by omega, by omega⟩
end Go.Proofs.YteiidkojofaamaaDoor
