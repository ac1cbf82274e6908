/- The reference's Bytes, by what a kind has. -/
/- The reference's Bytes, by what a kind has. -/
import Derived.Test.YteiidkojofaamaaDoorJ01Rows2
import Derived.Deep.CutRange
namespace Go.Proofs.YteiidkojofaamaaDoor
open Go Go.RowKit

set_option maxHeartbeats 4000000 in
set_option maxRecDepth 100000 in
theorem rby_n (e : Ev) (w : World) (k : Nat) (he : e.kd = (k : Int)) (hk1 : (1 : Int) ≤ (k : Int)) (hk7 : (k : Int) ≤ 7) (hg : goodE e = true) (htk : thrB (k : Int) = false) (hvk : valB (k : Int) = false) (HT : ∀ W : World, Calls Tryd.prog 32 #[.int .i64 (k : Int)] W fun r w' => r = .returned (.bool false) ∧ w' = W) (HV : ∀ W : World, Calls Tryd.prog 33 #[.int .i64 (k : Int)] W fun r w' => r = .returned (.bool false) ∧ w' = W) (hp : ((k : Int) == 2) = false) (ha : 0 ≤ e.ac ∧ e.ac ≤ 1099511627776) :
    Calls Tryd.prog 13 #[.agg (evA e)] w fun r w' => ∃ v, r = .returned v ∧ Own w' w.heap.size v (byt e) ∧ Below w.heap.size w w' := by
  have tk : Hid (thrB (k : Int) = false) := htk
  have vk : Hid (valB (k : Int) = false) := hvk
  have B0 : Below w.heap.size w (w.alloc (.cells (evA e) 26)) := (Below.refl _ w).alloc (Nat.le_refl _) _
  have HG := rgood_any e (w.alloc (.cells (evA e) 26))
  rw [hg] at HG
  have E0 : Cel (w.alloc (.cells (evA e) 26)) w.heap.size (evA e) 26 := Cel.new w _ 26
  have hkk : (k : Int) = 2 ↔ False := by
    simp at hp; simpa using hp
  have HF : Hid (byt e = [UInt8.ofNat k] ++ numI e.ac) := by
    refine Hid.mk ?_
    unfold byt thL vaL cxL
    rw [he, show thrB (k : Int) = false from tk.out, show valB (k : Int) = false from vk.out]
    simp [hkk]
  have n0 := numI_len e.ac
  obtain ⟨ha1, ha2⟩ := ha
  clear htk hvk tk vk hkk hg
  have HE := Hid.mk he
  unfold evA at HG ⊢
  rw [he] at HG ⊢
  clear he
  go_enter Tryd.func13, Tryd.ntmps13
  go_upto_region 3 with (go_at_call 9; (with_reducible refine HG.mono ?_); rintro r w1 ⟨rfl, hb1⟩)
  have hE1 : Cel w1 w.heap.size (evA e) 26 := E0.below (by unfold evA; rw [HE.out]; exact hb1)
  have B1 : Below w.heap.size w w1 := B0.trans (Below.mono (by unfold evA; rw [HE.out]; exact hb1) B0.size)
  have c0 : w1.cell? ⟨w.heap.size, 0, none⟩ = some (.int .i64 (k : Int)) := by rw [← HE.out]; exact hE1.cell (j := 0) rfl
  have c1 : w1.cell? ⟨w.heap.size, 1, none⟩ = some (.int .i64 e.ac) := hE1.cell (j := 1) rfl
  have hu8 : ((UInt8.ofNat k).toNat : Int) = (k : Int) := by rw [UInt8.toNat_ofNat', Nat.mod_eq_of_lt (by omega)]
  have O1 : Own (w1.alloc (.cells #[.int .u8 (k : Int)] 5)) w.heap.size (.slice (some ⟨w1.heap.size, 0, none⟩) 1 1) [UInt8.ofNat k] := by
    have := World.ownsRow_lit (base := w.heap.size) (e := 5) (size := 1) w1 #[.int .u8 (k : Int)] 1 B1.size (by unfold maxLen; omega) rfl
    unfold Own bc
    simp only [List.map_cons, List.map_nil, hu8]
    exact this
  have Ba : Below w1.heap.size w1 (w1.alloc (.cells #[.int .u8 (k : Int)] 5)) := (Below.refl _ w1).alloc (Nat.le_refl _) _
  have b1 := B1.trans (Ba.mono B1.size)
  have d1 := cell_on Ba c1
  have hEa := hE1.below Ba
  have C1 := rnum_own O1 b1.size ⟨ha1, ha2⟩ (by simp)
  clear HG E0 B0 hb1 O1 hu8
  go_wp2_with (first | (go_at_call 32; (with_reducible refine (HT _).mono ?_); rintro r w' ⟨rfl, hw⟩; subst w') | (go_at_call 33; (with_reducible refine (HV _).mono ?_); rintro r w' ⟨rfl, hw⟩; subst w') | (go_at_call 39; first | ((with_reducible refine C1.mono ?_); rintro r w2 ⟨v2, rfl, ho2, hb2⟩; have b2 := b1.trans (hb2.mono b1.size); have hE2 := hEa.below hb2; have e20 : w2.cell? ⟨w.heap.size, 0, none⟩ = some (.int .i64 (k : Int)) := cell_on hb2 (cell_on Ba c0); have e22 : w2.cell? ⟨w.heap.size, 2, none⟩ = some (.int .i64 e.th) := hE2.cell (j := 2) rfl; have e23 : w2.cell? ⟨w.heap.size, 3, none⟩ = some (.int .i64 e.va) := hE2.cell (j := 3) rfl; skip)))
  go_ret
  exact ⟨_, rfl, by rw [HF.out]; exact ho2, b2⟩
set_option maxHeartbeats 4000000 in
set_option maxRecDepth 100000 in
theorem rby_t (e : Ev) (w : World) (k : Nat) (he : e.kd = (k : Int)) (hk1 : (1 : Int) ≤ (k : Int)) (hk7 : (k : Int) ≤ 7) (hg : goodE e = true) (htk : thrB (k : Int) = true) (hvk : valB (k : Int) = false) (HT : ∀ W : World, Calls Tryd.prog 32 #[.int .i64 (k : Int)] W fun r w' => r = .returned (.bool true) ∧ w' = W) (HV : ∀ W : World, Calls Tryd.prog 33 #[.int .i64 (k : Int)] W fun r w' => r = .returned (.bool false) ∧ w' = W) (hp : ((k : Int) == 2) = false) (ha : 0 ≤ e.ac ∧ e.ac ≤ 1099511627776) (ht : 0 ≤ e.th ∧ e.th ≤ 1099511627776) :
    Calls Tryd.prog 13 #[.agg (evA e)] w fun r w' => ∃ v, r = .returned v ∧ Own w' w.heap.size v (byt e) ∧ Below w.heap.size w w' := by
  have tk : Hid (thrB (k : Int) = true) := htk
  have vk : Hid (valB (k : Int) = false) := hvk
  have B0 : Below w.heap.size w (w.alloc (.cells (evA e) 26)) := (Below.refl _ w).alloc (Nat.le_refl _) _
  have HG := rgood_any e (w.alloc (.cells (evA e) 26))
  rw [hg] at HG
  have E0 : Cel (w.alloc (.cells (evA e) 26)) w.heap.size (evA e) 26 := Cel.new w _ 26
  have hkk : (k : Int) = 2 ↔ False := by
    simp at hp; simpa using hp
  have HF : Hid (byt e = [UInt8.ofNat k] ++ numI e.ac ++ numI e.th) := by
    refine Hid.mk ?_
    unfold byt thL vaL cxL
    rw [he, show thrB (k : Int) = true from tk.out, show valB (k : Int) = false from vk.out]
    simp [hkk]
  have n0 := numI_len e.ac
  have n1 := numI_len e.th
  obtain ⟨ha1, ha2⟩ := ha
  obtain ⟨ht1, ht2⟩ := ht
  clear htk hvk tk vk hkk hg
  have HE := Hid.mk he
  unfold evA at HG ⊢
  rw [he] at HG ⊢
  clear he
  go_enter Tryd.func13, Tryd.ntmps13
  go_upto_region 3 with (go_at_call 9; (with_reducible refine HG.mono ?_); rintro r w1 ⟨rfl, hb1⟩)
  have hE1 : Cel w1 w.heap.size (evA e) 26 := E0.below (by unfold evA; rw [HE.out]; exact hb1)
  have B1 : Below w.heap.size w w1 := B0.trans (Below.mono (by unfold evA; rw [HE.out]; exact hb1) B0.size)
  have c0 : w1.cell? ⟨w.heap.size, 0, none⟩ = some (.int .i64 (k : Int)) := by rw [← HE.out]; exact hE1.cell (j := 0) rfl
  have c1 : w1.cell? ⟨w.heap.size, 1, none⟩ = some (.int .i64 e.ac) := hE1.cell (j := 1) rfl
  have hu8 : ((UInt8.ofNat k).toNat : Int) = (k : Int) := by rw [UInt8.toNat_ofNat', Nat.mod_eq_of_lt (by omega)]
  have O1 : Own (w1.alloc (.cells #[.int .u8 (k : Int)] 5)) w.heap.size (.slice (some ⟨w1.heap.size, 0, none⟩) 1 1) [UInt8.ofNat k] := by
    have := World.ownsRow_lit (base := w.heap.size) (e := 5) (size := 1) w1 #[.int .u8 (k : Int)] 1 B1.size (by unfold maxLen; omega) rfl
    unfold Own bc
    simp only [List.map_cons, List.map_nil, hu8]
    exact this
  have Ba : Below w1.heap.size w1 (w1.alloc (.cells #[.int .u8 (k : Int)] 5)) := (Below.refl _ w1).alloc (Nat.le_refl _) _
  have b1 := B1.trans (Ba.mono B1.size)
  have d1 := cell_on Ba c1
  have hEa := hE1.below Ba
  have C1 := rnum_own O1 b1.size ⟨ha1, ha2⟩ (by simp)
  clear HG E0 B0 hb1 O1 hu8
  go_wp2_with (first | (go_at_call 32; (with_reducible refine (HT _).mono ?_); rintro r w' ⟨rfl, hw⟩; subst w') | (go_at_call 33; (with_reducible refine (HV _).mono ?_); rintro r w' ⟨rfl, hw⟩; subst w') | (go_at_call 39; first | ((with_reducible refine C1.mono ?_); rintro r w2 ⟨v2, rfl, ho2, hb2⟩; have b2 := b1.trans (hb2.mono b1.size); have hE2 := hEa.below hb2; have e20 : w2.cell? ⟨w.heap.size, 0, none⟩ = some (.int .i64 (k : Int)) := cell_on hb2 (cell_on Ba c0); have e22 : w2.cell? ⟨w.heap.size, 2, none⟩ = some (.int .i64 e.th) := hE2.cell (j := 2) rfl; have e23 : w2.cell? ⟨w.heap.size, 3, none⟩ = some (.int .i64 e.va) := hE2.cell (j := 3) rfl; have C2 := rnum_own ho2 b2.size ⟨ht1, ht2⟩ (by simp; omega)) | ((with_reducible refine C2.mono ?_); rintro r w3 ⟨v3, rfl, ho3, hb3⟩; have b3 := b2.trans (hb3.mono b2.size); have hE3 := hE2.below hb3; have e30 : w3.cell? ⟨w.heap.size, 0, none⟩ = some (.int .i64 (k : Int)) := cell_on hb3 e20; have e33 : w3.cell? ⟨w.heap.size, 3, none⟩ = some (.int .i64 e.va) := hE3.cell (j := 3) rfl; skip)))
  go_ret
  exact ⟨_, rfl, by rw [HF.out]; exact ho3, b3⟩
end Go.Proofs.YteiidkojofaamaaDoor
namespace Go.Proofs.YteiidkojofaamaaDoor
open Go Go.RowKit

set_option maxHeartbeats 4000000 in
set_option maxRecDepth 100000 in
theorem rby_tv (e : Ev) (w : World) (k : Nat) (he : e.kd = (k : Int)) (hk1 : (1 : Int) ≤ (k : Int)) (hk7 : (k : Int) ≤ 7) (hg : goodE e = true) (htk : thrB (k : Int) = true) (hvk : valB (k : Int) = true) (HT : ∀ W : World, Calls Tryd.prog 32 #[.int .i64 (k : Int)] W fun r w' => r = .returned (.bool true) ∧ w' = W) (HV : ∀ W : World, Calls Tryd.prog 33 #[.int .i64 (k : Int)] W fun r w' => r = .returned (.bool true) ∧ w' = W) (hp : ((k : Int) == 2) = false) (ha : 0 ≤ e.ac ∧ e.ac ≤ 1099511627776) (ht : 0 ≤ e.th ∧ e.th ≤ 1099511627776) (hv : 0 ≤ e.va ∧ e.va ≤ 1099511627776) :
    Calls Tryd.prog 13 #[.agg (evA e)] w fun r w' => ∃ v, r = .returned v ∧ Own w' w.heap.size v (byt e) ∧ Below w.heap.size w w' := by
  have tk : Hid (thrB (k : Int) = true) := htk
  have vk : Hid (valB (k : Int) = true) := hvk
  have B0 : Below w.heap.size w (w.alloc (.cells (evA e) 26)) := (Below.refl _ w).alloc (Nat.le_refl _) _
  have HG := rgood_any e (w.alloc (.cells (evA e) 26))
  rw [hg] at HG
  have E0 : Cel (w.alloc (.cells (evA e) 26)) w.heap.size (evA e) 26 := Cel.new w _ 26
  have hkk : (k : Int) = 2 ↔ False := by
    simp at hp; simpa using hp
  have HF : Hid (byt e = [UInt8.ofNat k] ++ numI e.ac ++ numI e.th ++ numI e.va) := by
    refine Hid.mk ?_
    unfold byt thL vaL cxL
    rw [he, show thrB (k : Int) = true from tk.out, show valB (k : Int) = true from vk.out]
    simp [hkk]
  have n0 := numI_len e.ac
  have n1 := numI_len e.th
  have n2 := numI_len e.va
  obtain ⟨ha1, ha2⟩ := ha
  obtain ⟨ht1, ht2⟩ := ht
  obtain ⟨hv1, hv2⟩ := hv
  clear htk hvk tk vk hkk hg
  have HE := Hid.mk he
  unfold evA at HG ⊢
  rw [he] at HG ⊢
  clear he
  go_enter Tryd.func13, Tryd.ntmps13
  go_upto_region 3 with (go_at_call 9; (with_reducible refine HG.mono ?_); rintro r w1 ⟨rfl, hb1⟩)
  have hE1 : Cel w1 w.heap.size (evA e) 26 := E0.below (by unfold evA; rw [HE.out]; exact hb1)
  have B1 : Below w.heap.size w w1 := B0.trans (Below.mono (by unfold evA; rw [HE.out]; exact hb1) B0.size)
  have c0 : w1.cell? ⟨w.heap.size, 0, none⟩ = some (.int .i64 (k : Int)) := by rw [← HE.out]; exact hE1.cell (j := 0) rfl
  have c1 : w1.cell? ⟨w.heap.size, 1, none⟩ = some (.int .i64 e.ac) := hE1.cell (j := 1) rfl
  have hu8 : ((UInt8.ofNat k).toNat : Int) = (k : Int) := by rw [UInt8.toNat_ofNat', Nat.mod_eq_of_lt (by omega)]
  have O1 : Own (w1.alloc (.cells #[.int .u8 (k : Int)] 5)) w.heap.size (.slice (some ⟨w1.heap.size, 0, none⟩) 1 1) [UInt8.ofNat k] := by
    have := World.ownsRow_lit (base := w.heap.size) (e := 5) (size := 1) w1 #[.int .u8 (k : Int)] 1 B1.size (by unfold maxLen; omega) rfl
    unfold Own bc
    simp only [List.map_cons, List.map_nil, hu8]
    exact this
  have Ba : Below w1.heap.size w1 (w1.alloc (.cells #[.int .u8 (k : Int)] 5)) := (Below.refl _ w1).alloc (Nat.le_refl _) _
  have b1 := B1.trans (Ba.mono B1.size)
  have d1 := cell_on Ba c1
  have hEa := hE1.below Ba
  have C1 := rnum_own O1 b1.size ⟨ha1, ha2⟩ (by simp)
  clear HG E0 B0 hb1 O1 hu8
  go_wp2_with (first | (go_at_call 32; (with_reducible refine (HT _).mono ?_); rintro r w' ⟨rfl, hw⟩; subst w') | (go_at_call 33; (with_reducible refine (HV _).mono ?_); rintro r w' ⟨rfl, hw⟩; subst w') | (go_at_call 39; first | ((with_reducible refine C1.mono ?_); rintro r w2 ⟨v2, rfl, ho2, hb2⟩; have b2 := b1.trans (hb2.mono b1.size); have hE2 := hEa.below hb2; have e20 : w2.cell? ⟨w.heap.size, 0, none⟩ = some (.int .i64 (k : Int)) := cell_on hb2 (cell_on Ba c0); have e22 : w2.cell? ⟨w.heap.size, 2, none⟩ = some (.int .i64 e.th) := hE2.cell (j := 2) rfl; have e23 : w2.cell? ⟨w.heap.size, 3, none⟩ = some (.int .i64 e.va) := hE2.cell (j := 3) rfl; have C2 := rnum_own ho2 b2.size ⟨ht1, ht2⟩ (by simp; omega)) | ((with_reducible refine C2.mono ?_); rintro r w3 ⟨v3, rfl, ho3, hb3⟩; have b3 := b2.trans (hb3.mono b2.size); have hE3 := hE2.below hb3; have e30 : w3.cell? ⟨w.heap.size, 0, none⟩ = some (.int .i64 (k : Int)) := cell_on hb3 e20; have e33 : w3.cell? ⟨w.heap.size, 3, none⟩ = some (.int .i64 e.va) := hE3.cell (j := 3) rfl; have C3 := rnum_own ho3 b3.size ⟨hv1, hv2⟩ (by simp; omega)) | ((with_reducible refine C3.mono ?_); rintro r w4 ⟨v4, rfl, ho4, hb4⟩; have b4 := b3.trans (hb4.mono b3.size); have hE4 := hE3.below hb4; have e40 : w4.cell? ⟨w.heap.size, 0, none⟩ = some (.int .i64 (k : Int)) := cell_on hb4 e30; have e43 : w4.cell? ⟨w.heap.size, 3, none⟩ = some (.int .i64 e.va) := hE4.cell (j := 3) rfl; skip)))
  go_ret
  exact ⟨_, rfl, by rw [HF.out]; exact ho4, b4⟩
set_option maxHeartbeats 4000000 in
set_option maxRecDepth 100000 in
theorem rby_v (e : Ev) (w : World) (k : Nat) (he : e.kd = (k : Int)) (hk1 : (1 : Int) ≤ (k : Int)) (hk7 : (k : Int) ≤ 7) (hg : goodE e = true) (htk : thrB (k : Int) = false) (hvk : valB (k : Int) = true) (HT : ∀ W : World, Calls Tryd.prog 32 #[.int .i64 (k : Int)] W fun r w' => r = .returned (.bool false) ∧ w' = W) (HV : ∀ W : World, Calls Tryd.prog 33 #[.int .i64 (k : Int)] W fun r w' => r = .returned (.bool true) ∧ w' = W) (hp : ((k : Int) == 2) = false) (ha : 0 ≤ e.ac ∧ e.ac ≤ 1099511627776) (hv : 0 ≤ e.va ∧ e.va ≤ 1099511627776) :
    Calls Tryd.prog 13 #[.agg (evA e)] w fun r w' => ∃ v, r = .returned v ∧ Own w' w.heap.size v (byt e) ∧ Below w.heap.size w w' := by
  have tk : Hid (thrB (k : Int) = false) := htk
  have vk : Hid (valB (k : Int) = true) := hvk
  have B0 : Below w.heap.size w (w.alloc (.cells (evA e) 26)) := (Below.refl _ w).alloc (Nat.le_refl _) _
  have HG := rgood_any e (w.alloc (.cells (evA e) 26))
  rw [hg] at HG
  have E0 : Cel (w.alloc (.cells (evA e) 26)) w.heap.size (evA e) 26 := Cel.new w _ 26
  have hkk : (k : Int) = 2 ↔ False := by
    simp at hp; simpa using hp
  have HF : Hid (byt e = [UInt8.ofNat k] ++ numI e.ac ++ numI e.va) := by
    refine Hid.mk ?_
    unfold byt thL vaL cxL
    rw [he, show thrB (k : Int) = false from tk.out, show valB (k : Int) = true from vk.out]
    simp [hkk]
  have n0 := numI_len e.ac
  have n2 := numI_len e.va
  obtain ⟨ha1, ha2⟩ := ha
  obtain ⟨hv1, hv2⟩ := hv
  clear htk hvk tk vk hkk hg
  have HE := Hid.mk he
  unfold evA at HG ⊢
  rw [he] at HG ⊢
  clear he
  go_enter Tryd.func13, Tryd.ntmps13
  go_upto_region 3 with (go_at_call 9; (with_reducible refine HG.mono ?_); rintro r w1 ⟨rfl, hb1⟩)
  have hE1 : Cel w1 w.heap.size (evA e) 26 := E0.below (by unfold evA; rw [HE.out]; exact hb1)
  have B1 : Below w.heap.size w w1 := B0.trans (Below.mono (by unfold evA; rw [HE.out]; exact hb1) B0.size)
  have c0 : w1.cell? ⟨w.heap.size, 0, none⟩ = some (.int .i64 (k : Int)) := by rw [← HE.out]; exact hE1.cell (j := 0) rfl
  have c1 : w1.cell? ⟨w.heap.size, 1, none⟩ = some (.int .i64 e.ac) := hE1.cell (j := 1) rfl
  have hu8 : ((UInt8.ofNat k).toNat : Int) = (k : Int) := by rw [UInt8.toNat_ofNat', Nat.mod_eq_of_lt (by omega)]
  have O1 : Own (w1.alloc (.cells #[.int .u8 (k : Int)] 5)) w.heap.size (.slice (some ⟨w1.heap.size, 0, none⟩) 1 1) [UInt8.ofNat k] := by
    have := World.ownsRow_lit (base := w.heap.size) (e := 5) (size := 1) w1 #[.int .u8 (k : Int)] 1 B1.size (by unfold maxLen; omega) rfl
    unfold Own bc
    simp only [List.map_cons, List.map_nil, hu8]
    exact this
  have Ba : Below w1.heap.size w1 (w1.alloc (.cells #[.int .u8 (k : Int)] 5)) := (Below.refl _ w1).alloc (Nat.le_refl _) _
  have b1 := B1.trans (Ba.mono B1.size)
  have d1 := cell_on Ba c1
  have hEa := hE1.below Ba
  have C1 := rnum_own O1 b1.size ⟨ha1, ha2⟩ (by simp)
  clear HG E0 B0 hb1 O1 hu8
  go_wp2_with (first | (go_at_call 32; (with_reducible refine (HT _).mono ?_); rintro r w' ⟨rfl, hw⟩; subst w') | (go_at_call 33; (with_reducible refine (HV _).mono ?_); rintro r w' ⟨rfl, hw⟩; subst w') | (go_at_call 39; first | ((with_reducible refine C1.mono ?_); rintro r w2 ⟨v2, rfl, ho2, hb2⟩; have b2 := b1.trans (hb2.mono b1.size); have hE2 := hEa.below hb2; have e20 : w2.cell? ⟨w.heap.size, 0, none⟩ = some (.int .i64 (k : Int)) := cell_on hb2 (cell_on Ba c0); have e22 : w2.cell? ⟨w.heap.size, 2, none⟩ = some (.int .i64 e.th) := hE2.cell (j := 2) rfl; have e23 : w2.cell? ⟨w.heap.size, 3, none⟩ = some (.int .i64 e.va) := hE2.cell (j := 3) rfl; have C2 := rnum_own ho2 b2.size ⟨hv1, hv2⟩ (by simp; omega)) | ((with_reducible refine C2.mono ?_); rintro r w3 ⟨v3, rfl, ho3, hb3⟩; have b3 := b2.trans (hb3.mono b2.size); have hE3 := hE2.below hb3; have e30 : w3.cell? ⟨w.heap.size, 0, none⟩ = some (.int .i64 (k : Int)) := cell_on hb3 e20; have e33 : w3.cell? ⟨w.heap.size, 3, none⟩ = some (.int .i64 e.va) := hE3.cell (j := 3) rfl; skip)))
  go_ret
  exact ⟨_, rfl, by rw [HF.out]; exact ho3, b3⟩
end Go.Proofs.YteiidkojofaamaaDoor
