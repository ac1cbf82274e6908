/- Text: the program's. -/
/- The reference's id, threads, values. -/
import Derived.Test.YteiidkojofaamaaDoorJ08Says
import Derived.Test.YteiidkojofaamaaDoorJ05Says
import Derived.Test.YteiidkojofaamaaDoorJ06Says
namespace Go.Proofs.YteiidkojofaamaaDoor
open Go Go.RowKit

set_option maxRecDepth 100000 in
set_option maxHeartbeats 2000000 in
theorem text_any (e : Ev) (w : World) (hT : Tab w) (hP : Pw w) (hR : RgE e) : Calls Tryd.prog 15 #[.agg (evA e)] w fun r w' => r = .returned (.string ⟨(txtE e).toArray⟩) ∧ Below w.heap.size w w' := by
  have B0 : Below w.heap.size w (w.alloc (.cells (evA e) 26)) := (Below.refl _ w).alloc (Nat.le_refl _) _
  have HN := name_any e.kd (w.alloc (.cells (evA e) 26)) (hT.on B0)
  have B1 : Below w.heap.size w ((w.alloc (.cells (evA e) 26)).alloc (.cells #[.int .i64 e.ac, .int .i64 e.th, .int .i64 e.va] 3)) := B0.alloc B0.size _
  have C1 := Cel.new (w.alloc (.cells (evA e) 26)) #[.int .i64 e.ac, .int .i64 e.th, .int .i64 e.va] 3
  rw [show (w.alloc (.cells (evA e) 26)).heap.size = w.heap.size + 1 by simp] at C1
  have HX : Hid (txtE e = txtJ e 3) := Hid.mk (rfl)
  have HZ : Hid (txtJ e 0 = nameL e.kd) := Hid.mk (txt_zero e)
  have HR := Hid.mk hR
  have HP := Hid.mk hP
  have HC := Hid.mk C1
  have HB := Hid.mk B1
  clear hT hR hP B0 C1 B1
  unfold evA at HN HC HB ⊢
  go_enter Tryd.func15, Tryd.ntmps15
  go_wp2_with (go_at_call 41; (with_reducible refine HN.mono ?_); rintro r w1 ⟨rfl, rfl⟩)
  go_loopw [17, 5, 3] (fun v17 _ v3 wr => ∃ j : Nat, j ≤ 3 ∧ v17 = .int .i64 j ∧ v3 = .string ⟨(txtJ e j).toArray⟩ ∧ Below w.heap.size w wr ∧ Cel wr (w.heap.size + 1) #[.int .i64 e.ac, .int .i64 e.th, .int .i64 e.va] 3) (fun v17 _ _ _ => 3 - (intOf v17).toNat)
  case atStart => exact ⟨0, by omega, rfl, by rw [HZ.out], HB.out, HC.out⟩
  case round =>
    obtain ⟨j, hj, rfl, rfl, hb, hc⟩ := hrel
    have HCR := Hid.mk hc
    by_cases hlt : j < 3
    · obtain ⟨n, hn⟩ : ∃ n, (tns e)[j]? = some n := ⟨_, List.getElem?_eq_getElem (by simpa [tns] using hlt)⟩
      have hcell : wr.cell? ⟨w.heap.size + 1, j, none⟩ = some (.int .i64 n) := by
        refine hc.cell ?_
        rcases (show j = 0 ∨ j = 1 ∨ j = 2 by omega) with rfl | rfl | rfl <;> (simp [tns] at hn; subst hn; rfl)
      have hlt' : (j : Int) < 3 := by omega
      have HS : Hid (txtJ e (j + 1) = txtJ e j ++ blnk n) := Hid.mk (txt_succ hn)
      have hl1 : (⟨(txtJ e j).toArray⟩ : ByteArray).size ≤ 100 := by rw [sz_bytes]; exact txt_len HR.out j
      have hrg := tns_rg HR.out (List.mem_of_getElem? hn)
      by_cases hz : n = 0
      · have HQ : Hid (txtJ e (j + 1) = txtJ e j) := Hid.mk (by rw [HS.out, hz]; simp [blnk])
        clear HS hn hrg hc
        generalize txtJ e j = t at *
        go_wp2_with fail
        go_roundw
        case rel => exact ⟨j + 1, by omega, by simp, by rw [HQ.out], hb, HCR.out⟩
        case measure =>
          simp [intOf]
          omega
      · have HI := itoa_any (w := wr) n hrg (HP.out.on hb)
        have HQ : Hid (txtJ e (j + 1) = txtJ e j ++ ([32] ++ Lib.itoa n)) := Hid.mk (by rw [HS.out]; simp [blnk, hz])
        have hl2 : (⟨(Lib.itoa n).toArray⟩ : ByteArray).size ≤ 21 := by rw [sz_bytes]; exact Lib.itoa_length_le n hrg.1 hrg.2
        clear HS hn hrg hc
        have HQ2 : Hid ((⟨(txtJ e (j + 1)).toArray⟩ : ByteArray) = ⟨(txtJ e j).toArray⟩ ++ (⟨#[32]⟩ ++ ⟨(Lib.itoa n).toArray⟩)) := Hid.mk (by rw [HQ.out, ← cat_bytes, ← cat_bytes])
        clear HQ
        generalize (⟨(txtJ e j).toArray⟩ : ByteArray) = s1 at *
        generalize (⟨(Lib.itoa n).toArray⟩ : ByteArray) = s2 at *
        have hs1 : ¬ 9223372036854775807 < 1 + s2.size := by omega
        have hs2 : ¬ 9223372036854775807 < s1.size + (1 + s2.size) := by omega
        go_wp2_with (go_at_call 42; (with_reducible refine HI.mono ?_); rintro r w2 ⟨rfl, hb2⟩)
        go_roundw
        case rel => exact ⟨j + 1, by omega, by simp, by rw [HQ2.out], hb.trans (hb2.mono hb.size), HCR.out.below hb2⟩
        case measure =>
          simp [intOf]
          omega
    · obtain rfl : j = 3 := by omega
      clear hc
      go_wp2_with fail
      go_ret
      exact ⟨rfl, hb⟩
end Go.Proofs.YteiidkojofaamaaDoor
namespace Go.Proofs.YteiidkojofaamaaDoor
open Go Go.RowKit

theorem rid_any (n : Int) (w : World) : Calls Tryd.prog 31 #[.int .i64 n] w fun e w' => e = .returned (.bool (inB 1 1099511627776 n)) ∧ w' = w := by
  unfold inB
  by_cases h1 : 1 ≤ n
  · by_cases h2 : n ≤ 1099511627776
    · simp only [h1, h2, decide_true, Bool.and_self]
      go_enter Tryd.func31, Tryd.ntmps31
      go_wp2_with fail
      go_ret
      exact ⟨rfl, rfl⟩
    · simp only [h1, h2, decide_true, decide_false, Bool.and_false]
      go_enter Tryd.func31, Tryd.ntmps31
      go_wp2_with fail
      go_ret
      exact ⟨rfl, rfl⟩
  · simp only [h1, decide_false, Bool.false_and]
    go_enter Tryd.func31, Tryd.ntmps31
    go_wp2_with fail
    go_ret
    exact ⟨rfl, rfl⟩
theorem rthr1 (w : World) : Calls Tryd.prog 32 #[.int .i64 1] w fun e w' => e = .returned (.bool false) ∧ w' = w := by
  go_enter Tryd.func32, Tryd.ntmps32
  go_wp2_with fail
  go_ret
  exact ⟨rfl, rfl⟩
theorem rthr2 (w : World) : Calls Tryd.prog 32 #[.int .i64 2] w fun e w' => e = .returned (.bool true) ∧ w' = w := by
  go_enter Tryd.func32, Tryd.ntmps32
  go_wp2_with fail
  go_ret
  exact ⟨rfl, rfl⟩
theorem rthr3 (w : World) : Calls Tryd.prog 32 #[.int .i64 3] w fun e w' => e = .returned (.bool true) ∧ w' = w := by
  go_enter Tryd.func32, Tryd.ntmps32
  go_wp2_with fail
  go_ret
  exact ⟨rfl, rfl⟩
theorem rthr4 (w : World) : Calls Tryd.prog 32 #[.int .i64 4] w fun e w' => e = .returned (.bool true) ∧ w' = w := by
  go_enter Tryd.func32, Tryd.ntmps32
  go_wp2_with fail
  go_ret
  exact ⟨rfl, rfl⟩
theorem rthr5 (w : World) : Calls Tryd.prog 32 #[.int .i64 5] w fun e w' => e = .returned (.bool false) ∧ w' = w := by
  go_enter Tryd.func32, Tryd.ntmps32
  go_wp2_with fail
  go_ret
  exact ⟨rfl, rfl⟩
theorem rthr6 (w : World) : Calls Tryd.prog 32 #[.int .i64 6] w fun e w' => e = .returned (.bool false) ∧ w' = w := by
  go_enter Tryd.func32, Tryd.ntmps32
  go_wp2_with fail
  go_ret
  exact ⟨rfl, rfl⟩
theorem rthr7 (w : World) : Calls Tryd.prog 32 #[.int .i64 7] w fun e w' => e = .returned (.bool false) ∧ w' = w := by
  go_enter Tryd.func32, Tryd.ntmps32
  go_wp2_with fail
  go_ret
  exact ⟨rfl, rfl⟩
theorem rval1 (w : World) : Calls Tryd.prog 33 #[.int .i64 1] w fun e w' => e = .returned (.bool false) ∧ w' = w := by
  go_enter Tryd.func33, Tryd.ntmps33
  go_wp2_with fail
  go_ret
  exact ⟨rfl, rfl⟩
theorem rval2 (w : World) : Calls Tryd.prog 33 #[.int .i64 2] w fun e w' => e = .returned (.bool false) ∧ w' = w := by
  go_enter Tryd.func33, Tryd.ntmps33
  go_wp2_with fail
  go_ret
  exact ⟨rfl, rfl⟩
theorem rval3 (w : World) : Calls Tryd.prog 33 #[.int .i64 3] w fun e w' => e = .returned (.bool false) ∧ w' = w := by
  go_enter Tryd.func33, Tryd.ntmps33
  go_wp2_with fail
  go_ret
  exact ⟨rfl, rfl⟩
theorem rval4 (w : World) : Calls Tryd.prog 33 #[.int .i64 4] w fun e w' => e = .returned (.bool true) ∧ w' = w := by
  go_enter Tryd.func33, Tryd.ntmps33
  go_wp2_with fail
  go_ret
  exact ⟨rfl, rfl⟩
theorem rval5 (w : World) : Calls Tryd.prog 33 #[.int .i64 5] w fun e w' => e = .returned (.bool true) ∧ w' = w := by
  go_enter Tryd.func33, Tryd.ntmps33
  go_wp2_with fail
  go_ret
  exact ⟨rfl, rfl⟩
theorem rval6 (w : World) : Calls Tryd.prog 33 #[.int .i64 6] w fun e w' => e = .returned (.bool false) ∧ w' = w := by
  go_enter Tryd.func33, Tryd.ntmps33
  go_wp2_with fail
  go_ret
  exact ⟨rfl, rfl⟩
theorem rval7 (w : World) : Calls Tryd.prog 33 #[.int .i64 7] w fun e w' => e = .returned (.bool false) ∧ w' = w := by
  go_enter Tryd.func33, Tryd.ntmps33
  go_wp2_with fail
  go_ret
  exact ⟨rfl, rfl⟩
theorem in00 (n : Int) : inB 0 0 n = (n == 0) := by
  unfold inB
  by_cases h : n = 0
  · subst h; rfl
  · have : (n == 0) = false := by simpa using h
    rw [this]
    simp
    omega
end Go.Proofs.YteiidkojofaamaaDoor
