/- The reference's Bytes. -/
/- Text: the reference's; and the statements' far. -/
import Derived.Test.YteiidkojofaamaaDoorJ13Says
import Derived.Test.YteiidkojofaamaaDoorJ18Says
import Derived.Test.YteiidkojofaamaaDoorJ23Says
import Derived.Test.YteiidkojofaamaaDoorJ08Says
namespace Go.Proofs.YteiidkojofaamaaDoor
open Go Go.RowKit

section
variable {W : World} {lo : Nat} {v : Value} {l : List UInt8}
theorem rnum_own (h : Own W lo v l) (hlo : lo ≤ W.heap.size) {n : Int} (hn : 0 ≤ n ∧ n ≤ 1099511627776) (hl : l.length ≤ 700000) : Calls Tryd.prog 39 #[v, .int .u64 n] W fun r w' => ∃ v', r = .returned v' ∧ Own w' lo v' (l ++ numI n) ∧ Below W.heap.size W w' := by
  obtain ⟨a, c, rfl, hy⟩ := h.byts
  have := rnum hy n.toNat (by omega) (by omega)
  rw [show ((n.toNat : Nat) : Int) = n by omega] at this
  refine this.mono ?_
  rintro r w' ⟨v', rfl, ho, hb⟩
  exact ⟨v', rfl, ho.lower hlo, hb⟩
theorem rint_own (h : Own W lo v l) (hlo : lo ≤ W.heap.size) {n : Int} (hn : -9223372036854775808 ≤ n ∧ n ≤ 9223372036854775807) (hl : l.length ≤ 700000) : Calls Tryd.prog 40 #[v, .int .i64 n] W fun r w' => ∃ v', r = .returned v' ∧ Own w' lo v' (l ++ numL (zigN n)) ∧ Below W.heap.size W w' := by
  obtain ⟨a, c, rfl, hy⟩ := h.byts
  refine (rint hy n hn (by omega)).mono ?_
  rintro r w' ⟨v', rfl, ho, hb⟩
  exact ⟨v', rfl, ho.lower hlo, hb⟩
end
theorem index3 (cs : Array Value) (k : Nat) (v : Value) (hk : k < 3) (h : cs[k]? = some v) (w : World) : (Instr.index 68 (.agg cs) (.int .i64 k)).run Tryd.prog w = .ok v w := by
  simp [Instr.index, asIntOf, run_underlying Tryd.underlying68, go_sem, hk, h]
theorem index8 (cs : Array Value) (k : Nat) (v : Value) (hk : k < 8) (h : cs[k]? = some v) (w : World) : (Instr.index 22 (.agg cs) (.int .i64 k)).run Tryd.prog w = .ok v w := by
  simp [Instr.index, asIntOf, run_underlying Tryd.underlying22, go_sem, hk, h]
theorem rbytes_bad (e : Ev) (w : World) (hg : goodE e = false) : Calls Tryd.prog 13 #[.agg (evA e)] w fun r w' => r = .returned (.slice none 0 0) ∧ Below w.heap.size w w' := by
  have B0 : Below w.heap.size w (w.alloc (.cells (evA e) 26)) := (Below.refl _ w).alloc (Nat.le_refl _) _
  have HG := rgood_any e (w.alloc (.cells (evA e) 26))
  rw [hg] at HG
  unfold evA at HG B0 ⊢
  clear hg
  go_enter Tryd.func13, Tryd.ntmps13
  go_wp2_with (go_at_call 9; (with_reducible refine HG.mono ?_); rintro r w1 ⟨rfl, hb1⟩)
  go_ret
  exact ⟨rfl, B0.trans (hb1.mono B0.size)⟩
/-- The three numbers of a context ahead of its registers. -/
def hdL (e : Ev) : List Int := [e.pg, e.pc, e.dp]
end Go.Proofs.YteiidkojofaamaaDoor
namespace Go.Proofs.YteiidkojofaamaaDoor
open Go Go.RowKit

set_option maxRecDepth 100000 in
set_option maxHeartbeats 2000000 in
theorem rtext_any (e : Ev) (w : World) (hR : RgE e) (hF : farB e = false) : Calls Tryd.prog 16 #[.agg (evA e)] w fun r w' => r = .returned (.string ⟨(txtE e).toArray⟩) ∧ Below w.heap.size w w' := by
  have B0 : Below w.heap.size w (w.alloc (.cells (evA e) 26)) := (Below.refl _ w).alloc (Nat.le_refl _) _
  have HN := rname_any e.kd
  have HX : Hid (txtE e = txtJ e 3) := Hid.mk (rfl)
  have HZ : Hid (txtJ e 0 = nameL e.kd) := Hid.mk (txt_zero e)
  have HR := Hid.mk hR
  have HF := Hid.mk hF
  have HB := Hid.mk B0
  clear hR hF B0
  unfold evA at HB ⊢
  go_enter Tryd.func16, Tryd.ntmps16
  go_wp2_with (go_at_call 43; (with_reducible refine (HN _).mono ?_); rintro r w1 ⟨rfl, rfl⟩)
  go_loopw [16, 5, 3] (fun v16 _ v3 wr => ∃ j : Nat, j ≤ 3 ∧ v16 = .int .i64 j ∧ v3 = .string ⟨(txtJ e j).toArray⟩ ∧ Below w.heap.size w wr) (fun v16 _ _ _ => 3 - (intOf v16).toNat)
  case atStart => exact ⟨0, by omega, rfl, by rw [HZ.out], HB.out⟩
  case round =>
    obtain ⟨j, hj, rfl, rfl, hb⟩ := hrel
    by_cases hlt : j < 3
    · obtain ⟨n, hn⟩ : ∃ n, (tns e)[j]? = some n := ⟨_, List.getElem?_eq_getElem (by simpa [tns] using hlt)⟩
      have HI : ∀ W : World, (Instr.index 68 (.agg #[.int .i64 e.ac, .int .i64 e.th, .int .i64 e.va]) (.int .i64 j)).run Tryd.prog W = .ok (.int .i64 n) W := fun W => index3 _ j _ hlt (by
        rcases (show j = 0 ∨ j = 1 ∨ j = 2 by omega) with rfl | rfl | rfl <;> (simp [tns] at hn; subst hn; rfl)) W
      have hlt' : (j : Int) < 3 := by omega
      have HS : Hid (txtJ e (j + 1) = txtJ e j ++ blnk n) := Hid.mk (txt_succ hn)
      have hl1 : (⟨(txtJ e j).toArray⟩ : ByteArray).size ≤ 100 := by rw [sz_bytes]; exact txt_len HR.out j
      have hrg := far_no HF.out (List.mem_of_getElem? hn)
      by_cases hz : n = 0
      · have HQ : Hid (txtJ e (j + 1) = txtJ e j) := Hid.mk (by rw [HS.out, hz]; simp [blnk])
        clear HS hn hrg
        generalize txtJ e j = t at *
        go_wp2_with fail
        go_roundw
        case rel => exact ⟨j + 1, by omega, by simp, by rw [HQ.out], hb⟩
        case measure =>
          simp [intOf]
          omega
      · have HD := rdig_any (v := n) hrg.1 hrg.2 wr
        have HQ : Hid (txtJ e (j + 1) = txtJ e j ++ ([32] ++ Lib.itoa n)) := Hid.mk (by rw [HS.out]; simp [blnk, hz])
        have hl2 : (⟨(Lib.itoa n).toArray⟩ : ByteArray).size ≤ 21 := by rw [sz_bytes]; exact Lib.itoa_length_le n (by omega) (by omega)
        clear HS hn hrg
        have HQ2 : Hid ((⟨(txtJ e (j + 1)).toArray⟩ : ByteArray) = ⟨(txtJ e j).toArray⟩ ++ (⟨#[32]⟩ ++ ⟨(Lib.itoa n).toArray⟩)) := Hid.mk (by rw [HQ.out, ← cat_bytes, ← cat_bytes])
        clear HQ
        generalize (⟨(txtJ e j).toArray⟩ : ByteArray) = s1 at *
        generalize (⟨(Lib.itoa n).toArray⟩ : ByteArray) = s2 at *
        have hs1 : ¬ 9223372036854775807 < 1 + s2.size := by omega
        have hs2 : ¬ 9223372036854775807 < s1.size + (1 + s2.size) := by omega
        go_wp2_with (go_at_call 44; (with_reducible refine HD.mono ?_); rintro r w2 ⟨rfl, rfl⟩)
        go_roundw
        case rel => exact ⟨j + 1, by omega, by simp, by rw [HQ2.out], hb⟩
        case measure =>
          simp [intOf]
          omega
    · obtain rfl : j = 3 := by omega
      go_wp2_with fail
      go_ret
      exact ⟨rfl, hb⟩

theorem far_yes {e : Ev} {j : Nat} {n : Int} (h : (tns e)[j]? = some n) (hf : farN n = true) : farB e = true := List.any_eq_true.2 ⟨n, List.mem_of_getElem? h, hf⟩
theorem far_end {e : Ev} (h : ∀ i n, i < 3 → (tns e)[i]? = some n → farN n = false) : farB e = false := by
  refine List.any_eq_false.2 (fun n hn => ?_)
  obtain ⟨i, hi⟩ := List.getElem?_of_mem hn
  rw [h i n (by have := (List.getElem?_eq_some_iff.1 hi).1; simpa [tns] using this) hi]
  simp
set_option maxRecDepth 100000 in
set_option maxHeartbeats 2000000 in
theorem far_any (e : Ev) (w : World) : Calls Tryd.prog 14 #[.agg (evA e)] w fun r w' => r = .returned (.bool (farB e)) ∧ Below w.heap.size w w' := by
  have B0 : Below w.heap.size w (w.alloc (.cells (evA e) 26)) := (Below.refl _ w).alloc (Nat.le_refl _) _
  have HB := Hid.mk B0
  clear B0
  unfold evA at HB ⊢
  go_enter Tryd.func14, Tryd.ntmps14
  go_wp2_with fail
  go_loopw [12, 4] (fun v12 _ wr => ∃ j : Nat, j ≤ 3 ∧ v12 = .int .i64 j ∧ (∀ i n, i < j → (tns e)[i]? = some n → farN n = false) ∧ Below w.heap.size w wr) (fun v12 _ _ => 3 - (intOf v12).toNat)
  case atStart => exact ⟨0, by omega, rfl, fun i n hi => by omega, HB.out⟩
  case round =>
    obtain ⟨j, hj, rfl, hall, hb⟩ := hrel
    have HA := Hid.mk hall
    clear hall
    by_cases hlt : j < 3
    · obtain ⟨n, hn⟩ : ∃ n, (tns e)[j]? = some n := ⟨_, List.getElem?_eq_getElem (by simpa [tns] using hlt)⟩
      have HI : ∀ W : World, (Instr.index 68 (.agg #[.int .i64 e.ac, .int .i64 e.th, .int .i64 e.va]) (.int .i64 j)).run Tryd.prog W = .ok (.int .i64 n) W := fun W => index3 _ j _ hlt (by
        rcases (show j = 0 ∨ j = 1 ∨ j = 2 by omega) with rfl | rfl | rfl <;> (simp [tns] at hn; subst hn; rfl)) W
      have hlt' : (j : Int) < 3 := by omega
      have HNN := Hid.mk hn
      by_cases h1 : n < -4611686018427387904
      · have HF : Hid (farB e = true) := Hid.mk (far_yes hn (by unfold farN; simp; omega))
        clear hn
        go_wp2_with fail
        go_ret
        exact ⟨congrArg (fun b => Ending.returned (.bool b)) HF.out.symm, hb⟩
      · by_cases h2 : 4611686018427387904 < n
        · have HF : Hid (farB e = true) := Hid.mk (far_yes hn (by unfold farN; simp; omega))
          clear hn
          go_wp2_with fail
          go_ret
          exact ⟨congrArg (fun b => Ending.returned (.bool b)) HF.out.symm, hb⟩
        · have HF : Hid (farN n = false) := Hid.mk (by unfold farN; simp; omega)
          clear hn
          go_wp2_with fail
          go_roundw
          case rel =>
            refine ⟨j + 1, by omega, by simp, fun i m hi hm => ?_, hb⟩
            by_cases hij : i = j
            · subst hij
              rw [HNN.out] at hm
              cases hm
              exact HF.out
            · exact HA.out i m (by omega) hm
          case measure =>
            simp [intOf]
            omega
    · obtain rfl : j = 3 := by omega
      have HF : Hid (farB e = false) := Hid.mk (far_end HA.out)
      go_wp2_with fail
      go_ret
      exact ⟨congrArg (fun b => Ending.returned (.bool b)) HF.out.symm, hb⟩
end Go.Proofs.YteiidkojofaamaaDoor
