/- The reference's used. -/
import Derived.Test.YtbcdjpafdmgbmaaDoorRFns
import Derived.Test.YtbcdjpafdmgbmaaDoorParM
import Derived.Test.YtbcdjpafdmgbmaaDoorGood
namespace Go.Proofs.YtbcdjpafdmgbmaaDoor
open Go.RowKit

/-- The places of those of the first k numbers that are used. -/
def usK (op : Int) (k : Nat) : List Nat := ([0, 1, 2].take k).filter (fun j => sc op j != 45)
theorem usK_zero (op : Int) : usK op 0 = [] := rfl
theorem usK_skip {op : Int} {k : Nat} (hk : k < 3) (h : sc op k = 45) : usK op (k + 1) = usK op k := by
  unfold usK
  match k, hk with
  | 0, _ => simp [h]
  | 1, _ => simp [List.take, h, List.filter_cons]
  | 2, _ => simp [List.take, h, List.filter_cons]
theorem usK_more {op : Int} {k : Nat} (hk : k < 3) (h : sc op k ≠ 45) : usK op (k + 1) = usK op k ++ [k] := by
  unfold usK
  rw [List.take_add_one, List.filter_append]
  congr 1
  match k, hk with
  | 0, _ => simp [h]
  | 1, _ => simp [h]
  | 2, _ => simp [h]
theorem usK_all {op : Int} (h : opB op = true) : usK op 3 = usQ op := by
  unfold usK usQ numQ
  rw [h]
  rfl
theorem usK_len (op : Int) (k : Nat) : (usK op k).length ≤ 3 := by
  unfold usK
  refine Nat.le_trans (List.length_filter_le _ _) ?_
  rw [List.length_take]
  simp
  omega
theorem row_sl {w : World} {base k : Nat} {v : Value} {q : List Int} (h : RowI w base v q) (hk : q.length = k) : ∃ a c, v = .slice a k c := by
  subst hk
  exact own_shape h

set_option maxRecDepth 100000 in
set_option maxHeartbeats 4000000 in
theorem rused_any (x : Ins) (ho : opB x.1 = true) (w : World) :
    Calls Tryd.prog 46 #[.agg (insC x)] w fun e w' => ∃ v, e = .returned v ∧ RowI w' w.heap.size v (usedL x) ∧ Below w.heap.size w w' := by
  have HS := rshape_any x.1
  obtain ⟨l0, l1, l2, hc⟩ := shL_three ho
  have s0 : sc x.1 0 = l0.toNat := by unfold sc; rw [hc]; rfl
  have s1 : sc x.1 1 = l1.toNat := by unfold sc; rw [hc]; rfl
  have s2 : sc x.1 2 = l2.toNat := by unfold sc; rw [hc]; rfl
  rw [hc] at HS
  have hall := Hid.mk (show usedL x = (usK x.1 3).map (nk x) by unfold usedL; rw [usK_all ho])
  have hk0 := Hid.mk (show nk x 0 = x.2.1 from rfl)
  have hk1 := Hid.mk (show nk x 1 = x.2.2.1 from rfl)
  have hk2 := Hid.mk (show nk x 2 = x.2.2.2 from rfl)
  clear hc ho
  have hg : insC x = #[.int .i64 x.1, .int .i64 x.2.1, .int .i64 x.2.2.1, .int .i64 x.2.2.2] := rfl
  rw [hg]
  clear hg
  have i0 : ∀ h, (⟨#[l0, l1, l2]⟩ : ByteArray)[0]'h = l0 := fun _ => rfl
  have i1 : ∀ h, (⟨#[l0, l1, l2]⟩ : ByteArray)[1]'h = l1 := fun _ => rfl
  have i2 : ∀ h, (⟨#[l0, l1, l2]⟩ : ByteArray)[2]'h = l2 := fun _ => rfl
  have j0 : ∀ W, (Instr.index 110 (.agg #[.int .i64 x.2.1, .int .i64 x.2.2.1, .int .i64 x.2.2.2]) (.int .i64 0)).run Tryd.prog W = .ok (.int .i64 x.2.1) W := fun _ => by kernel_rfl
  have j1 : ∀ W, (Instr.index 110 (.agg #[.int .i64 x.2.1, .int .i64 x.2.2.1, .int .i64 x.2.2.2]) (.int .i64 1)).run Tryd.prog W = .ok (.int .i64 x.2.2.1) W := fun _ => by kernel_rfl
  have j2 : ∀ W, (Instr.index 110 (.agg #[.int .i64 x.2.1, .int .i64 x.2.2.1, .int .i64 x.2.2.2]) (.int .i64 2)).run Tryd.prog W = .ok (.int .i64 x.2.2.2) W := fun _ => by kernel_rfl
  go_enter Tryd.func46, Tryd.ntmps46
  go_wp2_with (go_at_call 12; (with_reducible refine (HS _).mono ?_); rintro e w' ⟨rfl, rfl⟩)
  have hb0 : Below w.heap.size w (w.alloc (.cells #[.int .i64 x.1, .int .i64 x.2.1, .int .i64 x.2.2.1, .int .i64 x.2.2.2] 49)) := (Below.refl _ w).alloc (Nat.le_refl _) _
  generalize (w.alloc (.cells #[.int .i64 x.1, .int .i64 x.2.1, .int .i64 x.2.2.1, .int .i64 x.2.2.2] 49)) = W0 at *
  go_loopw [17, 3, 5, 6, 18, 19, 20, 21, 22, 23, 24, 25, 26, 27, 28, 29] (fun p q _ _ _ _ _ _ _ _ _ _ _ _ _ _ wr => ∃ k : Nat, k ≤ 3 ∧ p = .int .i64 k ∧ RowI wr w.heap.size q ((usK x.1 k).map (nk x)) ∧ Below w.heap.size w wr) (fun p _ _ _ _ _ _ _ _ _ _ _ _ _ _ _ _ => 3 - (intOf p).toNat)
  case atStart => exact ⟨0, by omega, rfl, World.ownsRow_nil _ _ _ _, hb0⟩
  case round =>
    obtain ⟨k, hk, rfl, hr, hb⟩ := hrel
    have hlen := usK_len x.1 k
    obtain ⟨m, hm⟩ : ∃ m, ((usK x.1 k).map (nk x)).length = m := ⟨_, rfl⟩
    have hm3 : m ≤ 3 := by rw [← hm, List.length_map]; exact hlen
    obtain ⟨ra, rc, ev⟩ := row_sl hr hm
    subst ev
    rcases (show k = 0 ∨ k = 1 ∨ k = 2 ∨ k = 3 by omega) with rfl | rfl | rfl | rfl
    · by_cases hu : l0.toNat = 45
      · have hn := Hid.mk (usK_skip (op := x.1) (k := 0) (by omega) (by rw [s0]; exact hu))
        have hu2 : ((l0.toNat : Nat) : Int) = 45 := by omega
        clear hm hlen hu
        go_wp2_with fail
        go_roundw
        case rel => exact ⟨1, by omega, rfl, by rw [hn.out]; exact hr, hb⟩
        case measure => decide
      · have hn := Hid.mk (usK_more (op := x.1) (k := 0) (by omega) (by rw [s0]; exact hu))
        have hu2 : ((l0.toNat : Nat) : Int) ≠ 45 := by omega
        have Hm := Hid.mk hm
        have hown : wr.ownsRow w.heap.size 3 1 (.slice ra m rc) m (((usK x.1 0).map (nk x)).map (Value.int .i64)) := by rw [← Hm.out]; rw [Hm.out]; unfold RowI at hr; rw [Hm.out] at hr; exact hr
        have ho2 := hown.alloc (.cells #[.int .i64 x.2.1] 3)
        clear hm hlen hu
        go_wp2_with (at_builtin; refine wpList_app rfl _ _ rfl w.heap.size _ m _ rfl ho2 _ 1 1 [x.2.1] rfl rfl (reads_one _ _) (by omega) (by have := hb.size; simp; omega) ?_; intro v4 w4 ho4 hg4; obtain ⟨a4, c4, ev4⟩ := own_shape ho4; subst ev4)
        have hb1 : Below w.heap.size w (wr.alloc (.cells #[.int .i64 x.2.1] 3)) := hb.alloc hb.size _
        go_roundw
        case rel =>
          refine ⟨1, by omega, rfl, ?_, below_grown hb1 hg4 ho2 hb1.size⟩
          rw [hn.out]
          unfold RowI
          rw [List.map_append, List.length_append, Hm.out]
          exact ho4
        case measure => decide
    · by_cases hu : l1.toNat = 45
      · have hn := Hid.mk (usK_skip (op := x.1) (k := 1) (by omega) (by rw [s1]; exact hu))
        have hu2 : ((l1.toNat : Nat) : Int) = 45 := by omega
        clear hm hlen hu
        go_wp2_with fail
        go_roundw
        case rel => exact ⟨2, by omega, rfl, by rw [hn.out]; exact hr, hb⟩
        case measure => decide
      · have hn := Hid.mk (usK_more (op := x.1) (k := 1) (by omega) (by rw [s1]; exact hu))
        have hu2 : ((l1.toNat : Nat) : Int) ≠ 45 := by omega
        have Hm := Hid.mk hm
        have hown : wr.ownsRow w.heap.size 3 1 (.slice ra m rc) m (((usK x.1 1).map (nk x)).map (Value.int .i64)) := by rw [← Hm.out]; rw [Hm.out]; unfold RowI at hr; rw [Hm.out] at hr; exact hr
        have ho2 := hown.alloc (.cells #[.int .i64 x.2.2.1] 3)
        clear hm hlen hu
        go_wp2_with (at_builtin; refine wpList_app rfl _ _ rfl w.heap.size _ m _ rfl ho2 _ 1 1 [x.2.2.1] rfl rfl (reads_one _ _) (by omega) (by have := hb.size; simp; omega) ?_; intro v4 w4 ho4 hg4; obtain ⟨a4, c4, ev4⟩ := own_shape ho4; subst ev4)
        have hb1 : Below w.heap.size w (wr.alloc (.cells #[.int .i64 x.2.2.1] 3)) := hb.alloc hb.size _
        go_roundw
        case rel =>
          refine ⟨2, by omega, rfl, ?_, below_grown hb1 hg4 ho2 hb1.size⟩
          rw [hn.out]
          unfold RowI
          rw [List.map_append, List.length_append, Hm.out]
          exact ho4
        case measure => decide
    · by_cases hu : l2.toNat = 45
      · have hn := Hid.mk (usK_skip (op := x.1) (k := 2) (by omega) (by rw [s2]; exact hu))
        have hu2 : ((l2.toNat : Nat) : Int) = 45 := by omega
        clear hm hlen hu
        go_wp2_with fail
        go_roundw
        case rel => exact ⟨3, by omega, rfl, by rw [hn.out]; exact hr, hb⟩
        case measure => decide
      · have hn := Hid.mk (usK_more (op := x.1) (k := 2) (by omega) (by rw [s2]; exact hu))
        have hu2 : ((l2.toNat : Nat) : Int) ≠ 45 := by omega
        have Hm := Hid.mk hm
        have hown : wr.ownsRow w.heap.size 3 1 (.slice ra m rc) m (((usK x.1 2).map (nk x)).map (Value.int .i64)) := by rw [← Hm.out]; rw [Hm.out]; unfold RowI at hr; rw [Hm.out] at hr; exact hr
        have ho2 := hown.alloc (.cells #[.int .i64 x.2.2.2] 3)
        clear hm hlen hu
        go_wp2_with (at_builtin; refine wpList_app rfl _ _ rfl w.heap.size _ m _ rfl ho2 _ 1 1 [x.2.2.2] rfl rfl (reads_one _ _) (by omega) (by have := hb.size; simp; omega) ?_; intro v4 w4 ho4 hg4; obtain ⟨a4, c4, ev4⟩ := own_shape ho4; subst ev4)
        have hb1 : Below w.heap.size w (wr.alloc (.cells #[.int .i64 x.2.2.2] 3)) := hb.alloc hb.size _
        go_roundw
        case rel =>
          refine ⟨3, by omega, rfl, ?_, below_grown hb1 hg4 ho2 hb1.size⟩
          rw [hn.out]
          unfold RowI
          rw [List.map_append, List.length_append, Hm.out]
          exact ho4
        case measure => decide
    · rw [← hall.out] at hr
      go_wp2_with fail
      go_ret
      exact ⟨_, rfl, hr, hb⟩

end Go.Proofs.YtbcdjpafdmgbmaaDoor
