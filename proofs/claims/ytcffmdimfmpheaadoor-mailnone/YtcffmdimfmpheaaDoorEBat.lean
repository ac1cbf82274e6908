/- Batch: the program's. -/
import Derived.Test.YtcffmdimfmpheaaDoorEEq
import Derived.Test.YtcffmdimfmpheaaDoorCHoldT
import Derived.Test.YtcffmdimfmpheaaDoorKFns
namespace Go.Proofs.YtcffmdimfmpheaaDoor
open Go Go.RowKit

theorem pre_any (e : Ev) (w : World) : Calls Tryd.prog 47 #[.agg (evA e)] w fun r w' => r = .returned (.bool (preB e)) ∧ w' = w.alloc (.cells (evA e) 33) := by
  unfold evA preB
  go_enter Tryd.func47, Tryd.ntmps47
  go_wp2_with fail
  go_ret
  exact ⟨rfl, rfl⟩
/-- The place of the first Preempted one; -1: there is none. -/
def Idx (xs : List Ev) (z : Int) : Prop := (z = -1 ∧ ∀ i, i < xs.length → preB (ev xs i) = false) ∨ ∃ j : Nat, z = (j : Int) ∧ j < xs.length ∧ preB (ev xs j) = true ∧ ∀ i, i < j → preB (ev xs i) = false
set_option maxHeartbeats 1000000 in
set_option maxRecDepth 100000 in
theorem idx_any {w : World} {c : Nat} {a : Option Addr} {xs : List Ev} (hx : EV w a xs) (hn : xs.length ≤ 100000) :
    Calls Tryd.prog 46 #[.slice a xs.length c, .func (.func 47) #[] #[]] w fun e w' => ∃ z, e = .returned (.int .i64 z) ∧ Idx xs z ∧ Below w.heap.size w w' := by
  go_enter Tryd.func46, Tryd.ntmps46
  go_wp2_with fail
  go_loopw [8, 5] (fun v _ wr => ∃ j : Nat, j ≤ xs.length ∧ v = .int .i64 j ∧ (∀ i, i < j → preB (ev xs i) = false) ∧ Below w.heap.size w wr) (fun v _ _ => 100000 - (intOf v).toNat)
  case atStart => exact ⟨0, Nat.zero_le _, rfl, fun i hi => by omega, Below.refl _ _⟩
  case round =>
    obtain ⟨j, hj, rfl, hall, hb⟩ := hrel
    by_cases hlt : j < xs.length
    · obtain ⟨b, o, rfl, hc⟩ := hx.below hb j hlt
      obtain ⟨c0, c1, c2, c3, c4, c5, c6, c7, c8, c9, c10, c11, c12, c13, c14⟩ := hc.cells
      have hlt' : (j : Int) < (xs.length : Int) := by omega
      have HALL : Hid (∀ i, i < j → preB (ev xs i) = false) := hall
      have CL := pre_any (ev xs j)
      unfold evA at CL
      clear hall hc
      cases hp : preB (ev xs j) with
      | true =>
        rw [hp] at CL
        have HE : Hid (preB (ev xs j) = true) := hp
        clear hp
        generalize ev xs j = x at CL c0 c1 c2 c3 c4 c5 c6 c7 c8 c9 c10 c11 c12 c13 c14
        go_wp2_with (first | (go_at_call 47; (with_reducible refine (CL _).mono ?_); rintro e w1 ⟨rfl, rfl⟩))
        go_ret
        exact ⟨_, rfl, .inr ⟨j, rfl, hlt, HE.out, HALL.out⟩, hb.alloc hb.size _⟩
      | false =>
        rw [hp] at CL
        have HE : Hid (∀ i, i < j + 1 → preB (ev xs i) = false) := fun i hi => by
          by_cases h : i = j
          · rw [h]; exact hp
          · exact HALL.out i (by omega)
        clear hp
        generalize ev xs j = x at CL c0 c1 c2 c3 c4 c5 c6 c7 c8 c9 c10 c11 c12 c13 c14
        go_wp2_with (first | (go_at_call 47; (with_reducible refine (CL _).mono ?_); rintro e w1 ⟨rfl, rfl⟩))
        go_roundw
        case rel => exact ⟨j + 1, by omega, by simp, HE.out, hb.alloc hb.size _⟩
        case measure =>
          simp [intOf]
          omega
    · obtain rfl : j = xs.length := by omega
      have HALL : Hid (∀ i, i < xs.length → preB (ev xs i) = false) := hall
      clear hall
      go_wp2_with fail
      go_ret
      exact ⟨_, rfl, .inl ⟨rfl, HALL.out⟩, hb⟩

theorem eql_sE (a : Addr) (n c : Nat) (W : World) : Sem.run Tryd.prog (binOp .eql 34 (.slice (some a) n c) (.slice none 0 0)) W = .ok (.bool false) W := by kernel_rfl
theorem eql_nE (n c : Nat) (W : World) : Sem.run Tryd.prog (binOp .eql 34 (.slice none n c) (.slice none 0 0)) W = .ok (.bool true) W := by kernel_rfl
set_option maxHeartbeats 400000 in
theorem eclone_any {w : World} {a : Option Addr} {xs : List Ev} (c : Nat) (h : EV w a xs) (hl : xs.length ≤ 90000) :
    Calls Tryd.prog 48 #[.slice a xs.length c] w fun e w' => ∃ v, e = .returned v ∧ OwE w' w.heap.size v xs ∧ Below w.heap.size w w' := by
  cases a with
  | none =>
    have e : xs = [] := by
      cases xs with
      | nil => rfl
      | cons x xs =>
        obtain ⟨b, o, e, _⟩ := h 0 (by simp)
        cases e
    subst e
    have eq := eql_nE 0 c
    go_enter Tryd.func48, Tryd.ntmps48
    go_wp2_with fail
    go_ret
    exact ⟨_, rfl, OwE.nil _ _, Below.refl _ _⟩
  | some ad =>
    have eq := eql_sE ad xs.length c
    have hn := owE_none w
    have hb0 : Below w.heap.size w (w.alloc (.cells #[] 33)) := (Below.refl _ w).alloc (Nat.le_refl _) _
    have h' := h.below hb0
    go_enter Tryd.func48, Tryd.ntmps48
    go_wp2_with (at_builtin; refine wpList_appE rfl _ _ rfl w.heap.size _ [] rfl hn _ _ _ xs rfl rfl h' (by simp; omega) (by simp) ?_; intro v3 w3 ho3 hg3 hs3)
    go_ret
    exact ⟨_, rfl, ho3, below_grown hb0 hg3 hn (by simp)⟩
end Go.Proofs.YtcffmdimfmpheaaDoor
