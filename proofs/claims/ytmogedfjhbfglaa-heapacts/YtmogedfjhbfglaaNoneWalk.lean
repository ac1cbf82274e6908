/- A heap that no call made; the walk of HeapNone. -/
import Derived.Test.YtmogedfjhbfglaaNew
namespace Go.Proofs.Ytmogedfjhbfglaa
open Go.RowKit

/-- No heap is there, or one without ids. -/
def Un (w : World) (p : Option Addr) : Prop := p = none ∨ ∃ B, p = some ⟨B, 0, none⟩ ∧ w.cell? ⟨B, 1, none⟩ = some (.slice none 0 0)
theorem Un.keep {w w' : World} {p : Option Addr} (h : Un w p) (hb : But [] w w') : Un w' p :=
  h.imp id (fun ⟨B, e, hc⟩ => ⟨B, e, hb.cell hc⟩)

section
variable {w : World} {p : Option Addr}
theorem made_no (h : Un w p) : Calls Try.prog 31 #[.pointer p] w fun e w' => e = .returned (.bool false) ∧ w' = w := by
  rcases h with rfl | ⟨B, rfl, hc⟩
  · go_enter Try.func31, Try.ntmps31
    go_wp2_with fail
    go_ret
    exact ⟨rfl, rfl⟩
  · go_enter Try.func31, Try.ntmps31
    go_wp2_with fail
    go_ret
    exact ⟨rfl, rfl⟩
theorem has_no (h : Un w p) (t : Int) : Calls Try.prog 34 #[.pointer p, .int .i64 t] w fun e w' => e = .returned (.bool false) ∧ w' = w := by
  go_enter Try.func34, Try.ntmps34
  go_wp2_with (first | (go_at_call 31; refine (made_no h).mono ?_; rintro e w' ⟨rfl, hw⟩; subst w'))
  go_ret
  exact ⟨rfl, rfl⟩
theorem ask_no (h : Un w p) (t : Int) (b : Bool) (l : Int) : Calls Try.prog 36 #[.pointer p, .int .i64 t, .bool b, .int .i64 l] w fun e w' => e = .returned (.int .i64 1) ∧ w' = w := by
  go_enter Try.func36, Try.ntmps36
  go_wp2_with (first | (go_at_call 31; refine (made_no h).mono ?_; rintro e w' ⟨rfl, hw⟩; subst w'))
  go_ret
  exact ⟨rfl, rfl⟩
theorem len_no (h : Un w p) : Calls Try.prog 13 #[.pointer p] w fun e w' => e = .returned (.int .i64 0) ∧ w' = w := by
  go_enter Try.func13, Try.ntmps13
  go_wp2_with (first | (go_at_call 31; refine (made_no h).mono ?_; rintro e w' ⟨rfl, hw⟩; subst w'))
  go_ret
  exact ⟨rfl, rfl⟩
theorem least_no (h : Un w p) : Calls Try.prog 14 #[.pointer p] w fun e w' => e = .returned (.tuple #[.int .i64 0, .int .i64 0, .bool false]) ∧ w' = w := by
  go_enter Try.func14, Try.ntmps14
  go_wp2_with (first | (go_at_call 13; refine (len_no h).mono ?_; rintro e w' ⟨rfl, hw⟩; subst w'))
  go_ret3
  exact ⟨rfl, rfl⟩
theorem pop_no (h : Un w p) : Calls Try.prog 21 #[.pointer p] w fun e w' => e = .returned (.tuple #[.int .i64 0, .int .i64 0, .bool false]) ∧ w' = w := by
  go_enter Try.func21, Try.ntmps21
  go_wp2_with (first | (go_at_call 14; refine (least_no h).mono ?_; rintro e w' ⟨rfl, hw⟩; subst w'))
  go_ret3
  exact ⟨rfl, rfl⟩
theorem key_no (h : Un w p) (t : Int) : Calls Try.prog 16 #[.pointer p, .int .i64 t] w fun e w' => e = .returned (.tuple #[.int .i64 0, .bool false]) ∧ w' = w := by
  go_enter Try.func16, Try.ntmps16
  go_wp2_with (first | (go_at_call 34; refine (has_no h t).mono ?_; rintro e w' ⟨rfl, hw⟩; subst w'))
  go_ret2
  exact ⟨rfl, rfl⟩
theorem put_no (h : Un w p) (t : Int) (k : Int) : Calls Try.prog 20 #[.pointer p, .int .i64 t, .int .i64 k] w fun e w' => e = .returned (.int .i64 1) ∧ w' = w := by
  go_enter Try.func20, Try.ntmps20
  go_wp2_with (first | (go_at_call 36; refine (ask_no h t false 5).mono ?_; rintro e w' ⟨rfl, hw⟩; subst w'))
  go_ret
  exact ⟨rfl, rfl⟩
theorem change_no (h : Un w p) (t : Int) (k : Int) : Calls Try.prog 22 #[.pointer p, .int .i64 t, .int .i64 k] w fun e w' => e = .returned (.int .i64 1) ∧ w' = w := by
  go_enter Try.func22, Try.ntmps22
  go_wp2_with (first | (go_at_call 36; refine (ask_no h t true 4).mono ?_; rintro e w' ⟨rfl, hw⟩; subst w'))
  go_ret
  exact ⟨rfl, rfl⟩
theorem remove_no (h : Un w p) (t : Int) : Calls Try.prog 23 #[.pointer p, .int .i64 t] w fun e w' => e = .returned (.int .i64 1) ∧ w' = w := by
  go_enter Try.func23, Try.ntmps23
  go_wp2_with (first | (go_at_call 36; refine (ask_no h t true 4).mono ?_; rintro e w' ⟨rfl, hw⟩; subst w'))
  go_ret
  exact ⟨rfl, rfl⟩
theorem lower_no (h : Un w p) (t : Int) : Calls Try.prog 24 #[.pointer p, .int .i64 t] w fun e w' => e = .returned (.int .i64 1) ∧ w' = w := by
  go_enter Try.func24, Try.ntmps24
  go_wp2_with (first | (go_at_call 31; refine (made_no h).mono ?_; rintro e w' ⟨rfl, hw⟩; subst w'))
  go_ret
  exact ⟨rfl, rfl⟩
theorem sound_no (h : Un w p) : Calls Try.prog 12 #[.pointer p] w fun e w' => e = .returned (.bool false) ∧ w' = w := by
  go_enter Try.func12, Try.ntmps12
  go_wp2_with (first | (go_at_call 31; refine (made_no h).mono ?_; rintro e w' ⟨rfl, hw⟩; subst w'))
  go_ret
  exact ⟨rfl, rfl⟩
theorem copy_no (h : Un w p) : Calls Try.prog 25 #[.pointer p] w fun e w' => e = .returned (.pointer none) ∧ w' = w := by
  go_enter Try.func25, Try.ntmps25
  go_wp2_with (first | (go_at_call 31; refine (made_no h).mono ?_; rintro e w' ⟨rfl, hw⟩; subst w'))
  go_ret
  exact ⟨rfl, rfl⟩
theorem all_no (h : Un w p) : Calls Try.prog 19 #[.pointer p] w fun e w' => e = .returned (.slice (some ⟨w.heap.size, 0, none⟩) 0 0) ∧ But [] w w' := by
  have m1 := mk_int 0 (by omega) w
  have hb : But [] w (w.alloc (.cells (madeCells #[.int .i64 0] 0) 3)) := (But.refl [] w).alloc _
  have h2 := h.keep hb
  rw [show ((0 : Nat) : Int) = 0 from rfl] at m1
  go_enter Try.func19, Try.ntmps19
  go_wp2_with (first
    | (go_at_call 13; refine (len_no h).mono ?_; rintro e w' ⟨rfl, hw⟩; subst w')
    | (go_at_call 25; refine (copy_no h2).mono ?_; rintro e w' ⟨rfl, hw⟩; subst w'))
  clear m1 h
  generalize w.alloc (.cells (madeCells #[.int .i64 0] 0) 3) = W1 at *
  go_loopw [13, 5] (fun v _ wr => v = .int .i64 0 ∧ wr = W1) (fun _ _ _ => 0)
  case atStart => exact ⟨rfl, rfl⟩
  case round =>
    obtain ⟨rfl, rfl⟩ := hrel
    go_wp2_with fail
    go_ret
    exact ⟨rfl, hb⟩
end

/-- The act that lies in box A. -/
def ActAt (w : World) (A : Nat) (k l t : Int) : Prop := w.cell? ⟨A, 0, none⟩ = some (.int .i64 k) ∧ w.cell? ⟨A, 1, none⟩ = some (.int .i64 l) ∧ w.cell? ⟨A, 2, none⟩ = some (.int .i64 t)
theorem ActAt.keep {w w' : World} {A : Nat} {k l t : Int} (h : ActAt w A k l t) (hb : But [] w w') : ActAt w' A k l t := ⟨hb.cell h.1, hb.cell h.2.1, hb.cell h.2.2⟩
theorem ActAt.new (w : World) (k l t : Int) : ActAt (w.alloc (.cells #[.int .i64 k, .int .i64 l, .int .i64 t] 29)) w.heap.size k l t := by
  refine ⟨?_, ?_, ?_⟩ <;> simp [go_sem]

set_option maxRecDepth 100000 in
set_option maxHeartbeats 4000000 in
theorem none_any (k l t : Int) (w : World) :
    Calls Try.prog 7 #[.agg #[.int .i64 k, .int .i64 l, .int .i64 t]] w fun e w' => e = .returned (.bool true) ∧ Below w.heap.size w w' := by
  go_enter Try.func7, Try.ntmps7
  go_wp2_with fail
  have hB0 : Below w.heap.size w ((w.alloc (.cells #[.int .i64 k, .int .i64 l, .int .i64 t] 29)).alloc (.cells #[.slice none 0 0, .slice none 0 0] 54)) := ((Below.refl _ w).alloc (Nat.le_refl _) _).alloc (by simp) _
  have hA0 : ActAt ((w.alloc (.cells #[.int .i64 k, .int .i64 l, .int .i64 t] 29)).alloc (.cells #[.slice none 0 0, .slice none 0 0] 54)) w.heap.size k l t := (ActAt.new w k l t).keep ((But.refl [] _).alloc _)
  have hc0 : ((w.alloc (.cells #[.int .i64 k, .int .i64 l, .int .i64 t] 29)).alloc (.cells #[.slice none 0 0, .slice none 0 0] 54)).cell? ⟨w.heap.size + 1, 1, none⟩ = some (.slice none 0 0) := by simp [go_sem]
  generalize (w.alloc (.cells #[.int .i64 k, .int .i64 l, .int .i64 t] 29)).alloc (.cells #[.slice none 0 0, .slice none 0 0] 54) = W0 at hB0 hc0 hA0 ⊢
  go_loopw [15, 5, 6, 7, 8, 9, 10, 11, 12, 13] (fun v _ _ _ _ _ _ _ _ _ wr => (v = .int .i64 0 ∨ v = .int .i64 1 ∨ v = .int .i64 2) ∧ But [] W0 wr) (fun v _ _ _ _ _ _ _ _ _ _ => 2 - (intOf v).toNat)
  case atStart => exact ⟨.inl rfl, But.refl _ _⟩
  case round =>
    obtain ⟨hj3, hB⟩ := hrel
    have hA := hA0.keep hB
    obtain ⟨-, a1, a2⟩ := hA
    have i0 : ∀ W, (Instr.index 55 (.agg #[.pointer none, .pointer (some ⟨w.heap.size + 1, 0, none⟩)]) (.int .i64 0)).run Try.prog W = .ok (.pointer none) W := fun _ => by kernel_rfl
    have i1 : ∀ W, (Instr.index 55 (.agg #[.pointer none, .pointer (some ⟨w.heap.size + 1, 0, none⟩)]) (.int .i64 1)).run Try.prog W = .ok (.pointer (some ⟨w.heap.size + 1, 0, none⟩)) W := fun _ => by kernel_rfl
    rcases hj3 with rfl | rfl | rfl
    · have hU : Un wr none := .inl rfl
      go_wp2_with (first
      | (go_at_call 14; refine (least_no hU).mono ?_; rintro e w' ⟨rfl, hw⟩; subst w')
      | (go_at_call 21; refine (pop_no hU).mono ?_; rintro e w' ⟨rfl, hw⟩; subst w')
      | (go_at_call 16; refine (key_no hU l).mono ?_; rintro e w' ⟨rfl, hw⟩; subst w')
      | (go_at_call 20; refine (put_no hU l t).mono ?_; rintro e w' ⟨rfl, hw⟩; subst w')
      | (go_at_call 22; refine (change_no hU l t).mono ?_; rintro e w' ⟨rfl, hw⟩; subst w')
      | (go_at_call 23; refine (remove_no hU l).mono ?_; rintro e w' ⟨rfl, hw⟩; subst w')
      | (go_at_call 24; refine (lower_no hU t).mono ?_; rintro e w' ⟨rfl, hw⟩; subst w')
      | (go_at_call 13; refine (len_no hU).mono ?_; rintro e w' ⟨rfl, hw⟩; subst w')
      | (go_at_call 19; refine (all_no hU).mono ?_; rintro e w1 ⟨rfl, b1⟩; have hU1 := hU.keep b1)
      | (go_at_call 12; refine (sound_no hU1).mono ?_; rintro e w' ⟨rfl, hw⟩; subst w')
      | (go_at_call 25; refine (copy_no hU1).mono ?_; rintro e w' ⟨rfl, hw⟩; subst w'))
      go_roundw
      case rel => exact ⟨.inr (.inl rfl), hB.trans b1⟩
      case measure =>
        simp [intOf]
    · have hU : Un wr (some ⟨w.heap.size + 1, 0, none⟩) := .inr ⟨_, rfl, hB.cell hc0⟩
      go_wp2_with (first
      | (go_at_call 14; refine (least_no hU).mono ?_; rintro e w' ⟨rfl, hw⟩; subst w')
      | (go_at_call 21; refine (pop_no hU).mono ?_; rintro e w' ⟨rfl, hw⟩; subst w')
      | (go_at_call 16; refine (key_no hU l).mono ?_; rintro e w' ⟨rfl, hw⟩; subst w')
      | (go_at_call 20; refine (put_no hU l t).mono ?_; rintro e w' ⟨rfl, hw⟩; subst w')
      | (go_at_call 22; refine (change_no hU l t).mono ?_; rintro e w' ⟨rfl, hw⟩; subst w')
      | (go_at_call 23; refine (remove_no hU l).mono ?_; rintro e w' ⟨rfl, hw⟩; subst w')
      | (go_at_call 24; refine (lower_no hU t).mono ?_; rintro e w' ⟨rfl, hw⟩; subst w')
      | (go_at_call 13; refine (len_no hU).mono ?_; rintro e w' ⟨rfl, hw⟩; subst w')
      | (go_at_call 19; refine (all_no hU).mono ?_; rintro e w1 ⟨rfl, b1⟩; have hU1 := hU.keep b1)
      | (go_at_call 12; refine (sound_no hU1).mono ?_; rintro e w' ⟨rfl, hw⟩; subst w')
      | (go_at_call 25; refine (copy_no hU1).mono ?_; rintro e w' ⟨rfl, hw⟩; subst w'))
      go_roundw
      case rel => exact ⟨.inr (.inr rfl), hB.trans b1⟩
      case measure =>
        simp [intOf]
    · go_wp2_with (first
        | (go_at_call 8; refine (lives_any _).mono ?_; rintro e w' ⟨rfl, hb⟩))
      go_ret
      have s1 := hB0.trans (hB.to_below.mono hB0.size)
      exact ⟨rfl, s1.trans (hb.mono s1.size)⟩

end Go.Proofs.Ytmogedfjhbfglaa
