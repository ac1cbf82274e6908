/- Links that no call made; the walk of LinksNone. -/
import Derived.Test.YtpaedcknhlojkaaApp
namespace Go.Proofs.Ytpaedcknhlojkaa
open Go.RowKit

/-- No Links are there, or ones without lists. -/
def Un (w : World) (p : Option Addr) : Prop := p = none ∨ ∃ B, p = some ⟨B, 0, none⟩ ∧ w.cell? ⟨B, 3, none⟩ = some (.slice none 0 0)
theorem Un.keep {w w' : World} {p : Option Addr} (h : Un w p) (hb : But [] w w') : Un w' p :=
  h.imp id (fun ⟨B, e, hc⟩ => ⟨B, e, hb.cell hc⟩)
theorem Un.below {w w' : World} {p : Option Addr} (h : Un w p) (hb : Below w.heap.size w w') : Un w' p := h.keep (.of_below hb)
theorem Un.drawn {w w' : World} {p : Option Addr} (h : Un w p) (hb : Drawn w w') : Un w' p := h.keep hb.but

section
variable {w : World} {p : Option Addr}
theorem made_no (h : Un w p) : Calls Try.prog 41 #[.pointer p] w fun e w' => e = .returned (.bool false) ∧ w' = w := by
  rcases h with rfl | ⟨B, rfl, hc⟩
  · go_enter Try.func41, Try.ntmps41
    go_wp2_with fail
    go_ret
    exact ⟨rfl, rfl⟩
  · go_enter Try.func41, Try.ntmps41
    go_wp2_with fail
    go_ret
    exact ⟨rfl, rfl⟩
theorem hasThing_no (h : Un w p) (t : Int) : Calls Try.prog 32 #[.pointer p, .int .i64 t] w fun e w' => e = .returned (.bool false) ∧ w' = w := by
  go_enter Try.func32, Try.ntmps32
  go_wp2_with (first | (go_at_call 41; refine (made_no h).mono ?_; rintro e w' ⟨rfl, hw⟩; subst w'))
  go_ret
  exact ⟨rfl, rfl⟩
theorem hasList_no (h : Un w p) (t : Int) : Calls Try.prog 33 #[.pointer p, .int .i64 t] w fun e w' => e = .returned (.bool false) ∧ w' = w := by
  go_enter Try.func33, Try.ntmps33
  go_wp2_with (first | (go_at_call 41; refine (made_no h).mono ?_; rintro e w' ⟨rfl, hw⟩; subst w'))
  go_ret
  exact ⟨rfl, rfl⟩
theorem len_no (h : Un w p) (i : Int) : Calls Try.prog 14 #[.pointer p, .int .i64 i] w fun e w' => e = .returned (.int .i64 0) ∧ w' = w := by
  go_enter Try.func14, Try.ntmps14
  go_wp2_with (first | (go_at_call 33; refine (hasList_no h i).mono ?_; rintro e w' ⟨rfl, hw⟩; subst w'))
  go_ret
  exact ⟨rfl, rfl⟩
theorem where_no (h : Un w p) (i : Int) : Calls Try.prog 12 #[.pointer p, .int .i64 i] w fun e w' => e = .returned (.int .i64 (-1)) ∧ w' = w := by
  go_enter Try.func12, Try.ntmps12
  go_wp2_with (first | (go_at_call 32; refine (hasThing_no h i).mono ?_; rintro e w' ⟨rfl, hw⟩; subst w'))
  go_ret
  exact ⟨rfl, rfl⟩
theorem ask_no (h : Un w p) (b : Bool) (f : Value) : Calls Try.prog 38 #[.pointer p, .bool b, f] w fun e w' => e = .returned (.int .i64 1) ∧ w' = w := by
  go_enter Try.func38, Try.ntmps38
  go_wp2_with (first | (go_at_call 41; refine (made_no h).mono ?_; rintro e w' ⟨rfl, hw⟩; subst w'))
  go_ret
  exact ⟨rfl, rfl⟩
theorem copy_no (h : Un w p) : Calls Try.prog 21 #[.pointer p] w fun e w' => e = .returned (.pointer none) ∧ w' = w := by
  go_enter Try.func21, Try.ntmps21
  go_wp2_with (first | (go_at_call 41; refine (made_no h).mono ?_; rintro e w' ⟨rfl, hw⟩; subst w'))
  go_ret
  exact ⟨rfl, rfl⟩
theorem now_no (h : Un w p) (i : Int) : Calls Try.prog 48 #[.pointer p, .int .i64 i] w fun e w' => e = .returned (.slice none 0 0) ∧ w' = w := by
  go_enter Try.func48, Try.ntmps48
  go_wp2_with (first | (go_at_call 14; refine (len_no h i).mono ?_; rintro e w' ⟨rfl, hw⟩; subst w'))
  go_ret
  exact ⟨rfl, rfl⟩
theorem Un.src (h : Un w p) (i : Int) : Src w (.pointer p) i [] := by
  refine ⟨fun W hW => (now_no (h.below hW) i).mono ?_, by simp⟩
  rintro e w' ⟨rfl, rfl⟩
  exact ⟨_, rfl, .inl ⟨rfl, rfl⟩, But.refl _ _⟩

set_option maxHeartbeats 2000000 in
theorem askPut_no (h : Un w p) (i t : Int) : Calls Try.prog 36 #[.pointer p, .int .i64 i, .int .i64 t] w fun e w' => e = .returned (.int .i64 1) ∧ But [] w w' := by
  have hB : But [] w ((w.alloc (.cells #[.pointer p] 27)).alloc (.cells #[.int .i64 t] 3)) := ((But.refl [] w).alloc _).alloc _
  obtain ⟨x0, x1⟩ := box_two w 27 3 (.pointer p) (.int .i64 t)
  have h' := h.keep hB
  clear h
  go_enter Try.func36, Try.ntmps36
  go_wp2_with fail
  generalize ((w.alloc (.cells #[.pointer p] 27)).alloc (.cells #[.int .i64 t] 3)) = W0 at *
  go_quiet (first
    | (go_at_call 33; exact Calls.quiet_of_same (hasList_no (h'.drawn ⟨_, rfl⟩) i))
    | (go_at_call 38; exact Calls.quiet_of_same (ask_no (h'.drawn ⟨_, rfl⟩) _ _)))
  go_wp2_with fail
  go_ret
  exact ⟨rfl, hB.drewN _⟩
theorem push_no (h : Un w p) (i t : Int) : Calls Try.prog 18 #[.pointer p, .int .i64 i, .int .i64 t] w fun e w' => e = .returned (.int .i64 1) ∧ But [] w w' := by
  go_enter Try.func18, Try.ntmps18
  go_wp2_with (first | (go_at_call 36; refine (askPut_no h i t).mono ?_; rintro e w' ⟨rfl, hb⟩))
  go_ret
  exact ⟨rfl, hb⟩
theorem front_no (h : Un w p) (i t : Int) : Calls Try.prog 19 #[.pointer p, .int .i64 i, .int .i64 t] w fun e w' => e = .returned (.int .i64 1) ∧ But [] w w' := by
  go_enter Try.func19, Try.ntmps19
  go_wp2_with (first | (go_at_call 36; refine (askPut_no h i t).mono ?_; rintro e w' ⟨rfl, hb⟩))
  go_ret
  exact ⟨rfl, hb⟩
set_option maxHeartbeats 2000000 in
theorem remove_no (h : Un w p) (t : Int) : Calls Try.prog 24 #[.pointer p, .int .i64 t] w fun e w' => e = .returned (.int .i64 1) ∧ But [] w w' := by
  have hB : But [] w ((w.alloc (.cells #[.pointer p] 27)).alloc (.cells #[.int .i64 t] 3)) := ((But.refl [] w).alloc _).alloc _
  obtain ⟨x0, x1⟩ := box_two w 27 3 (.pointer p) (.int .i64 t)
  have h' := h.keep hB
  clear h
  go_enter Try.func24, Try.ntmps24
  go_wp2_with fail
  generalize ((w.alloc (.cells #[.pointer p] 27)).alloc (.cells #[.int .i64 t] 3)) = W0 at *
  go_quiet (first
    | (go_at_call 32; exact Calls.quiet_of_same (hasThing_no (h'.drawn ⟨_, rfl⟩) t))
    | (go_at_call 38; exact Calls.quiet_of_same (ask_no (h'.drawn ⟨_, rfl⟩) _ _)))
  go_wp2_with fail
  go_ret
  exact ⟨rfl, hB.drewN _⟩
set_option maxHeartbeats 2000000 in
theorem pop_no (h : Un w p) (t : Int) : Calls Try.prog 23 #[.pointer p, .int .i64 t] w fun e w' => e = .returned (.tuple #[.int .i64 0, .int .i64 1]) ∧ But [] w w' := by
  have hB : But [] w ((w.alloc (.cells #[.pointer p] 27)).alloc (.cells #[.int .i64 t] 3)) := ((But.refl [] w).alloc _).alloc _
  obtain ⟨x0, x1⟩ := box_two w 27 3 (.pointer p) (.int .i64 t)
  have h' := h.keep hB
  clear h
  go_enter Try.func23, Try.ntmps23
  go_wp2_with fail
  generalize ((w.alloc (.cells #[.pointer p] 27)).alloc (.cells #[.int .i64 t] 3)) = W0 at *
  go_quiet (first
    | (go_at_call 33; exact Calls.quiet_of_same (hasList_no (h'.drawn ⟨_, rfl⟩) t))
    | (go_at_call 38; exact Calls.quiet_of_same (ask_no (h'.drawn ⟨_, rfl⟩) _ _)))
  go_wp2_with fail
  go_ret2
  exact ⟨rfl, hB.drewN _⟩
set_option maxHeartbeats 2000000 in
theorem move_no (h : Un w p) (a b : Int) : Calls Try.prog 20 #[.pointer p, .int .i64 a, .int .i64 b] w fun e w' => e = .returned (.tuple #[.int .i64 0, .int .i64 1]) ∧ But [] w w' := by
  have hB : But [] w (((w.alloc (.cells #[.pointer p] 27)).alloc (.cells #[.int .i64 a] 3)).alloc (.cells #[.int .i64 b] 3)) := (((But.refl [] w).alloc _).alloc _).alloc _
  obtain ⟨x0, x1, x2⟩ := box_three w 27 3 3 (.pointer p) (.int .i64 a) (.int .i64 b)
  have h' := h.keep hB
  clear h
  go_enter Try.func20, Try.ntmps20
  go_wp2_with fail
  generalize (((w.alloc (.cells #[.pointer p] 27)).alloc (.cells #[.int .i64 a] 3)).alloc (.cells #[.int .i64 b] 3)) = W0 at *
  go_quiet (first
    | (go_at_call 33; exact Calls.quiet_of_same (hasList_no (h'.drawn ⟨_, rfl⟩) a))
    | (go_at_call 38; exact Calls.quiet_of_same (ask_no (h'.drawn ⟨_, rfl⟩) _ _)))
  go_wp2_with fail
  go_ret2
  exact ⟨rfl, hB.drewN _⟩
end

theorem RowI.nil {w : World} {base : Nat} {v : Value} (h : RowI w base v []) : ∃ a c, v = .slice a 0 c := by
  obtain ⟨a, c, e, _⟩ := h.shape
  exact ⟨a, c, e⟩

/-- The act that lies in box A. -/
def ActAt (w : World) (A : Nat) (k l t : Int) : Prop := w.cell? ⟨A, 0, none⟩ = some (.int .i64 k) ∧ w.cell? ⟨A, 1, none⟩ = some (.int .i64 l) ∧ w.cell? ⟨A, 2, none⟩ = some (.int .i64 t)
theorem ActAt.keep {w w' : World} {A : Nat} {k l t : Int} (h : ActAt w A k l t) (hb : But [] w w') : ActAt w' A k l t := ⟨hb.cell h.1, hb.cell h.2.1, hb.cell h.2.2⟩
theorem ActAt.new (w : World) (k l t : Int) : ActAt (w.alloc (.cells #[.int .i64 k, .int .i64 l, .int .i64 t] 25)) w.heap.size k l t := by
  refine ⟨?_, ?_, ?_⟩ <;> simp [go_sem]

set_option maxRecDepth 100000 in
set_option maxHeartbeats 4000000 in
theorem none_any (k l t : Int) (w : World) :
    Calls Try.prog 7 #[.agg #[.int .i64 k, .int .i64 l, .int .i64 t]] w fun e w' => e = .returned (.bool true) ∧ Below w.heap.size w w' := by
  go_enter Try.func7, Try.ntmps7
  go_wp2_with fail
  have hB0 : Below w.heap.size w ((w.alloc (.cells #[.int .i64 k, .int .i64 l, .int .i64 t] 25)).alloc (.cells #[.slice none 0 0, .slice none 0 0, .slice none 0 0, .slice none 0 0] 51)) := ((Below.refl _ w).alloc (Nat.le_refl _) _).alloc (by simp) _
  have hA0 : ActAt ((w.alloc (.cells #[.int .i64 k, .int .i64 l, .int .i64 t] 25)).alloc (.cells #[.slice none 0 0, .slice none 0 0, .slice none 0 0, .slice none 0 0] 51)) w.heap.size k l t := (ActAt.new w k l t).keep ((But.refl [] _).alloc _)
  have hc0 : ((w.alloc (.cells #[.int .i64 k, .int .i64 l, .int .i64 t] 25)).alloc (.cells #[.slice none 0 0, .slice none 0 0, .slice none 0 0, .slice none 0 0] 51)).cell? ⟨w.heap.size + 1, 3, none⟩ = some (.slice none 0 0) := by simp [go_sem]
  generalize (w.alloc (.cells #[.int .i64 k, .int .i64 l, .int .i64 t] 25)).alloc (.cells #[.slice none 0 0, .slice none 0 0, .slice none 0 0, .slice none 0 0] 51) = W0 at hB0 hc0 hA0 ⊢
  go_loopw [13] (fun v wr => (v = .int .i64 0 ∨ v = .int .i64 1 ∨ v = .int .i64 2) ∧ But [] W0 wr) (fun v _ => 2 - (intOf v).toNat)
  case atStart => exact ⟨.inl rfl, But.refl _ _⟩
  case round =>
    obtain ⟨hj3, hB⟩ := hrel
    have hA := hA0.keep hB
    have hA' := hA
    obtain ⟨-, a1, a2⟩ := hA'
    have i0 : ∀ W, (Instr.index 52 (.agg #[.pointer none, .pointer (some ⟨w.heap.size + 1, 0, none⟩)]) (.int .i64 0)).run Try.prog W = .ok (.pointer none) W := fun _ => by kernel_rfl
    have i1 : ∀ W, (Instr.index 52 (.agg #[.pointer none, .pointer (some ⟨w.heap.size + 1, 0, none⟩)]) (.int .i64 1)).run Try.prog W = .ok (.pointer (some ⟨w.heap.size + 1, 0, none⟩)) W := fun _ => by kernel_rfl
    rcases hj3 with rfl | rfl | rfl
    · have hU : Un wr none := .inl rfl
      go_wp2_with (first
      | (go_at_call 23; refine (pop_no hU l).mono ?_; rintro e w1 ⟨rfl, b1⟩; have hU1 := hU.keep b1; have hA1 := hA.keep b1; have hA1' := hA1; obtain ⟨-, a1, a2⟩ := hA1'; have hB1 := hB.trans b1)
      | (go_at_call 20; refine (move_no hU1 l t).mono ?_; rintro e w2 ⟨rfl, b2⟩; have hU2 := hU1.keep b2; have hA2 := hA1.keep b2; have hA2' := hA2; obtain ⟨-, a1, a2⟩ := hA2'; have hB2 := hB1.trans b2)
      | (go_at_call 16; refine (lall_any _ _ _ _ (hU2.src l)).mono ?_; rintro e w3 ⟨v, rfl, hr, bb⟩; obtain ⟨sa, sc, rfl⟩ := hr.nil; have b3 : But [] _ w3 := .of_below bb; have hU3 := hU2.keep b3; have hA3 := hA2.keep b3; obtain ⟨-, a1, a2⟩ := hA3; have hA3 := hA2.keep b3; have hB3 := hB2.trans b3; clear hr bb)
      | (go_at_call 18; refine (push_no hU3 l t).mono ?_; rintro e w4 ⟨rfl, b4⟩; have hU4 := hU3.keep b4; have hA4 := hA3.keep b4; have hA4' := hA4; obtain ⟨-, a1, a2⟩ := hA4'; have hB4 := hB3.trans b4)
      | (go_at_call 19; refine (front_no hU4 l t).mono ?_; rintro e w5 ⟨rfl, b5⟩; have hU5 := hU4.keep b5; have hA5 := hA4.keep b5; have hA5' := hA5; obtain ⟨-, a1, a2⟩ := hA5'; have hB5 := hB4.trans b5)
      | (go_at_call 24; refine (remove_no hU5 t).mono ?_; rintro e w6 ⟨rfl, b6⟩; have hU6 := hU5.keep b6; have hA6 := hA5.keep b6; have hA6' := hA6; obtain ⟨-, a1, a2⟩ := hA6'; have hB6 := hB5.trans b6)
      | (go_at_call 14; refine (len_no hU6 l).mono ?_; rintro e w' ⟨rfl, hw⟩; subst w')
      | (go_at_call 12; refine (where_no hU6 t).mono ?_; rintro e w' ⟨rfl, hw⟩; subst w')
      | (go_at_call 21; refine (copy_no hU6).mono ?_; rintro e w' ⟨rfl, hw⟩; subst w'))
      go_roundw
      case rel => exact ⟨.inr (.inl rfl), hB6⟩
      case measure =>
        simp [intOf]
    · have hU : Un wr (some ⟨w.heap.size + 1, 0, none⟩) := .inr ⟨_, rfl, hB.cell hc0⟩
      go_wp2_with (first
      | (go_at_call 23; refine (pop_no hU l).mono ?_; rintro e w1 ⟨rfl, b1⟩; have hU1 := hU.keep b1; have hA1 := hA.keep b1; have hA1' := hA1; obtain ⟨-, a1, a2⟩ := hA1'; have hB1 := hB.trans b1)
      | (go_at_call 20; refine (move_no hU1 l t).mono ?_; rintro e w2 ⟨rfl, b2⟩; have hU2 := hU1.keep b2; have hA2 := hA1.keep b2; have hA2' := hA2; obtain ⟨-, a1, a2⟩ := hA2'; have hB2 := hB1.trans b2)
      | (go_at_call 16; refine (lall_any _ _ _ _ (hU2.src l)).mono ?_; rintro e w3 ⟨v, rfl, hr, bb⟩; obtain ⟨sa, sc, rfl⟩ := hr.nil; have b3 : But [] _ w3 := .of_below bb; have hU3 := hU2.keep b3; have hA3 := hA2.keep b3; obtain ⟨-, a1, a2⟩ := hA3; have hA3 := hA2.keep b3; have hB3 := hB2.trans b3; clear hr bb)
      | (go_at_call 18; refine (push_no hU3 l t).mono ?_; rintro e w4 ⟨rfl, b4⟩; have hU4 := hU3.keep b4; have hA4 := hA3.keep b4; have hA4' := hA4; obtain ⟨-, a1, a2⟩ := hA4'; have hB4 := hB3.trans b4)
      | (go_at_call 19; refine (front_no hU4 l t).mono ?_; rintro e w5 ⟨rfl, b5⟩; have hU5 := hU4.keep b5; have hA5 := hA4.keep b5; have hA5' := hA5; obtain ⟨-, a1, a2⟩ := hA5'; have hB5 := hB4.trans b5)
      | (go_at_call 24; refine (remove_no hU5 t).mono ?_; rintro e w6 ⟨rfl, b6⟩; have hU6 := hU5.keep b6; have hA6 := hA5.keep b6; have hA6' := hA6; obtain ⟨-, a1, a2⟩ := hA6'; have hB6 := hB5.trans b6)
      | (go_at_call 14; refine (len_no hU6 l).mono ?_; rintro e w' ⟨rfl, hw⟩; subst w')
      | (go_at_call 12; refine (where_no hU6 t).mono ?_; rintro e w' ⟨rfl, hw⟩; subst w')
      | (go_at_call 21; refine (copy_no hU6).mono ?_; rintro e w' ⟨rfl, hw⟩; subst w'))
      go_roundw
      case rel => exact ⟨.inr (.inr rfl), hB6⟩
      case measure =>
        simp [intOf]
    · go_wp2_with (first
        | (go_at_call 8; refine (lives_any _).mono ?_; rintro e w' ⟨rfl, hb⟩))
      go_ret
      have s1 := hB0.trans (hB.to_below.mono hB0.size)
      exact ⟨rfl, s1.trans (hb.mono s1.size)⟩

end Go.Proofs.Ytpaedcknhlojkaa
