/- A wheel that no call made; the walk of WheelNone. -/
import Derived.Test.YtmjjghhlalaeiaaLives
namespace Go.Proofs.Ytmjjghhlalaeiaa
open Go.RowKit

/-- No wheel is there, or one without ids. -/
def Un (w : World) (p : Option Addr) : Prop := p = none ∨ ∃ B, p = some ⟨B, 0, none⟩ ∧ w.cell? ⟨B, 1, none⟩ = some (.slice none 0 0)
theorem Un.keep {w w' : World} {p : Option Addr} (h : Un w p) (hb : But [] w w') : Un w' p :=
  h.imp id (fun ⟨B, e, hc⟩ => ⟨B, e, hb.cell hc⟩)

section
variable {w : World} {p : Option Addr}
theorem wmade_no (h : Un w p) : Calls Try.prog 31 #[.pointer p] w fun e w' => e = .returned (.bool false) ∧ w' = w := by
  rcases h with rfl | ⟨B, rfl, hc⟩
  · go_enter Try.func31, Try.ntmps31
    go_wp2_with fail
    go_ret
    exact ⟨rfl, rfl⟩
  · go_enter Try.func31, Try.ntmps31
    go_wp2_with fail
    go_ret
    exact ⟨rfl, rfl⟩
theorem isID_no (h : Un w p) (t : Int) : Calls Try.prog 39 #[.pointer p, .int .i64 t] w fun e w' => e = .returned (.bool false) ∧ w' = w := by
  go_enter Try.func39, Try.ntmps39
  go_wp2_with (first | (go_at_call 31; refine (wmade_no h).mono ?_; rintro e w' ⟨rfl, hw⟩; subst w'))
  go_ret
  exact ⟨rfl, rfl⟩
theorem waits_no (h : Un w p) (t : Int) : Calls Try.prog 37 #[.pointer p, .int .i64 t] w fun e w' => e = .returned (.bool false) ∧ w' = w := by
  go_enter Try.func37, Try.ntmps37
  go_wp2_with (first | (go_at_call 39; refine (isID_no h t).mono ?_; rintro e w' ⟨rfl, hw⟩; subst w'))
  go_ret
  exact ⟨rfl, rfl⟩
theorem add_no (h : Un w p) (t a : Int) : Calls Try.prog 21 #[.pointer p, .int .i64 t, .int .i64 a] w fun e w' => e = .returned (.int .i64 1) ∧ w' = w := by
  go_enter Try.func21, Try.ntmps21
  go_wp2_with (first | (go_at_call 31; refine (wmade_no h).mono ?_; rintro e w' ⟨rfl, hw⟩; subst w'))
  go_ret
  exact ⟨rfl, rfl⟩
theorem cancel_no (h : Un w p) (t : Int) : Calls Try.prog 25 #[.pointer p, .int .i64 t] w fun e w' => e = .returned (.int .i64 1) ∧ w' = w := by
  go_enter Try.func25, Try.ntmps25
  go_wp2_with (first | (go_at_call 31; refine (wmade_no h).mono ?_; rintro e w' ⟨rfl, hw⟩; subst w'))
  go_ret
  exact ⟨rfl, rfl⟩
theorem tick_no (h : Un w p) : Calls Try.prog 22 #[.pointer p] w fun e w' => e = .returned (.slice none 0 0) ∧ w' = w := by
  go_enter Try.func22, Try.ntmps22
  go_wp2_with (first | (go_at_call 31; refine (wmade_no h).mono ?_; rintro e w' ⟨rfl, hw⟩; subst w'))
  go_ret
  exact ⟨rfl, rfl⟩
theorem skip_no (h : Un w p) (t : Int) : Calls Try.prog 20 #[.pointer p, .int .i64 t] w fun e w' => e = .returned (.slice none 0 0) ∧ w' = w := by
  go_enter Try.func20, Try.ntmps20
  go_wp2_with (first | (go_at_call 31; refine (wmade_no h).mono ?_; rintro e w' ⟨rfl, hw⟩; subst w'))
  go_ret
  exact ⟨rfl, rfl⟩
theorem now_no (h : Un w p) : Calls Try.prog 12 #[.pointer p] w fun e w' => e = .returned (.int .i64 0) ∧ w' = w := by
  go_enter Try.func12, Try.ntmps12
  go_wp2_with (first | (go_at_call 31; refine (wmade_no h).mono ?_; rintro e w' ⟨rfl, hw⟩; subst w'))
  go_ret
  exact ⟨rfl, rfl⟩
theorem when_no (h : Un w p) (t : Int) : Calls Try.prog 17 #[.pointer p, .int .i64 t] w fun e w' => e = .returned (.tuple #[.int .i64 0, .bool false]) ∧ w' = w := by
  go_enter Try.func17, Try.ntmps17
  go_wp2_with (first | (go_at_call 37; refine (waits_no h t).mono ?_; rintro e w' ⟨rfl, hw⟩; subst w'))
  go_ret2
  exact ⟨rfl, rfl⟩
theorem copy_no (h : Un w p) : Calls Try.prog 23 #[.pointer p] w fun e w' => e = .returned (.pointer none) ∧ w' = w := by
  go_enter Try.func23, Try.ntmps23
  go_wp2_with (first | (go_at_call 31; refine (wmade_no h).mono ?_; rintro e w' ⟨rfl, hw⟩; subst w'))
  go_ret
  exact ⟨rfl, rfl⟩
theorem len_no (h : Un w p) : Calls Try.prog 13 #[.pointer p] w fun e w' => e = .returned (.int .i64 0) ∧ But [] w w' := by
  have hB : But [] w (w.alloc (.cells #[.pointer p] 24)) := (But.refl [] w).alloc _
  have h' := h.keep hB
  go_enter Try.func13, Try.ntmps13
  go_wp2_with (first | (go_at_call 31; refine (wmade_no h').mono ?_; rintro e w' ⟨rfl, hw⟩; subst w'))
  go_ret
  exact ⟨rfl, hB⟩
theorem all_no (h : Un w p) : Calls Try.prog 19 #[.pointer p] w fun e w' => e = .returned (.slice none 0 0) ∧ But [] w w' := by
  have hB : But [] w (w.alloc (.cells #[.pointer p] 24)) := (But.refl [] w).alloc _
  have h' := h.keep hB
  go_enter Try.func19, Try.ntmps19
  go_wp2_with (first | (go_at_call 31; refine (wmade_no h').mono ?_; rintro e w' ⟨rfl, hw⟩; subst w'))
  go_ret
  exact ⟨rfl, hB⟩
theorem next_no (h : Un w p) : Calls Try.prog 15 #[.pointer p] w fun e w' => e = .returned (.tuple #[.int .i64 0, .bool false]) ∧ But [] w w' := by
  have hB : But [] w (((w.alloc (.cells #[.pointer p] 24)).alloc (.cells #[.int .i64 0] 3)).alloc (.cells #[.bool false] 4)) := (((But.refl [] w).alloc _).alloc _).alloc _
  have h' := h.keep hB
  go_enter Try.func15, Try.ntmps15
  go_wp2_with (first | (go_at_call 31; refine (wmade_no h').mono ?_; rintro e w' ⟨rfl, hw⟩; subst w'))
  refine bodyPost_ret (v := .tuple #[.int .i64 0, .bool false]) (by simp [results, Try.results15, go_sem]) rfl ?_
  exact ⟨rfl, hB⟩
end

theorem Sx.on {w w' W0 : World} {p q : Addr} {x y : Value} (h : w.cell? p = some x ∧ w.cell? q = some y ∧ But [] W0 w) (hb : But [] w w') : w'.cell? p = some x ∧ w'.cell? q = some y ∧ But [] W0 w' :=
  ⟨hb.cell h.1, hb.cell h.2.1, h.2.2.trans hb⟩
theorem Sx.b {w W0 : World} {p q : Addr} {x y : Value} (h : w.cell? p = some x ∧ w.cell? q = some y ∧ But [] W0 w) : But [] W0 w := h.2.2

set_option maxRecDepth 100000 in
set_option maxHeartbeats 4000000 in
theorem none_any (k l t : Int) (w : World) :
    Calls Try.prog 7 #[.agg #[.int .i64 k, .int .i64 l, .int .i64 t]] w fun e w' => e = .returned (.bool true) ∧ Below w.heap.size w w' := by
  go_enter Try.func7, Try.ntmps7
  go_wp2_with fail
  generalize hW : ((w.alloc (.cells #[.int .i64 k, .int .i64 l, .int .i64 t] 29)).alloc _) = W0
  have hB0 : Below w.heap.size w W0 := by rw [← hW]; exact ((Below.refl _ w).alloc (Nat.le_refl _) _).alloc (by simp) _
  have d1 : W0.cell? ⟨w.heap.size, 1, none⟩ = some (.int .i64 l) := by rw [← hW]; simp [go_sem]
  have d2 : W0.cell? ⟨w.heap.size, 2, none⟩ = some (.int .i64 t) := by rw [← hW]; simp [go_sem]
  have hc0 : W0.cell? ⟨w.heap.size + 1, 1, none⟩ = some (.slice none 0 0) := by
    rw [← hW]
    simp [go_sem]
    rfl
  clear hW
  go_loopw [11] (fun v wr => (v = .int .i64 0 ∨ v = .int .i64 1 ∨ v = .int .i64 2) ∧ But [] W0 wr) (fun v _ => 2 - (intOf v).toNat)
  case atStart => exact ⟨.inl rfl, But.refl _ _⟩
  case round =>
    obtain ⟨hj3, hB⟩ := hrel
    have a1 := hB.cell d1
    have a2 := hB.cell d2
    have i0 : ∀ W, (Instr.index 58 (.agg #[.pointer none, .pointer (some ⟨w.heap.size + 1, 0, none⟩)]) (.int .i64 0)).run Try.prog W = .ok (.pointer none) W := fun _ => by kernel_rfl
    have i1 : ∀ W, (Instr.index 58 (.agg #[.pointer none, .pointer (some ⟨w.heap.size + 1, 0, none⟩)]) (.int .i64 1)).run Try.prog W = .ok (.pointer (some ⟨w.heap.size + 1, 0, none⟩)) W := fun _ => by kernel_rfl
    rcases hj3 with rfl | rfl | rfl
    · skip
      have hUn : ∀ W, But [] W0 W → Un W none := fun W hW => .inl rfl
      go_wp2_with (first
        | (go_at_call 17; refine (when_no (hUn _ hB) l).mono ?_; rintro e w' ⟨rfl, hw⟩; subst w')
        | (go_at_call 15; refine (next_no (hUn _ hB)).mono ?_; rintro e w2 ⟨rfl, b2⟩))
      have hS : w2.cell? ⟨w.heap.size, 1, none⟩ = some (.int .i64 l) ∧ w2.cell? ⟨w.heap.size, 2, none⟩ = some (.int .i64 t) ∧ But [] W0 w2 := ⟨b2.cell a1, b2.cell a2, hB.trans b2⟩
      have hSd : w2.drew.cell? ⟨w.heap.size, 1, none⟩ = some (.int .i64 l) ∧ w2.drew.cell? ⟨w.heap.size, 2, none⟩ = some (.int .i64 t) ∧ But [] W0 w2.drew := ⟨b2.cell a1, b2.cell a2, (hB.trans b2).drew⟩
      clear a1 a2 hB b2
      go_region_held3 (fun w' => w'.cell? ⟨w.heap.size, 1, none⟩ = some (.int .i64 l) ∧ w'.cell? ⟨w.heap.size, 2, none⟩ = some (.int .i64 t) ∧ But [] W0 w') (first | with_reducible assumption | with_reducible exact hSd) (first
        | (go_at_call 21; refine (add_no (hUn _ (Sx.b (by assumption))) l t).mono ?_; rintro e w' ⟨rfl, hw⟩; subst w')
        | (go_at_call 25; refine (cancel_no (hUn _ (Sx.b (by assumption))) l).mono ?_; rintro e w' ⟨rfl, hw⟩; subst w')
        | (go_at_call 22; refine (tick_no (hUn _ (Sx.b (by assumption)))).mono ?_; rintro e w' ⟨rfl, hw⟩; subst w')
        | (go_at_call 20; refine (skip_no (hUn _ (Sx.b (by assumption))) t).mono ?_; rintro e w' ⟨rfl, hw⟩; subst w')
        | (go_at_call 12; refine (now_no (hUn _ (Sx.b (by assumption)))).mono ?_; rintro e w' ⟨rfl, hw⟩; subst w')
        | (go_at_call 13; refine (len_no (hUn _ (Sx.b (by assumption)))).mono ?_; rintro e w3 ⟨rfl, b3⟩; have k3 := Sx.on (by assumption) b3)
        | (go_at_call 19; refine (all_no (hUn _ (Sx.b (by assumption)))).mono ?_; rintro e w4 ⟨rfl, b4⟩; have k4 := Sx.on (by assumption) b4)
        | (go_at_call 23; refine (copy_no (hUn _ (Sx.b (by assumption)))).mono ?_; rintro e w' ⟨rfl, hw⟩; subst w'))
      all_goals
        go_wp2_with fail
        go_roundw
        case rel => exact ⟨.inr (.inl rfl), k4.2.2⟩
        case measure =>
          simp [intOf]
    · skip
      have hUn : ∀ W, But [] W0 W → Un W (some ⟨w.heap.size + 1, 0, none⟩) := fun W hW => .inr ⟨_, rfl, hW.cell hc0⟩
      go_wp2_with (first
        | (go_at_call 17; refine (when_no (hUn _ hB) l).mono ?_; rintro e w' ⟨rfl, hw⟩; subst w')
        | (go_at_call 15; refine (next_no (hUn _ hB)).mono ?_; rintro e w2 ⟨rfl, b2⟩))
      have hS : w2.cell? ⟨w.heap.size, 1, none⟩ = some (.int .i64 l) ∧ w2.cell? ⟨w.heap.size, 2, none⟩ = some (.int .i64 t) ∧ But [] W0 w2 := ⟨b2.cell a1, b2.cell a2, hB.trans b2⟩
      have hSd : w2.drew.cell? ⟨w.heap.size, 1, none⟩ = some (.int .i64 l) ∧ w2.drew.cell? ⟨w.heap.size, 2, none⟩ = some (.int .i64 t) ∧ But [] W0 w2.drew := ⟨b2.cell a1, b2.cell a2, (hB.trans b2).drew⟩
      clear a1 a2 hB b2
      go_region_held3 (fun w' => w'.cell? ⟨w.heap.size, 1, none⟩ = some (.int .i64 l) ∧ w'.cell? ⟨w.heap.size, 2, none⟩ = some (.int .i64 t) ∧ But [] W0 w') (first | with_reducible assumption | with_reducible exact hSd) (first
        | (go_at_call 21; refine (add_no (hUn _ (Sx.b (by assumption))) l t).mono ?_; rintro e w' ⟨rfl, hw⟩; subst w')
        | (go_at_call 25; refine (cancel_no (hUn _ (Sx.b (by assumption))) l).mono ?_; rintro e w' ⟨rfl, hw⟩; subst w')
        | (go_at_call 22; refine (tick_no (hUn _ (Sx.b (by assumption)))).mono ?_; rintro e w' ⟨rfl, hw⟩; subst w')
        | (go_at_call 20; refine (skip_no (hUn _ (Sx.b (by assumption))) t).mono ?_; rintro e w' ⟨rfl, hw⟩; subst w')
        | (go_at_call 12; refine (now_no (hUn _ (Sx.b (by assumption)))).mono ?_; rintro e w' ⟨rfl, hw⟩; subst w')
        | (go_at_call 13; refine (len_no (hUn _ (Sx.b (by assumption)))).mono ?_; rintro e w3 ⟨rfl, b3⟩; have k3 := Sx.on (by assumption) b3)
        | (go_at_call 19; refine (all_no (hUn _ (Sx.b (by assumption)))).mono ?_; rintro e w4 ⟨rfl, b4⟩; have k4 := Sx.on (by assumption) b4)
        | (go_at_call 23; refine (copy_no (hUn _ (Sx.b (by assumption)))).mono ?_; rintro e w' ⟨rfl, hw⟩; subst w'))
      all_goals
        go_wp2_with fail
        go_roundw
        case rel => exact ⟨.inr (.inr rfl), k4.2.2⟩
        case measure =>
          simp [intOf]
    · go_wp2_with (first
        | (go_at_call 8; refine (lives_any _).mono ?_; rintro e w' ⟨rfl, hb⟩))
      go_ret
      have s1 := hB0.trans (hB.to_below.mono hB0.size)
      exact ⟨rfl, s1.trans (hb.mono s1.size)⟩

end Go.Proofs.Ytmjjghhlalaeiaa
