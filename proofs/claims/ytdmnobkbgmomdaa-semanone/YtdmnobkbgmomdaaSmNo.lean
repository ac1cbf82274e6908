/- Semaphores that no call made. -/
import Derived.Test.YtdmnobkbgmomdaaSmM
namespace Go.Proofs.Ytdmnobkbgmomdaa.Sm
open Go Go.RowKit Go.Proofs.Ytdmnobkbgmomdaa.Bs Go.Proofs.Ytdmnobkbgmomdaa.Se

/-- No semaphores are there, or such as have no lists. -/
def Un (w : World) (p : Option Addr) : Prop := p = none ∨ ∃ B, p = some ⟨B, 0, none⟩ ∧ w.cell? ⟨B, 66, none⟩ = some (.pointer none)
theorem Un.keep {w w' : World} {p : Option Addr} (h : Un w p) (hb : Below w.heap.size w w') : Un w' p :=
  h.imp id (fun ⟨B, e, hc⟩ => ⟨B, e, cell_on hb hc⟩)

section
set_option maxRecDepth 100000
variable {w : World} {p : Option Addr}
theorem made_no (h : Un w p) : Calls Try.prog 16 #[.pointer p] w fun e w' => e = .returned (.bool false) ∧ w' = w := by
  rcases h with rfl | ⟨B, rfl, hc⟩
  all_goals
    go_enter Try.func16, Try.ntmps16
    go_wp2_with fail
    go_ret
    exact ⟨rfl, rfl⟩
theorem obj_no (h : Un w p) (i : Int) : Calls Try.prog 17 #[.pointer p, .int .i64 i] w fun e w' => e = .returned (.bool false) ∧ w' = w := by
  go_enter Try.func17, Try.ntmps17
  go_wp2_with (first | (go_at_call 16; (with_reducible refine (made_no h).mono ?_); rintro e w' ⟨rfl, hw⟩; subst w'))
  go_ret
  exact ⟨rfl, rfl⟩
theorem askD_no (h : Un w p) (i t : Int) : Calls Try.prog 19 #[.pointer p, .int .i64 i, .int .i64 t] w fun e w' => e = .returned (.int .i64 1) ∧ w' = w := by
  go_enter Try.func19, Try.ntmps19
  go_wp2_with (first | (go_at_call 16; (with_reducible refine (made_no h).mono ?_); rintro e w' ⟨rfl, hw⟩; subst w'))
  go_ret
  exact ⟨rfl, rfl⟩
theorem down_no (h : Un w p) (i : Int) (t : Int) : Calls Try.prog 9 #[.pointer p, .int .i64 i, .int .i64 t] w fun e w' => e = .returned (.tuple #[.bool false, .int .i64 1]) ∧ Below w.heap.size w w' := by
  go_enter Try.func9, Try.ntmps9
  go_wp2_with (first | (go_at_call 19; (with_reducible refine (askD_no h _ _).mono ?_); rintro e w' ⟨rfl, hw⟩; subst w'))
  go_ret2
  exact ⟨rfl, Below.refl _ _⟩
theorem up_no (h : Un w p) (i : Int) : Calls Try.prog 8 #[.pointer p, .int .i64 i] w fun e w' => e = .returned (.tuple #[.int .i64 (-1), .int .i64 1]) ∧ Below w.heap.size w w' := by
  go_enter Try.func8, Try.ntmps8
  go_wp2_with (first | (go_at_call 16; (with_reducible refine (made_no h).mono ?_); rintro e w' ⟨rfl, hw⟩; subst w'))
  go_ret2
  exact ⟨rfl, Below.refl _ _⟩
theorem value_tell (h : Un w p) (i : Int) (v : Value) : Calls Try.prog 21 #[.pointer p, .int .i64 i, v] w fun e w' => e = .returned (.int .i64 0) ∧ w' = w := by
  go_enter Try.func21, Try.ntmps21
  go_wp2_with (first | (go_at_call 17; (with_reducible refine (obj_no h _).mono ?_); rintro e w' ⟨rfl, hw⟩; subst w'))
  go_ret
  exact ⟨rfl, rfl⟩
theorem value_no (h : Un w p) (i : Int) : Calls Try.prog 10 #[.pointer p, .int .i64 i] w fun e w' => e = .returned (.int .i64 0) ∧ Below w.heap.size w w' := by
  go_enter Try.func10, Try.ntmps10
  go_wp2_with (first | (go_at_call 21; (with_reducible refine (value_tell h _ _).mono ?_); rintro e w' ⟨rfl, hw⟩; subst w'))
  go_ret
  exact ⟨rfl, Below.refl _ _⟩
theorem waiters_tell (h : Un w p) (i : Int) (v : Value) : Calls Try.prog 23 #[.pointer p, .int .i64 i, v] w fun e w' => e = .returned (.slice none 0 0) ∧ w' = w := by
  go_enter Try.func23, Try.ntmps23
  go_wp2_with (first | (go_at_call 17; (with_reducible refine (obj_no h _).mono ?_); rintro e w' ⟨rfl, hw⟩; subst w'))
  go_ret
  exact ⟨rfl, rfl⟩
theorem waiters_no (h : Un w p) (i : Int) : Calls Try.prog 11 #[.pointer p, .int .i64 i] w fun e w' => e = .returned (.slice none 0 0) ∧ Below w.heap.size w w' := by
  go_enter Try.func11, Try.ntmps11
  go_wp2_with (first | (go_at_call 23; (with_reducible refine (waiters_tell h _ _).mono ?_); rintro e w' ⟨rfl, hw⟩; subst w'))
  go_ret
  exact ⟨rfl, Below.refl _ _⟩
theorem where_no (h : Un w p) (t : Int) : Calls Try.prog 13 #[.pointer p, .int .i64 t] w fun e w' => e = .returned (.int .i64 (-1)) ∧ Below w.heap.size w w' := by
  go_enter Try.func13, Try.ntmps13
  go_wp2_with (first | (go_at_call 16; (with_reducible refine (made_no h).mono ?_); rintro e w' ⟨rfl, hw⟩; subst w'))
  go_ret
  exact ⟨rfl, Below.refl _ _⟩
theorem drop_no (h : Un w p) (t : Int) : Calls Try.prog 12 #[.pointer p, .int .i64 t] w fun e w' => e = .returned (.bool false) ∧ Below w.heap.size w w' := by
  go_enter Try.func12, Try.ntmps12
  go_wp2_with (first | (go_at_call 16; (with_reducible refine (made_no h).mono ?_); rintro e w' ⟨rfl, hw⟩; subst w'))
  go_ret
  exact ⟨rfl, Below.refl _ _⟩
theorem copy_no (h : Un w p) : Calls Try.prog 14 #[.pointer p] w fun e w' => e = .returned (.pointer none) ∧ Below w.heap.size w w' := by
  go_enter Try.func14, Try.ntmps14
  go_wp2_with (first | (go_at_call 16; (with_reducible refine (made_no h).mono ?_); rintro e w' ⟨rfl, hw⟩; subst w'))
  go_ret
  exact ⟨rfl, Below.refl _ _⟩
end
end Go.Proofs.Ytdmnobkbgmomdaa.Sm
