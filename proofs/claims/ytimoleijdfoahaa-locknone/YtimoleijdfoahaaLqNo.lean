/- Locks that no call made. -/
import Derived.Test.YtimoleijdfoahaaLqC
namespace Go.Proofs.Ytimoleijdfoahaa.Lq
open Go Go.RowKit Go.Proofs.Ytimoleijdfoahaa.Bs Go.Proofs.Ytimoleijdfoahaa.Lo

/-- No locks are there, or such as have no lists. -/
def Un (w : World) (p : Option Addr) : Prop := p = none ∨ ∃ B, p = some ⟨B, 0, none⟩ ∧ w.cell? ⟨B, 2, none⟩ = some (.pointer none)
theorem Un.keep {w w' : World} {p : Option Addr} (h : Un w p) (hb : Below w.heap.size w w') : Un w' p :=
  h.imp id (fun ⟨B, e, hc⟩ => ⟨B, e, cell_on hb hc⟩)
theorem below2 {n : Nat} {a b c : World} (h1 : Below n a b) (hn : n ≤ b.heap.size) (h2 : Below b.heap.size b c) : Below n a c := h1.trans (h2.mono hn)

section
set_option maxRecDepth 100000
variable {w : World} {p : Option Addr}
theorem made_no (h : Un w p) : Calls Try.prog 50 #[.pointer p] w fun e w' => e = .returned (.bool false) ∧ w' = w := by
  rcases h with rfl | ⟨B, rfl, hc⟩
  all_goals
    go_enter Try.func50, Try.ntmps50
    go_wp2_with fail
    go_ret
    exact ⟨rfl, rfl⟩
theorem ask_no (h : Un w p) (v : Value) : Calls Try.prog 34 #[.pointer p, v] w fun e w' => e = .returned (.int .i64 1) ∧ w' = w := by
  go_enter Try.func34, Try.ntmps34
  go_wp2_with (first | (go_at_call 50; (with_reducible refine (made_no h).mono ?_); rintro e w' ⟨rfl, hw⟩; subst w'))
  go_ret
  exact ⟨rfl, rfl⟩
theorem ask_un {w1 : World} (h : Un w1 p) (v : Value) (ty : TypeId) (l : Array Value) : Calls Try.prog 34 #[.pointer p, v] (w1.alloc (.cells l ty)) fun e w' => e = .returned (.int .i64 1) ∧ Below w1.heap.size w1 w' :=
  have hb : Below w1.heap.size w1 (w1.alloc (.cells l ty)) := (Below.refl _ w1).alloc (Nat.le_refl _) _
  (ask_no (h.keep hb) v).mono fun e w' ⟨h1, h2⟩ => ⟨h1, by rw [h2]; exact hb⟩
theorem obj_no (p : Option Addr) (i : Int) (w : World) : Calls Try.prog 35 #[.pointer p, .int .i64 i] w fun e w' => ∃ F A, e = .returned (.func (.func F) #[] A) ∧ Below w.heap.size w w' := by
  go_enter Try.func35, Try.ntmps35
  go_wp2_with fail
  go_ret
  exact ⟨_, _, rfl, by repeat first | exact Below.refl _ _ | refine Below.alloc ?_ (by simp <;> omega) _⟩
theorem thr_no (p : Option Addr) (i : Int) (w : World) : Calls Try.prog 39 #[.pointer p, .int .i64 i] w fun e w' => ∃ F A, e = .returned (.func (.func F) #[] A) ∧ Below w.heap.size w w' := by
  go_enter Try.func39, Try.ntmps39
  go_wp2_with fail
  go_ret
  exact ⟨_, _, rfl, by repeat first | exact Below.refl _ _ | refine Below.alloc ?_ (by simp <;> omega) _⟩
theorem goes_no (p : Option Addr) (i : Int) (w : World) : Calls Try.prog 41 #[.pointer p, .int .i64 i] w fun e w' => ∃ F A, e = .returned (.func (.func F) #[] A) ∧ Below w.heap.size w w' := by
  go_enter Try.func41, Try.ntmps41
  go_wp2_with fail
  go_ret
  exact ⟨_, _, rfl, by repeat first | exact Below.refl _ _ | refine Below.alloc ?_ (by simp <;> omega) _⟩
theorem not_no (p : Option Addr) (i t : Int) (w : World) : Calls Try.prog 42 #[.pointer p, .int .i64 i, .int .i64 t] w fun e w' => ∃ F A, e = .returned (.func (.func F) #[] A) ∧ Below w.heap.size w w' := by
  go_enter Try.func42, Try.ntmps42
  go_wp2_with fail
  go_ret
  exact ⟨_, _, rfl, by repeat first | exact Below.refl _ _ | refine Below.alloc ?_ (by simp <;> omega) _⟩
theorem has_no (p : Option Addr) (i t : Int) (w : World) : Calls Try.prog 44 #[.pointer p, .int .i64 i, .int .i64 t] w fun e w' => ∃ F A, e = .returned (.func (.func F) #[] A) ∧ Below w.heap.size w w' := by
  go_enter Try.func44, Try.ntmps44
  go_wp2_with fail
  go_ret
  exact ⟨_, _, rfl, by repeat first | exact Below.refl _ _ | refine Below.alloc ?_ (by simp <;> omega) _⟩
theorem lock_no (h : Un w p) (i : Int) (t : Int) : Calls Try.prog 17 #[.pointer p, .int .i64 i, .int .i64 t] w fun e w' => e = .returned (.tuple #[.bool false, .int .i64 1]) ∧ Below w.heap.size w w' := by
  go_enter Try.func17, Try.ntmps17
  go_wp2_with (first
    | (go_at_call 35; (with_reducible refine (obj_no p i w).mono ?_); rintro e w1 ⟨F1, A1, rfl, c1⟩; have u1 := h.keep c1; have b1 := c1)
    | (go_at_call 39; (with_reducible refine (thr_no p t w1).mono ?_); rintro e w2 ⟨F2, A2, rfl, c2⟩; have u2 := u1.keep c2; have b2 := below2 b1 b1.size c2)
    | (go_at_call 41; (with_reducible refine (goes_no p t w2).mono ?_); rintro e w3 ⟨F3, A3, rfl, c3⟩; have u3 := u2.keep c3; have b3 := below2 b2 b2.size c3)
    | (go_at_call 42; (with_reducible refine (not_no p i t w3).mono ?_); rintro e w4 ⟨F4, A4, rfl, c4⟩; have u4 := u3.keep c4; have b4 := below2 b3 b3.size c4)
    | (go_at_call 34; (with_reducible refine (ask_un u4 _ _ _).mono ?_); rintro e wa ⟨rfl, ca⟩; have ba := below2 b4 b4.size ca))
  go_ret2
  exact ⟨rfl, ba⟩
theorem unlock_no (h : Un w p) (i : Int) (t : Int) : Calls Try.prog 18 #[.pointer p, .int .i64 i, .int .i64 t] w fun e w' => e = .returned (.tuple #[.int .i64 (-1), .int .i64 1]) ∧ Below w.heap.size w w' := by
  go_enter Try.func18, Try.ntmps18
  go_wp2_with (first
    | (go_at_call 35; (with_reducible refine (obj_no p i w).mono ?_); rintro e w1 ⟨F1, A1, rfl, c1⟩; have u1 := h.keep c1; have b1 := c1)
    | (go_at_call 39; (with_reducible refine (thr_no p t w1).mono ?_); rintro e w2 ⟨F2, A2, rfl, c2⟩; have u2 := u1.keep c2; have b2 := below2 b1 b1.size c2)
    | (go_at_call 41; (with_reducible refine (goes_no p t w2).mono ?_); rintro e w3 ⟨F3, A3, rfl, c3⟩; have u3 := u2.keep c3; have b3 := below2 b2 b2.size c3)
    | (go_at_call 44; (with_reducible refine (has_no p i t w3).mono ?_); rintro e w4 ⟨F4, A4, rfl, c4⟩; have u4 := u3.keep c4; have b4 := below2 b3 b3.size c4)
    | (go_at_call 34; (with_reducible refine (ask_un u4 _ _ _).mono ?_); rintro e wa ⟨rfl, ca⟩; have ba := below2 b4 b4.size ca))
  go_ret2
  exact ⟨rfl, ba⟩
theorem wait_no (h : Un w p) (c : Int) (i : Int) (t : Int) : Calls Try.prog 19 #[.pointer p, .int .i64 c, .int .i64 i, .int .i64 t] w fun e w' => e = .returned (.tuple #[.int .i64 (-1), .int .i64 1]) ∧ Below w.heap.size w w' := by
  go_enter Try.func19, Try.ntmps19
  go_wp2_with (first
    | (go_at_call 35; (with_reducible refine (obj_no p c w).mono ?_); rintro e w1 ⟨F1, A1, rfl, c1⟩; have u1 := h.keep c1; have b1 := c1)
    | (go_at_call 35; (with_reducible refine (obj_no p i w1).mono ?_); rintro e w2 ⟨F2, A2, rfl, c2⟩; have u2 := u1.keep c2; have b2 := below2 b1 b1.size c2)
    | (go_at_call 39; (with_reducible refine (thr_no p t w2).mono ?_); rintro e w3 ⟨F3, A3, rfl, c3⟩; have u3 := u2.keep c3; have b3 := below2 b2 b2.size c3)
    | (go_at_call 41; (with_reducible refine (goes_no p t w3).mono ?_); rintro e w4 ⟨F4, A4, rfl, c4⟩; have u4 := u3.keep c4; have b4 := below2 b3 b3.size c4)
    | (go_at_call 44; (with_reducible refine (has_no p i t w4).mono ?_); rintro e w5 ⟨F5, A5, rfl, c5⟩; have u5 := u4.keep c5; have b5 := below2 b4 b4.size c5)
    | (go_at_call 34; (with_reducible refine (ask_un u5 _ _ _).mono ?_); rintro e wa ⟨rfl, ca⟩; have ba := below2 b5 b5.size ca))
  go_ret2
  exact ⟨rfl, ba⟩
theorem signal_no (h : Un w p) (c : Int) : Calls Try.prog 22 #[.pointer p, .int .i64 c] w fun e w' => e = .returned (.tuple #[.int .i64 (-1), .int .i64 1]) ∧ Below w.heap.size w w' := by
  go_enter Try.func22, Try.ntmps22
  go_wp2_with (first
    | (go_at_call 35; (with_reducible refine (obj_no p c w).mono ?_); rintro e w1 ⟨F1, A1, rfl, c1⟩; have u1 := h.keep c1; have b1 := c1)
    | (go_at_call 34; (with_reducible refine (ask_un u1 _ _ _).mono ?_); rintro e wa ⟨rfl, ca⟩; have ba := below2 b1 b1.size ca))
  go_ret2
  exact ⟨rfl, ba⟩
theorem cast_no (h : Un w p) (c : Int) : Calls Try.prog 20 #[.pointer p, .int .i64 c] w fun e w' => e = .returned (.tuple #[.slice none 0 0, .int .i64 1]) ∧ Below w.heap.size w w' := by
  go_enter Try.func20, Try.ntmps20
  go_wp2_with (first
    | (go_at_call 35; (with_reducible refine (obj_no p c w).mono ?_); rintro e w1 ⟨F1, A1, rfl, c1⟩; have u1 := h.keep c1; have b1 := c1)
    | (go_at_call 34; (with_reducible refine (ask_un u1 _ _ _).mono ?_); rintro e wa ⟨rfl, ca⟩; have ba := below2 b1 b1.size ca))
  go_ret2
  exact ⟨rfl, ba⟩
theorem drop_no (h : Un w p) (t : Int) : Calls Try.prog 23 #[.pointer p, .int .i64 t] w fun e w' => e = .returned (.slice none 0 0) ∧ Below w.heap.size w w' := by
  go_enter Try.func23, Try.ntmps23
  go_wp2_with (first
    | (go_at_call 39; (with_reducible refine (thr_no p t w).mono ?_); rintro e w1 ⟨F1, A1, rfl, c1⟩; have u1 := h.keep c1; have b1 := c1)
    | (go_at_call 34; (with_reducible refine (ask_un u1 _ _ _).mono ?_); rintro e wa ⟨rfl, ca⟩; have ba := below2 b1 b1.size ca))
  go_ret
  exact ⟨rfl, ba⟩
theorem owner_no (h : Un w p) (i : Int) : Calls Try.prog 13 #[.pointer p, .int .i64 i] w fun e w' => e = .returned (.int .i64 (-1)) ∧ Below w.heap.size w w' := by
  go_enter Try.func13, Try.ntmps13
  go_wp2_with (first
    | (go_at_call 35; (with_reducible refine (obj_no p i w).mono ?_); rintro e w1 ⟨F1, A1, rfl, c1⟩; have u1 := h.keep c1; have b1 := c1)
    | (go_at_call 34; (with_reducible refine (ask_un u1 _ _ _).mono ?_); rintro e wa ⟨rfl, ca⟩; have ba := below2 b1 b1.size ca))
  go_ret
  exact ⟨rfl, ba⟩
theorem waiters_no (h : Un w p) (i : Int) : Calls Try.prog 14 #[.pointer p, .int .i64 i] w fun e w' => e = .returned (.slice none 0 0) ∧ Below w.heap.size w w' := by
  go_enter Try.func14, Try.ntmps14
  go_wp2_with (first
    | (go_at_call 35; (with_reducible refine (obj_no p i w).mono ?_); rintro e w1 ⟨F1, A1, rfl, c1⟩; have u1 := h.keep c1; have b1 := c1)
    | (go_at_call 34; (with_reducible refine (ask_un u1 _ _ _).mono ?_); rintro e wa ⟨rfl, ca⟩; have ba := below2 b1 b1.size ca))
  go_ret
  exact ⟨rfl, ba⟩
theorem sleepersL_no (h : Un w p) (c : Int) : Calls Try.prog 15 #[.pointer p, .int .i64 c] w fun e w' => e = .returned (.slice none 0 0) ∧ Below w.heap.size w w' := by
  go_enter Try.func15, Try.ntmps15
  go_wp2_with (first
    | (go_at_call 35; (with_reducible refine (obj_no p c w).mono ?_); rintro e w1 ⟨F1, A1, rfl, c1⟩; have u1 := h.keep c1; have b1 := c1)
    | (go_at_call 34; (with_reducible refine (ask_un u1 _ _ _).mono ?_); rintro e wa ⟨rfl, ca⟩; have ba := below2 b1 b1.size ca))
  go_ret
  exact ⟨rfl, ba⟩
theorem where_no (h : Un w p) (t : Int) : Calls Try.prog 16 #[.pointer p, .int .i64 t] w fun e w' => e = .returned (.tuple #[.int .i64 0, .int .i64 (-1)]) ∧ Below w.heap.size w w' := by
  go_enter Try.func16, Try.ntmps16
  go_wp2_with (first
    | (go_at_call 39; (with_reducible refine (thr_no p t w).mono ?_); rintro e w1 ⟨F1, A1, rfl, c1⟩; have u1 := h.keep c1; have b1 := c1)
    | (go_at_call 34; (with_reducible refine (ask_un u1 _ _ _).mono ?_); rintro e wa ⟨rfl, ca⟩; have ba := below2 b1 b1.size ca))
  go_ret2
  exact ⟨rfl, ba⟩
theorem copy_no (h : Un w p) : Calls Try.prog 24 #[.pointer p] w fun e w' => e = .returned (.pointer none) ∧ w' = w := by
  go_enter Try.func24, Try.ntmps24
  go_wp2_with (first | (go_at_call 50; (with_reducible refine (made_no h).mono ?_); rintro e w' ⟨rfl, hw⟩; subst w'))
  go_ret
  exact ⟨rfl, rfl⟩
end
end Go.Proofs.Ytimoleijdfoahaa.Lq
