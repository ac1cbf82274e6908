/- The steps that calls ask. -/
import Derived.Test.YtimoleijdfoahaaLqM
import Derived.Test.YtimoleijdfoahaaLqA
namespace Go.Proofs.Ytimoleijdfoahaa.Lq
open Go Go.RowKit Go.Proofs.Ytimoleijdfoahaa.Bs Go.Proofs.Ytimoleijdfoahaa.Lo
open Go.Proofs.Ytimoleijdfoahaa.Lk (LQ Pl iv ints inN inN_of inN_out where_any wI)
variable {w w' : World} {B o a n T : Nat} {P : Pl} {σ : St}

theorem made_any (h : PM w B o a P n T σ) : Calls Try.prog 50 #[.pointer (some ⟨B, 0, none⟩)] w fun e w' => e = .returned (.bool true) ∧ w' = w := by
  have c0 := h.c2
  go_enter Try.func50, Try.ntmps50
  go_wp2_with fail
  go_ret
  exact ⟨rfl, rfl⟩
/-- What a step tells: nothing is wrong where b holds. -/
def unl (b : Bool) (e : Int) : Int := if b then 0 else e
theorem unless_any (b : Bool) (e : Int) (w : World) : Calls Try.prog 63 #[.bool b, .int .i64 e] w fun r w' => r = .returned (.int .i64 (unl b e)) ∧ w' = w := by
  cases b
  all_goals
    go_enter Try.func63, Try.ntmps63
    go_wp2_with fail
    go_ret
    exact ⟨rfl, rfl⟩
theorem drew3 {W w' : World} {p q r : Addr} {u v z : Value} (h : w'.cell? p = some u ∧ w'.cell? q = some v ∧ w'.cell? r = some z ∧ Drawn W w') : w'.drew.cell? p = some u ∧ w'.drew.cell? q = some v ∧ w'.drew.cell? r = some z ∧ Drawn W w'.drew := ⟨h.1, h.2.1, h.2.2.1, h.2.2.2.drew⟩
theorem drew5 {W w' : World} {p q r s t : Addr} {u v z x y : Value} (h : w'.cell? p = some u ∧ w'.cell? q = some v ∧ w'.cell? r = some z ∧ w'.cell? s = some x ∧ w'.cell? t = some y ∧ Drawn W w') : w'.drew.cell? p = some u ∧ w'.drew.cell? q = some v ∧ w'.drew.cell? r = some z ∧ w'.drew.cell? s = some x ∧ w'.drew.cell? t = some y ∧ Drawn W w'.drew := ⟨h.1, h.2.1, h.2.2.1, h.2.2.2.1, h.2.2.2.2.1, h.2.2.2.2.2.drew⟩
theorem obj_stp (h : PM w B o a P n T σ) (H : Ok n T σ) {x y : Nat} {i : Int} (c0 : w.cell? ⟨x, 0, none⟩ = some (.pointer (some ⟨B, 0, none⟩))) (c1 : w.cell? ⟨y, 0, none⟩ = some (.int .i64 i)) :
    Stp w (.func (.func 62) #[] #[.pointer (some ⟨y, 0, none⟩), .pointer (some ⟨x, 0, none⟩)]) (unl (inO σ i) 8) := by
  refine ⟨_, _, rfl, run_enter Try.func62 (by kernel_rfl) (by kernel_rfl) _, fun W hW => ?_⟩
  have d0 := hW.cell c0
  have d1 := hW.cell c1
  have hk := h.keep hW
  obtain ⟨k, hk1, c3⟩ := hk.c0
  have n2 := H.n2
  have hz : inO σ i = decide (0 ≤ i ∧ i < (n : Int)) := by unfold inO inN; rw [H.ol]
  have CU := fun (b : Bool) (X : World) => unless_any b 8 X
  have hS : W.cell? ⟨x, 0, none⟩ = some (.pointer (some ⟨B, 0, none⟩)) ∧ W.cell? ⟨y, 0, none⟩ = some (.int .i64 i) ∧ W.cell? ⟨B, 0, none⟩ = some (.slice (some ⟨o, 0, none⟩) n k) ∧ Drawn W W := ⟨d0, d1, c3, Drawn.refl _⟩
  generalize inO σ i = b at *
  clear d0 d1 c3 hW
  by_cases h0 : 0 ≤ i
  · have HZ : Hid (b = decide (i < (n : Int))) := show b = _ by rw [hz]; simp [h0]
    clear hz
    go_enter Try.func62, Try.ntmps62
    go_wp2_with fail
    go_region_held3 (fun w' => w'.cell? ⟨x, 0, none⟩ = some (.pointer (some ⟨B, 0, none⟩)) ∧ w'.cell? ⟨y, 0, none⟩ = some (.int .i64 i) ∧ w'.cell? ⟨B, 0, none⟩ = some (.slice (some ⟨o, 0, none⟩) n k) ∧ Drawn W w') (first | with_reducible assumption | (with_reducible refine drew3 ?_; with_reducible assumption)) (first
      | (go_at_call 63; refine (CU _ _).mono ?_; rintro e w' ⟨rfl, hw⟩; subst w'; have key : Drawn W _ := And.right (And.right (And.right (by assumption)))))
    all_goals
      go_wp2_with fail
      go_ret
      exact ⟨by rw [HZ.out]; rfl, key.but⟩
  · have HZ : Hid (b = false) := show b = _ by rw [hz]; simp [h0]
    have h1 : decide (0 ≤ i) = false := decide_eq_false h0
    obtain ⟨d0, d1, c3, _⟩ := hS
    have hB := But.refl [] W
    clear hz
    go_enter Try.func62, Try.ntmps62
    go_wp2_with fail
    go_quiet (first
      | (go_at_call 63; exact Calls.quiet_of_same (CU _ _)))
    all_goals
      go_wp2_with fail
      go_ret
      exact ⟨by rw [HZ.out]; rfl, hB.drewN _⟩
theorem obj_any (h : PM w B o a P n T σ) (H : Ok n T σ) (i : Int) : Calls Try.prog 35 #[.pointer (some ⟨B, 0, none⟩), .int .i64 i] w fun e w' => ∃ F A, e = .returned (.func (.func F) #[] A) ∧ Stp w' (.func (.func F) #[] A) (unl (inO σ i) 8) ∧ But [] w w' := by
  have hB : But [] w ((w.alloc (.cells #[.pointer (some ⟨B, 0, none⟩)] 25)).alloc (.cells #[.int .i64 i] 3)) := ((But.refl [] w).alloc _).alloc _
  have HS := obj_stp (h.keep hB) H (x := w.heap.size) (y := w.heap.size + 1) (i := i) (by simp [go_sem]) (by simp [go_sem])
  go_enter Try.func35, Try.ntmps35
  go_wp2_with fail
  go_ret
  exact ⟨_, _, rfl, HS, hB⟩
theorem thr_stp (h : PM w B o a P n T σ) (H : Ok n T σ) {x y : Nat} {i : Int} (c0 : w.cell? ⟨x, 0, none⟩ = some (.pointer (some ⟨B, 0, none⟩))) (c1 : w.cell? ⟨y, 0, none⟩ = some (.int .i64 i)) :
    Stp w (.func (.func 67) #[] #[.pointer (some ⟨y, 0, none⟩), .pointer (some ⟨x, 0, none⟩)]) (unl (inT σ i) 8) := by
  refine ⟨_, _, rfl, run_enter Try.func67 (by kernel_rfl) (by kernel_rfl) _, fun W hW => ?_⟩
  have d0 := hW.cell c0
  have d1 := hW.cell c1
  have hk := h.keep hW
  obtain ⟨k, hk1, c3⟩ := hk.c1
  have n2 := H.t2
  have hz : inT σ i = decide (0 ≤ i ∧ i < (T : Int)) := by unfold inT inN; rw [H.al]
  have CU := fun (b : Bool) (X : World) => unless_any b 8 X
  have hS : W.cell? ⟨x, 0, none⟩ = some (.pointer (some ⟨B, 0, none⟩)) ∧ W.cell? ⟨y, 0, none⟩ = some (.int .i64 i) ∧ W.cell? ⟨B, 1, none⟩ = some (.slice (some ⟨a, 0, none⟩) T k) ∧ Drawn W W := ⟨d0, d1, c3, Drawn.refl _⟩
  generalize inT σ i = b at *
  clear d0 d1 c3 hW
  by_cases h0 : 0 ≤ i
  · have HZ : Hid (b = decide (i < (T : Int))) := show b = _ by rw [hz]; simp [h0]
    clear hz
    go_enter Try.func67, Try.ntmps67
    go_wp2_with fail
    go_region_held3 (fun w' => w'.cell? ⟨x, 0, none⟩ = some (.pointer (some ⟨B, 0, none⟩)) ∧ w'.cell? ⟨y, 0, none⟩ = some (.int .i64 i) ∧ w'.cell? ⟨B, 1, none⟩ = some (.slice (some ⟨a, 0, none⟩) T k) ∧ Drawn W w') (first | with_reducible assumption | (with_reducible refine drew3 ?_; with_reducible assumption)) (first
      | (go_at_call 63; refine (CU _ _).mono ?_; rintro e w' ⟨rfl, hw⟩; subst w'; have key : Drawn W _ := And.right (And.right (And.right (by assumption)))))
    all_goals
      go_wp2_with fail
      go_ret
      exact ⟨by rw [HZ.out]; rfl, key.but⟩
  · have HZ : Hid (b = false) := show b = _ by rw [hz]; simp [h0]
    have h1 : decide (0 ≤ i) = false := decide_eq_false h0
    obtain ⟨d0, d1, c3, _⟩ := hS
    have hB := But.refl [] W
    clear hz
    go_enter Try.func67, Try.ntmps67
    go_wp2_with fail
    go_quiet (first
      | (go_at_call 63; exact Calls.quiet_of_same (CU _ _)))
    all_goals
      go_wp2_with fail
      go_ret
      exact ⟨by rw [HZ.out]; rfl, hB.drewN _⟩
theorem thr_any (h : PM w B o a P n T σ) (H : Ok n T σ) (i : Int) : Calls Try.prog 39 #[.pointer (some ⟨B, 0, none⟩), .int .i64 i] w fun e w' => ∃ F A, e = .returned (.func (.func F) #[] A) ∧ Stp w' (.func (.func F) #[] A) (unl (inT σ i) 8) ∧ But [] w w' := by
  have hB : But [] w ((w.alloc (.cells #[.pointer (some ⟨B, 0, none⟩)] 25)).alloc (.cells #[.int .i64 i] 3)) := ((But.refl [] w).alloc _).alloc _
  have HS := thr_stp (h.keep hB) H (x := w.heap.size) (y := w.heap.size + 1) (i := i) (by simp [go_sem]) (by simp [go_sem])
  go_enter Try.func39, Try.ntmps39
  go_wp2_with fail
  go_ret
  exact ⟨_, _, rfl, HS, hB⟩
theorem goes_stp (h : PM w B o a P n T σ) {x y : Nat} {t : Int} (c0 : w.cell? ⟨x, 0, none⟩ = some (.pointer (some ⟨B, 0, none⟩))) (c1 : w.cell? ⟨y, 0, none⟩ = some (.int .i64 t)) :
    Stp w (.func (.func 69) #[] #[.pointer (some ⟨x, 0, none⟩), .pointer (some ⟨y, 0, none⟩)]) (unl (wt σ t == -1) 5) := by
  refine ⟨_, _, rfl, run_enter Try.func69 (by kernel_rfl) (by kernel_rfl) _, fun W hW => ?_⟩
  have d0 := hW.cell c0
  have d1 := hW.cell c1
  have hk := h.keep hW
  have c3 := hk.c2
  have CW : ∀ X, (X.cell? ⟨x, 0, none⟩ = some (.pointer (some ⟨B, 0, none⟩)) ∧ X.cell? ⟨y, 0, none⟩ = some (.int .i64 t) ∧ X.cell? ⟨B, 2, none⟩ = some (.pointer (some ⟨P.B, 0, none⟩)) ∧ Drawn W X) → Calls Try.prog 40 #[.pointer (some ⟨P.B, 0, none⟩), .int .i64 t] X fun e w' => e = .returned (.int .i64 (wI σ.ls t)) ∧ w' = X := fun X hX => where_any (hk.q.drawn hX.2.2.2) t
  have CU := fun (b : Bool) (X : World) => unless_any b 5 X
  have hS : W.cell? ⟨x, 0, none⟩ = some (.pointer (some ⟨B, 0, none⟩)) ∧ W.cell? ⟨y, 0, none⟩ = some (.int .i64 t) ∧ W.cell? ⟨B, 2, none⟩ = some (.pointer (some ⟨P.B, 0, none⟩)) ∧ Drawn W W := ⟨d0, d1, c3, Drawn.refl _⟩
  show Calls _ _ _ W fun r W' => r = .returned (.int .i64 (unl (wI σ.ls t == -1) 5)) ∧ But [] W W'
  generalize wI σ.ls t = z at *
  clear d0 d1 c3 hW
  go_enter Try.func69, Try.ntmps69
  go_wp2_with fail
  go_region_held3 (fun w' => w'.cell? ⟨x, 0, none⟩ = some (.pointer (some ⟨B, 0, none⟩)) ∧ w'.cell? ⟨y, 0, none⟩ = some (.int .i64 t) ∧ w'.cell? ⟨B, 2, none⟩ = some (.pointer (some ⟨P.B, 0, none⟩)) ∧ Drawn W w') (first | with_reducible assumption | (with_reducible refine drew3 ?_; with_reducible assumption)) (first
    | (go_at_call 40; refine (CW _ (by assumption)).mono ?_; rintro e w' ⟨rfl, hw⟩; subst w'; have key : Drawn W _ := And.right (And.right (And.right (by assumption))))
    | (go_at_call 63; refine (CU _ _).mono ?_; rintro e w' ⟨rfl, hw⟩; subst w'))
  all_goals
    go_wp2_with fail
    go_ret
    exact ⟨rfl, key.but⟩
theorem goes_any (h : PM w B o a P n T σ) (t : Int) : Calls Try.prog 41 #[.pointer (some ⟨B, 0, none⟩), .int .i64 t] w fun e w' => ∃ F A, e = .returned (.func (.func F) #[] A) ∧ Stp w' (.func (.func F) #[] A) (unl (wt σ t == -1) 5) ∧ But [] w w' := by
  have hB : But [] w ((w.alloc (.cells #[.pointer (some ⟨B, 0, none⟩)] 25)).alloc (.cells #[.int .i64 t] 3)) := ((But.refl [] w).alloc _).alloc _
  have HS := goes_stp (h.keep hB) (x := w.heap.size) (y := w.heap.size + 1) (t := t) (by simp [go_sem]) (by simp [go_sem])
  go_enter Try.func41, Try.ntmps41
  go_wp2_with fail
  go_ret
  exact ⟨_, _, rfl, HS, hB⟩
/-- The step holds where the lock is one. -/
theorem not_stp (h : PM w B o a P n T σ) (H : Ok n T σ) {x y z : Nat} {i t : Int} (hi : inO σ i = true) (c0 : w.cell? ⟨x, 0, none⟩ = some (.pointer (some ⟨B, 0, none⟩))) (c1 : w.cell? ⟨y, 0, none⟩ = some (.int .i64 i)) (c2 : w.cell? ⟨z, 0, none⟩ = some (.int .i64 t)) :
    Stp w (.func (.func 70) #[] #[.pointer (some ⟨x, 0, none⟩), .pointer (some ⟨y, 0, none⟩), .pointer (some ⟨z, 0, none⟩)]) (unl (owI σ i != t) 5) := by
  refine ⟨_, _, rfl, run_enter Try.func70 (by kernel_rfl) (by kernel_rfl) _, fun W hW => ?_⟩
  obtain ⟨j, rfl, hj⟩ := inN_out hi
  rw [H.ol] at hj
  have d0 := hW.cell c0
  have d1 := hW.cell c1
  have d2 := hW.cell c2
  have hk := h.keep hW
  obtain ⟨k, hk1, c3⟩ := hk.c0
  have c4 := hk.xo hj
  have n2 := H.n2
  have hj' : (j : Int) < (n : Int) := by omega
  have CU := fun (b : Bool) (X : World) => unless_any b 5 X
  show Calls _ _ _ W fun r W' => r = .returned (.int .i64 (unl (ow σ j != t) 5)) ∧ But [] W W'
  generalize ow σ j = u at *
  have hS : W.cell? ⟨x, 0, none⟩ = some (.pointer (some ⟨B, 0, none⟩)) ∧ W.cell? ⟨y, 0, none⟩ = some (.int .i64 (j : Int)) ∧ W.cell? ⟨z, 0, none⟩ = some (.int .i64 t) ∧ W.cell? ⟨B, 0, none⟩ = some (.slice (some ⟨o, 0, none⟩) n k) ∧ W.cell? ⟨o, j, none⟩ = some (.int .i64 u) ∧ Drawn W W := ⟨d0, d1, d2, c3, c4, Drawn.refl _⟩
  clear d0 d1 d2 c3 c4 hW hi c1
  go_enter Try.func70, Try.ntmps70
  go_wp2_with fail
  go_region_held3 (fun w' => w'.cell? ⟨x, 0, none⟩ = some (.pointer (some ⟨B, 0, none⟩)) ∧ w'.cell? ⟨y, 0, none⟩ = some (.int .i64 (j : Int)) ∧ w'.cell? ⟨z, 0, none⟩ = some (.int .i64 t) ∧ w'.cell? ⟨B, 0, none⟩ = some (.slice (some ⟨o, 0, none⟩) n k) ∧ w'.cell? ⟨o, j, none⟩ = some (.int .i64 u) ∧ Drawn W w') (first | with_reducible assumption | (with_reducible refine drew5 ?_; with_reducible assumption)) (first
    | (go_at_call 63; refine (CU _ _).mono ?_; rintro e w' ⟨rfl, hw⟩; subst w'; have key : Drawn W _ := And.right (And.right (And.right (And.right (And.right (by assumption)))))))
  all_goals
    go_wp2_with fail
    go_ret
    exact ⟨rfl, key.but⟩
/-- It is made whether the lock is one or not. -/
theorem not_any (h : PM w B o a P n T σ) (H : Ok n T σ) (i t : Int) : Calls Try.prog 42 #[.pointer (some ⟨B, 0, none⟩), .int .i64 i, .int .i64 t] w fun e w' => ∃ F A, e = .returned (.func (.func F) #[] A) ∧ (inO σ i = true → Stp w' (.func (.func F) #[] A) (unl (owI σ i != t) 5)) ∧ But [] w w' := by
  have hB : But [] w (((w.alloc (.cells #[.pointer (some ⟨B, 0, none⟩)] 25)).alloc (.cells #[.int .i64 i] 3)).alloc (.cells #[.int .i64 t] 3)) := (((But.refl [] w).alloc _).alloc _).alloc _
  have HS := fun hi => not_stp (h.keep hB) H (x := w.heap.size) (y := w.heap.size + 1) (z := w.heap.size + 1 + 1) (i := i) (t := t) hi (by simp [go_sem]) (by simp [go_sem]) (by simp [go_sem])
  go_enter Try.func42, Try.ntmps42
  go_wp2_with fail
  go_ret
  exact ⟨_, _, rfl, HS, hB⟩
/-- The step holds where the lock is one. -/
theorem has_stp (h : PM w B o a P n T σ) (H : Ok n T σ) {x y z : Nat} {i t : Int} (hi : inO σ i = true) (c0 : w.cell? ⟨x, 0, none⟩ = some (.pointer (some ⟨B, 0, none⟩))) (c1 : w.cell? ⟨y, 0, none⟩ = some (.int .i64 i)) (c2 : w.cell? ⟨z, 0, none⟩ = some (.int .i64 t)) :
    Stp w (.func (.func 71) #[] #[.pointer (some ⟨x, 0, none⟩), .pointer (some ⟨y, 0, none⟩), .pointer (some ⟨z, 0, none⟩)]) (unl (owI σ i == t) 6) := by
  refine ⟨_, _, rfl, run_enter Try.func71 (by kernel_rfl) (by kernel_rfl) _, fun W hW => ?_⟩
  obtain ⟨j, rfl, hj⟩ := inN_out hi
  rw [H.ol] at hj
  have d0 := hW.cell c0
  have d1 := hW.cell c1
  have d2 := hW.cell c2
  have hk := h.keep hW
  obtain ⟨k, hk1, c3⟩ := hk.c0
  have c4 := hk.xo hj
  have n2 := H.n2
  have hj' : (j : Int) < (n : Int) := by omega
  have CU := fun (b : Bool) (X : World) => unless_any b 6 X
  show Calls _ _ _ W fun r W' => r = .returned (.int .i64 (unl (ow σ j == t) 6)) ∧ But [] W W'
  generalize ow σ j = u at *
  have hS : W.cell? ⟨x, 0, none⟩ = some (.pointer (some ⟨B, 0, none⟩)) ∧ W.cell? ⟨y, 0, none⟩ = some (.int .i64 (j : Int)) ∧ W.cell? ⟨z, 0, none⟩ = some (.int .i64 t) ∧ W.cell? ⟨B, 0, none⟩ = some (.slice (some ⟨o, 0, none⟩) n k) ∧ W.cell? ⟨o, j, none⟩ = some (.int .i64 u) ∧ Drawn W W := ⟨d0, d1, d2, c3, c4, Drawn.refl _⟩
  clear d0 d1 d2 c3 c4 hW hi c1
  go_enter Try.func71, Try.ntmps71
  go_wp2_with fail
  go_region_held3 (fun w' => w'.cell? ⟨x, 0, none⟩ = some (.pointer (some ⟨B, 0, none⟩)) ∧ w'.cell? ⟨y, 0, none⟩ = some (.int .i64 (j : Int)) ∧ w'.cell? ⟨z, 0, none⟩ = some (.int .i64 t) ∧ w'.cell? ⟨B, 0, none⟩ = some (.slice (some ⟨o, 0, none⟩) n k) ∧ w'.cell? ⟨o, j, none⟩ = some (.int .i64 u) ∧ Drawn W w') (first | with_reducible assumption | (with_reducible refine drew5 ?_; with_reducible assumption)) (first
    | (go_at_call 63; refine (CU _ _).mono ?_; rintro e w' ⟨rfl, hw⟩; subst w'; have key : Drawn W _ := And.right (And.right (And.right (And.right (And.right (by assumption)))))))
  all_goals
    go_wp2_with fail
    go_ret
    exact ⟨rfl, key.but⟩
/-- It is made whether the lock is one or not. -/
theorem has_any (h : PM w B o a P n T σ) (H : Ok n T σ) (i t : Int) : Calls Try.prog 44 #[.pointer (some ⟨B, 0, none⟩), .int .i64 i, .int .i64 t] w fun e w' => ∃ F A, e = .returned (.func (.func F) #[] A) ∧ (inO σ i = true → Stp w' (.func (.func F) #[] A) (unl (owI σ i == t) 6)) ∧ But [] w w' := by
  have hB : But [] w (((w.alloc (.cells #[.pointer (some ⟨B, 0, none⟩)] 25)).alloc (.cells #[.int .i64 i] 3)).alloc (.cells #[.int .i64 t] 3)) := (((But.refl [] w).alloc _).alloc _).alloc _
  have HS := fun hi => has_stp (h.keep hB) H (x := w.heap.size) (y := w.heap.size + 1) (z := w.heap.size + 1 + 1) (i := i) (t := t) hi (by simp [go_sem]) (by simp [go_sem]) (by simp [go_sem])
  go_enter Try.func44, Try.ntmps44
  go_wp2_with fail
  go_ret
  exact ⟨_, _, rfl, HS, hB⟩
end Go.Proofs.Ytimoleijdfoahaa.Lq
