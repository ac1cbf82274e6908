/- A queue of the program's that no call made. -/
import Derived.Test.YtlnfabjgcecebaaPqA
import Derived.BigQuiet
namespace Go.Proofs.Ytlnfabjgcecebaa.Pq
open Go Go.RowKit Go.Proofs.Ytlnfabjgcecebaa.Str Go.Proofs.Ytlnfabjgcecebaa.Rd
open Go.Proofs.Ytlnfabjgcecebaa.Hp (Step Disj HQ)

/-- No queue is there, or one without a heap. -/
def Un (w : World) (p : Option Addr) : Prop := p = none ∨ ∃ B, p = some ⟨B, 0, none⟩ ∧ w.cell? ⟨B, 1, none⟩ = some (.pointer none)
theorem Un.keep {w w' : World} {p : Option Addr} (h : Un w p) (hb : Below w.heap.size w w') : Un w' p :=
  h.imp id (fun ⟨B, e, hc⟩ => ⟨B, e, Hp.cell_on hb hc⟩)

section
set_option maxRecDepth 100000
variable {w : World} {p : Option Addr}
theorem made_no (h : Un w p) : Calls Try.prog 50 #[.pointer p] w fun e w' => e = .returned (.bool false) ∧ w' = w := by
  rcases h with rfl | ⟨B, rfl, hc⟩
  · go_enter Try.func50, Try.ntmps50
    go_wp2_with fail
    go_ret
    exact ⟨rfl, rfl⟩
  · go_enter Try.func50, Try.ntmps50
    go_wp2_with fail
    go_ret
    exact ⟨rfl, rfl⟩
theorem ask_no (h : Un w p) (id : Int) : Calls Try.prog 42 #[.pointer p, .int .i64 id] w fun e w' => e = .returned (.int .i64 1) ∧ w' = w := by
  go_enter Try.func42, Try.ntmps42
  go_wp2_with (first | (go_at_call 50; (with_reducible refine (made_no h).mono ?_); rintro e w' ⟨rfl, hw⟩; subst w'))
  go_ret
  exact ⟨rfl, rfl⟩
theorem act_no1 (h : Un w p) (id fr : Int) (f : Value) : Calls Try.prog 66 #[.pointer p, .int .i64 id, .int .i64 fr, f] w fun e w' => e = .returned (.int .i64 1) ∧ w' = w := by
  go_enter Try.func66, Try.ntmps66
  go_wp2_with (first | (go_at_call 42; (with_reducible refine (ask_no h id).mono ?_); rintro e w' ⟨rfl, hw⟩; subst w'))
  go_ret
  exact ⟨rfl, rfl⟩
theorem join_no (h : Un w p) (id : Int) (t : Int) : Calls Try.prog 12 #[.pointer p, .int .i64 id, .int .i64 t] w fun e w' => e = .returned (.int .i64 1) ∧ w' = w := by
  go_enter Try.func12, Try.ntmps12
  go_wp2_with (first | (go_at_call 42; (with_reducible refine (ask_no h id).mono ?_); rintro e w' ⟨rfl, hw⟩; subst w'))
  go_ret
  exact ⟨rfl, rfl⟩
theorem drop_no (h : Un w p) (id : Int) : Calls Try.prog 17 #[.pointer p, .int .i64 id] w fun e w' => e = .returned (.int .i64 1) ∧ w' = w := by
  go_enter Try.func17, Try.ntmps17
  go_wp2_with (first | (go_at_call 42; (with_reducible refine (ask_no h id).mono ?_); rintro e w' ⟨rfl, hw⟩; subst w'))
  go_ret
  exact ⟨rfl, rfl⟩
theorem pick_no (h : Un w p) : Calls Try.prog 18 #[.pointer p] w fun e w' => e = .returned (.tuple #[.int .i64 0, .bool false]) ∧ w' = w := by
  go_enter Try.func18, Try.ntmps18
  go_wp2_with (first | (go_at_call 50; (with_reducible refine (made_no h).mono ?_); rintro e w' ⟨rfl, hw⟩; subst w'))
  go_ret2
  exact ⟨rfl, rfl⟩
theorem now_no (h : Un w p) : Calls Try.prog 24 #[.pointer p] w fun e w' => e = .returned (.int .i64 0) ∧ w' = w := by
  go_enter Try.func24, Try.ntmps24
  go_wp2_with (first | (go_at_call 50; (with_reducible refine (made_no h).mono ?_); rintro e w' ⟨rfl, hw⟩; subst w'))
  go_ret
  exact ⟨rfl, rfl⟩
theorem waiting_no (h : Un w p) : Calls Try.prog 26 #[.pointer p] w fun e w' => e = .returned (.slice none 0 0) ∧ w' = w := by
  go_enter Try.func26, Try.ntmps26
  go_wp2_with (first | (go_at_call 50; (with_reducible refine (made_no h).mono ?_); rintro e w' ⟨rfl, hw⟩; subst w'))
  go_ret
  exact ⟨rfl, rfl⟩
theorem sound_no (h : Un w p) : Calls Try.prog 21 #[.pointer p] w fun e w' => e = .returned (.bool false) ∧ w' = w := by
  go_enter Try.func21, Try.ntmps21
  go_wp2_with (first | (go_at_call 50; (with_reducible refine (made_no h).mono ?_); rintro e w' ⟨rfl, hw⟩; subst w'))
  go_ret
  exact ⟨rfl, rfl⟩
theorem copy_no (h : Un w p) : Calls Try.prog 22 #[.pointer p] w fun e w' => e = .returned (.pointer none) ∧ w' = w := by
  go_enter Try.func22, Try.ntmps22
  go_wp2_with (first | (go_at_call 50; (with_reducible refine (made_no h).mono ?_); rintro e w' ⟨rfl, hw⟩; subst w'))
  go_ret
  exact ⟨rfl, rfl⟩
theorem known_no (h : Un w p) (id : Int) : Calls Try.prog 48 #[.pointer p, .int .i64 id] w fun e w' => e = .returned (.agg #[.int .i64 0, .int .i64 0, .int .i64 0, .int .i64 0]) ∧ Below w.heap.size w w' := by
  have hB : Below w.heap.size w (w.alloc (.cells #[.int .i64 0, .int .i64 0, .int .i64 0, .int .i64 0] 65)) := (Below.refl _ _).alloc (Nat.le_refl _) _
  have hF := heap_alloc_new w (.cells #[.int .i64 0, .int .i64 0, .int .i64 0, .int .i64 0] 65)
  have A := ask_no (h.keep hB) id
  go_enter Try.func48, Try.ntmps48
  go_wp2_with (first | (go_at_call 42; (with_reducible refine A.mono ?_); rintro e w1 ⟨rfl, hw⟩; subst w1))
  exact bodyPost_ret (results_c4 rfl _ _ w.heap.size 0 0 0 0 rfl hF) rfl ⟨rfl, hB⟩
theorem state_no (h : Un w p) (id : Int) : Calls Try.prog 16 #[.pointer p, .int .i64 id] w fun e w' => e = .returned (.int .i64 0) ∧ Below w.heap.size w w' := by
  have K := known_no h id
  have hf := fun W => field0 0 0 0 0 W
  go_enter Try.func16, Try.ntmps16
  go_wp2_with (first | (go_at_call 48; (with_reducible refine K.mono ?_); rintro e w1 ⟨rfl, b1⟩))
  go_ret
  exact ⟨rfl, b1⟩
theorem picks_no (h : Un w p) (id : Int) : Calls Try.prog 20 #[.pointer p, .int .i64 id] w fun e w' => e = .returned (.int .i64 0) ∧ Below w.heap.size w w' := by
  have K := known_no h id
  have hf := fun W => field3 0 0 0 0 W
  go_enter Try.func20, Try.ntmps20
  go_wp2_with (first | (go_at_call 48; (with_reducible refine K.mono ?_); rintro e w1 ⟨rfl, b1⟩))
  go_ret
  exact ⟨rfl, b1⟩
theorem pass_no (h : Un w p) (id : Int) : Calls Try.prog 27 #[.pointer p, .int .i64 id] w fun e w' => e = .returned (.tuple #[.int .i64 0, .bool false]) ∧ Below w.heap.size w w' := by
  have K := known_no h id
  go_enter Try.func27, Try.ntmps27
  go_upto_region 2 with (first | (go_at_call 48; (with_reducible refine K.mono ?_); rintro e w1 ⟨rfl, b1⟩))
  have b2 : Below w.heap.size w (w1.alloc (.cells #[.int .i64 0, .int .i64 0, .int .i64 0, .int .i64 0] 65)) := b1.alloc b1.size _
  go_quiet (fail)
  go_wp2_with fail
  go_ret2
  exact ⟨rfl, ((Hp.But.of_below (S := []) b2).drewN _).to_below⟩
theorem turn_no (h : Un w p) (id fr tt : Int) : Calls Try.prog 47 #[.pointer p, .int .i64 id, .int .i64 fr, .int .i64 tt] w fun e w' => e = .returned (.int .i64 1) ∧ Below w.heap.size w w' := by
  have hB : Below w.heap.size w (w.alloc (.cells #[.int .i64 tt] 3)) := (Below.refl _ _).alloc (Nat.le_refl _) _
  have A := act_no1 (h.keep hB) id fr (.func (.func 76) #[] #[.pointer (some ⟨w.heap.size, 0, none⟩)])
  go_enter Try.func47, Try.ntmps47
  go_wp2_with (first | (go_at_call 66; (with_reducible refine A.mono ?_); rintro e w2 ⟨rfl, hw⟩; subst w2))
  go_ret
  exact ⟨rfl, hB⟩
theorem enter_no (h : Un w p) (id fr : Int) : Calls Try.prog 46 #[.pointer p, .int .i64 id, .int .i64 fr] w fun e w' => e = .returned (.int .i64 1) ∧ Below w.heap.size w w' := by
  have hB : Below w.heap.size w ((w.alloc (.cells #[.pointer p] 24)).alloc (.cells #[.int .i64 id] 3)) := ((Below.refl _ w).alloc (Nat.le_refl _) _).alloc (by simp) _
  have A := act_no1 (h.keep hB) id fr (.func (.func 75) #[] #[.pointer (some ⟨w.heap.size, 0, none⟩), .pointer (some ⟨w.heap.size + 1, 0, none⟩)])
  go_enter Try.func46, Try.ntmps46
  go_wp2_with (first | (go_at_call 66; (with_reducible refine A.mono ?_); rintro e w2 ⟨rfl, hw⟩; subst w2))
  go_ret
  exact ⟨rfl, hB⟩
theorem take_no (h : Un w p) (id : Int) : Calls Try.prog 28 #[.pointer p, .int .i64 id] w fun e w' => e = .returned (.int .i64 1) ∧ Below w.heap.size w w' := by
  have hB : Below w.heap.size w ((w.alloc (.cells #[.pointer p] 24)).alloc (.cells #[.int .i64 id] 3)) := ((Below.refl _ w).alloc (Nat.le_refl _) _).alloc (by simp) _
  have A := act_no1 (h.keep hB) id 1 (.func (.func 67) #[] #[.pointer (some ⟨w.heap.size, 0, none⟩), .pointer (some ⟨w.heap.size + 1, 0, none⟩)])
  go_enter Try.func28, Try.ntmps28
  go_wp2_with (first | (go_at_call 66; (with_reducible refine A.mono ?_); rintro e w2 ⟨rfl, hw⟩; subst w2))
  go_ret
  exact ⟨rfl, hB⟩
theorem back_no (h : Un w p) (id : Int) : Calls Try.prog 13 #[.pointer p, .int .i64 id] w fun e w' => e = .returned (.int .i64 1) ∧ Below w.heap.size w w' := by
  have A := enter_no h id 2
  go_enter Try.func13, Try.ntmps13
  go_wp2_with (first | (go_at_call 46; (with_reducible refine A.mono ?_); rintro e w2 ⟨rfl, b2⟩))
  go_ret
  exact ⟨rfl, b2⟩
theorem wake_no (h : Un w p) (id : Int) : Calls Try.prog 15 #[.pointer p, .int .i64 id] w fun e w' => e = .returned (.int .i64 1) ∧ Below w.heap.size w w' := by
  have A := enter_no h id 3
  go_enter Try.func15, Try.ntmps15
  go_wp2_with (first | (go_at_call 46; (with_reducible refine A.mono ?_); rintro e w2 ⟨rfl, b2⟩))
  go_ret
  exact ⟨rfl, b2⟩
theorem block_no (h : Un w p) (id : Int) : Calls Try.prog 14 #[.pointer p, .int .i64 id] w fun e w' => e = .returned (.int .i64 1) ∧ Below w.heap.size w w' := by
  have A := turn_no h id 2 3
  go_enter Try.func14, Try.ntmps14
  go_wp2_with (first | (go_at_call 47; (with_reducible refine A.mono ?_); rintro e w2 ⟨rfl, b2⟩))
  go_ret
  exact ⟨rfl, b2⟩
theorem resume_no (h : Un w p) (id : Int) : Calls Try.prog 29 #[.pointer p, .int .i64 id] w fun e w' => e = .returned (.int .i64 1) ∧ Below w.heap.size w w' := by
  have A := turn_no h id 3 2
  go_enter Try.func29, Try.ntmps29
  go_wp2_with (first | (go_at_call 47; (with_reducible refine A.mono ?_); rintro e w2 ⟨rfl, b2⟩))
  go_ret
  exact ⟨rfl, b2⟩
theorem lower_no (h : Un w p) : Calls Try.prog 23 #[.pointer p] w fun e w' => e = .returned (.int .i64 0) ∧ w' = w := by
  go_enter Try.func23, Try.ntmps23
  go_wp2_with (first | (go_at_call 50; (with_reducible refine (made_no h).mono ?_); rintro e w' ⟨rfl, hw⟩; subst w'))
  go_ret
  exact ⟨rfl, rfl⟩
end
end Go.Proofs.Ytlnfabjgcecebaa.Pq
