/- The document's example; what a device that no call made tells. -/
import Derived.Test.YtdhgffnlocgfkaaAll
namespace Go.Proofs.Ytdhgffnlocgfkaa
open Go.RowKit

set_option maxHeartbeats 1000000 in
theorem lives_any (w : World) :
    Calls Try.prog 7 #[] w fun e w' => e = .returned (.bool true) ∧ Below w.heap.size w w' := by
  have S1 : ∀ W B T, DQ W B T 3 0 0 [] → Calls Try.prog 16 #[.pointer (some ⟨B, 0, none⟩), .agg #[.int .i64 0, .int .i64 0, .int .i64 0, .int .i64 1, .int .i64 0]] W fun e w' => e = .returned (.tuple #[.int .i64 1, .int .i64 0]) ∧ ∃ T', DQ w' B T' 3 1 0 [(1, 0, 0, 1, 0)] ∧ Step T W T' w' := fun W B T h => start_any h (by omega) 0 0 0 1 0
  have S2 : ∀ W B T, DQ W B T 3 1 0 [(1, 0, 0, 1, 0)] → Calls Try.prog 16 #[.pointer (some ⟨B, 0, none⟩), .agg #[.int .i64 0, .int .i64 0, .int .i64 0, .int .i64 2, .int .i64 9]] W fun e w' => e = .returned (.tuple #[.int .i64 2, .int .i64 0]) ∧ ∃ T', DQ w' B T' 3 2 0 [(1, 0, 0, 1, 0), (2, 0, 0, 2, 9)] ∧ Step T W T' w' := fun W B T h => start_any h (by omega) 0 0 0 2 9
  have F1 : ∀ W B T, DQ W B T 3 2 0 [(1, 0, 0, 1, 0), (2, 0, 0, 2, 9)] → Calls Try.prog 17 #[.pointer (some ⟨B, 0, none⟩), .int .i64 1] W fun e w' => e = .returned (.tuple #[.agg #[.int .i64 2, .int .i64 0, .int .i64 0, .int .i64 2, .int .i64 9], .int .i64 9, .int .i64 0]) ∧ ∃ T', DQ w' B T' 3 2 1 [(1, 0, 0, 1, 0)] ∧ Step T W T' w' := fun W B T h => finish_any h (by omega) 1
  go_enter Try.func7, Try.ntmps7
  go_wp2_with (first
    | (go_at_call 8; refine (new_some 3 (by decide) (by decide) _).mono ?_; rintro e w1 ⟨B, T1, rfl, h1, s1⟩)
    | (go_at_call 16; (with_reducible refine (S1 _ _ _ h1).mono ?_); rintro e w2 ⟨rfl, T2, h2, s2⟩; clear h1)
    | (go_at_call 16; (with_reducible refine (S2 _ _ _ h2).mono ?_); rintro e w3 ⟨rfl, T3, h3, s3⟩; clear h2)
    | (go_at_call 17; (with_reducible refine (F1 _ _ _ h3).mono ?_); rintro e w4 ⟨rfl, T4, h4, s4⟩; clear h3))
  go_ret
  have b4 := (((s1.trans s2).trans s3).trans s4).below
  exact ⟨rfl, b4.alloc b4.size _⟩

/-- No call made it. -/
def UM (w : World) (p : Option Addr) : Prop := p = none ∨ ∃ Z, p = some ⟨Z, 0, none⟩ ∧ w.cell? ⟨Z, 0, none⟩ = some (.int .i64 0)
theorem UM.below {w w' : World} {p : Option Addr} (h : UM w p) (hb : Below w.heap.size w w') : UM w' p := h.imp id (fun ⟨Z, e, hc⟩ => ⟨Z, e, cell_on hb hc⟩)
theorem made_no {w : World} {p : Option Addr} (h : UM w p) : Calls Try.prog 29 #[.pointer p] w fun e w' => e = .returned (.bool false) ∧ w' = w := by
  rcases h with rfl | ⟨Z, rfl, hc⟩
  · exact made_nil w
  · exact made_zero hc

section
variable {w : World} {p : Option Addr}
theorem start_no (h : UM w p) (i s t k z : Int) :
    Calls Try.prog 16 #[.pointer p, .agg #[.int .i64 i, .int .i64 s, .int .i64 t, .int .i64 k, .int .i64 z]] w fun e w' => e = .returned (.tuple #[.int .i64 0, .int .i64 1]) ∧ Below w.heap.size w w' := by
  have hb : Below w.heap.size w (w.alloc (.cells #[.int .i64 i, .int .i64 s, .int .i64 t, .int .i64 k, .int .i64 z] 29)) := (Below.refl _ _).alloc (Nat.le_refl _) _
  have MA := made_no (h.below hb)
  go_enter Try.func16, Try.ntmps16
  go_wp2_with (first | (go_at_call 29; refine MA.mono ?_; rintro e w1 ⟨rfl, hw⟩; subst w1))
  go_ret2
  exact ⟨rfl, hb⟩
theorem finish_no (h : UM w p) (k : Int) :
    Calls Try.prog 17 #[.pointer p, .int .i64 k] w fun e w' => e = .returned (.tuple #[.agg #[.int .i64 0, .int .i64 0, .int .i64 0, .int .i64 0, .int .i64 0], .int .i64 0, .int .i64 1]) ∧ Below w.heap.size w w' := by
  have hb : Below w.heap.size w (w.alloc (.cells #[.int .i64 0, .int .i64 0, .int .i64 0, .int .i64 0, .int .i64 0] 29)) := (Below.refl _ _).alloc (Nat.le_refl _) _
  have MA := made_no (h.below hb)
  go_enter Try.func17, Try.ntmps17
  go_wp2_with (first | (go_at_call 29; refine MA.mono ?_; rintro e w1 ⟨rfl, hw⟩; subst w1))
  exact bodyPost_ret (v := .tuple #[.agg #[.int .i64 0, .int .i64 0, .int .i64 0, .int .i64 0, .int .i64 0], .int .i64 0, .int .i64 1]) (by simp [results, Try.results17, go_sem]) rfl ⟨rfl, hb⟩
theorem cancel_no (h : UM w p) (s : Int) :
    Calls Try.prog 20 #[.pointer p, .int .i64 s] w fun e w' => e = .returned (.int .i64 0) ∧ Below w.heap.size w w' := by
  have hb : Below w.heap.size w (w.alloc (.cells #[.int .i64 s] 3)) := (Below.refl _ _).alloc (Nat.le_refl _) _
  have MA := made_no (h.below hb)
  go_enter Try.func20, Try.ntmps20
  go_wp2_with (first | (go_at_call 29; refine MA.mono ?_; rintro e w1 ⟨rfl, hw⟩; subst w1))
  go_ret
  exact ⟨rfl, hb⟩
theorem ask24_no (h : UM w p) (f : Value) :
    Calls Try.prog 24 #[.pointer p, f] w fun e w' => e = .returned (.int .i64 0) ∧ w' = w := by
  have MA := made_no h
  go_enter Try.func24, Try.ntmps24
  go_wp2_with (first | (go_at_call 29; refine MA.mono ?_; rintro e w1 ⟨rfl, hw⟩; subst w1))
  go_ret
  exact ⟨rfl, rfl⟩
theorem ask27_no (h : UM w p) (f : Value) :
    Calls Try.prog 27 #[.pointer p, f] w fun e w' => e = .returned (.slice none 0 0) ∧ w' = w := by
  have MA := made_no h
  go_enter Try.func27, Try.ntmps27
  go_wp2_with (first | (go_at_call 29; refine MA.mono ?_; rintro e w1 ⟨rfl, hw⟩; subst w1))
  go_ret
  exact ⟨rfl, rfl⟩
theorem ask33_no (h : UM w p) (f : Value) :
    Calls Try.prog 33 #[.pointer p, f] w fun e w' => e = .returned (.pointer none) ∧ w' = w := by
  have MA := made_no h
  go_enter Try.func33, Try.ntmps33
  go_wp2_with (first | (go_at_call 29; refine MA.mono ?_; rintro e w1 ⟨rfl, hw⟩; subst w1))
  go_ret
  exact ⟨rfl, rfl⟩
theorem len_no (h : UM w p) :
    Calls Try.prog 11 #[.pointer p] w fun e w' => e = .returned (.int .i64 0) ∧ w' = w := by
  have A := fun f => ask24_no h f
  go_enter Try.func11, Try.ntmps11
  go_wp2_with (first | (go_at_call 24; refine (A _).mono ?_; rintro e w1 ⟨rfl, hw⟩; subst w1))
  go_ret
  exact ⟨rfl, rfl⟩
theorem done_no (h : UM w p) :
    Calls Try.prog 12 #[.pointer p] w fun e w' => e = .returned (.int .i64 0) ∧ w' = w := by
  have A := fun f => ask24_no h f
  go_enter Try.func12, Try.ntmps12
  go_wp2_with (first | (go_at_call 24; refine (A _).mono ?_; rintro e w1 ⟨rfl, hw⟩; subst w1))
  go_ret
  exact ⟨rfl, rfl⟩
theorem all_no (h : UM w p) :
    Calls Try.prog 15 #[.pointer p] w fun e w' => e = .returned (.slice none 0 0) ∧ w' = w := by
  have A := fun f => ask27_no h f
  go_enter Try.func15, Try.ntmps15
  go_wp2_with (first | (go_at_call 27; refine (A _).mono ?_; rintro e w1 ⟨rfl, hw⟩; subst w1))
  go_ret
  exact ⟨rfl, rfl⟩
theorem copy_no (h : UM w p) :
    Calls Try.prog 18 #[.pointer p] w fun e w' => e = .returned (.pointer none) ∧ w' = w := by
  have A := fun f => ask33_no h f
  go_enter Try.func18, Try.ntmps18
  go_wp2_with (first | (go_at_call 33; refine (A _).mono ?_; rintro e w1 ⟨rfl, hw⟩; subst w1))
  go_ret
  exact ⟨rfl, rfl⟩
end
end Go.Proofs.Ytdhgffnlocgfkaa
