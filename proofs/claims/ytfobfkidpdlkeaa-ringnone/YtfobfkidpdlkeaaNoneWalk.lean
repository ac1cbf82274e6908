/- A queue that no call made; the walk of RingNone. -/
import Derived.Test.YtfobfkidpdlkeaaLall
namespace Go.Proofs.Ytfobfkidpdlkeaa
open Go.RowKit

/-- No queue is there, or one without slots. -/
def Un (w : World) (p : Option Addr) : Prop := p = none ∨ ∃ B, p = some ⟨B, 0, none⟩ ∧ w.cell? ⟨B, 0, none⟩ = some (.slice none 0 0)
theorem Un.below {w w' : World} {p : Option Addr} (h : Un w p) (hb : Below w.heap.size w w') : Un w' p :=
  h.imp id (fun ⟨B, e, hc⟩ => ⟨B, e, cell_on hb hc⟩)

section
variable {w : World} {p : Option Addr}
theorem made_no (h : Un w p) : Calls Try.prog 30 #[.pointer p] w fun e w' => e = .returned (.bool false) ∧ w' = w := by
  rcases h with rfl | ⟨B, rfl, hc⟩
  · go_enter Try.func30, Try.ntmps30
    go_wp2_with fail
    go_ret
    exact ⟨rfl, rfl⟩
  · go_enter Try.func30, Try.ntmps30
    go_wp2_with fail
    go_ret
    exact ⟨rfl, rfl⟩
theorem len_no (h : Un w p) : Calls Try.prog 11 #[.pointer p] w fun e w' => e = .returned (.int .i64 0) ∧ w' = w := by
  go_enter Try.func11, Try.ntmps11
  go_wp2_with (first | (go_at_call 30; refine (made_no h).mono ?_; rintro e w' ⟨rfl, hw⟩; subst w'))
  go_ret
  exact ⟨rfl, rfl⟩
theorem room_no (h : Un w p) : Calls Try.prog 12 #[.pointer p] w fun e w' => e = .returned (.int .i64 0) ∧ w' = w := by
  go_enter Try.func12, Try.ntmps12
  go_wp2_with (first | (go_at_call 30; refine (made_no h).mono ?_; rintro e w' ⟨rfl, hw⟩; subst w'))
  go_ret
  exact ⟨rfl, rfl⟩
theorem grow_no (h : Un w p) : Calls Try.prog 33 #[.pointer p] w fun e w' => e = .returned (.int .i64 1) ∧ w' = w := by
  go_enter Try.func33, Try.ntmps33
  go_wp2_with (first | (go_at_call 30; refine (made_no h).mono ?_; rintro e w' ⟨rfl, hw⟩; subst w'))
  go_ret
  exact ⟨rfl, rfl⟩
theorem push_no (h : Un w p) (x : Int) : Calls Try.prog 19 #[.pointer p, .int .i64 x] w fun e w' => e = .returned (.int .i64 1) ∧ w' = w := by
  go_enter Try.func19, Try.ntmps19
  go_wp2_with (first | (go_at_call 33; refine (grow_no h).mono ?_; rintro e w' ⟨rfl, hw⟩; subst w'))
  go_ret
  exact ⟨rfl, rfl⟩
theorem front_no (h : Un w p) (x : Int) : Calls Try.prog 22 #[.pointer p, .int .i64 x] w fun e w' => e = .returned (.int .i64 1) ∧ w' = w := by
  go_enter Try.func22, Try.ntmps22
  go_wp2_with (first | (go_at_call 33; refine (grow_no h).mono ?_; rintro e w' ⟨rfl, hw⟩; subst w'))
  go_ret
  exact ⟨rfl, rfl⟩
theorem at_no (h : Un w p) (i : Int) : Calls Try.prog 14 #[.pointer p, .int .i64 i] w fun e w' => e = .returned (.tuple #[.int .i64 0, .bool false]) ∧ w' = w := by
  by_cases h0 : i < 0
  · go_enter Try.func14, Try.ntmps14
    go_wp2_with fail
    go_ret2
    exact ⟨rfl, rfl⟩
  · have h1 : 0 ≤ i := by omega
    go_enter Try.func14, Try.ntmps14
    go_wp2_with (first | (go_at_call 11; refine (len_no h).mono ?_; rintro e w' ⟨rfl, hw⟩; subst w'))
    go_ret2
    exact ⟨rfl, rfl⟩
theorem pop_no (h : Un w p) : Calls Try.prog 20 #[.pointer p] w fun e w' => e = .returned (.tuple #[.int .i64 0, .bool false]) ∧ w' = w := by
  go_enter Try.func20, Try.ntmps20
  go_wp2_with (first | (go_at_call 14; refine (at_no h 0).mono ?_; rintro e w' ⟨rfl, hw⟩; subst w'))
  go_ret2
  exact ⟨rfl, rfl⟩
theorem back_no (h : Un w p) : Calls Try.prog 21 #[.pointer p] w fun e w' => e = .returned (.tuple #[.int .i64 0, .bool false]) ∧ w' = w := by
  go_enter Try.func21, Try.ntmps21
  go_wp2_with (first
    | (go_at_call 11; refine (len_no h).mono ?_; rintro e w' ⟨rfl, hw⟩; subst w')
    | (go_at_call 14; refine (at_no h _).mono ?_; rintro e w' ⟨rfl, hw⟩; subst w'))
  go_ret2
  exact ⟨rfl, rfl⟩
theorem find_no (h : Un w p) (x : Int) : Calls Try.prog 17 #[.pointer p, .int .i64 x] w fun e w' => e = .returned (.int .i64 (-1)) ∧ w' = w := by
  go_enter Try.func17, Try.ntmps17
  go_wp2_with (first | (go_at_call 11; refine (len_no h).mono ?_; rintro e w' ⟨rfl, hw⟩; subst w'))
  go_loopw [8] (fun v wr => v = .int .i64 0 ∧ wr = w) (fun _ _ => 0)
  case atStart => exact ⟨rfl, rfl⟩
  case round =>
    obtain ⟨rfl, rfl⟩ := hrel
    go_wp2_with fail
    go_ret
    exact ⟨rfl, rfl⟩
theorem remove_no (h : Un w p) (x : Int) : Calls Try.prog 24 #[.pointer p, .int .i64 x] w fun e w' => e = .returned (.bool false) ∧ w' = w := by
  go_enter Try.func24, Try.ntmps24
  go_wp2_with (first | (go_at_call 17; refine (find_no h x).mono ?_; rintro e w' ⟨rfl, hw⟩; subst w'))
  go_ret
  exact ⟨rfl, rfl⟩
theorem copy_no (h : Un w p) : Calls Try.prog 23 #[.pointer p] w fun e w' => e = .returned (.pointer none) ∧ w' = w := by
  go_enter Try.func23, Try.ntmps23
  go_wp2_with (first | (go_at_call 30; refine (made_no h).mono ?_; rintro e w' ⟨rfl, hw⟩; subst w'))
  go_ret
  exact ⟨rfl, rfl⟩
theorem Un.src (h : Un w p) : Src w (.pointer p) [] := by
  refine ⟨fun W hW => len_no (h.below hW), fun W T hW hT hr => ?_, by simp⟩
  have h' := h.below hW
  go_enter Try.func34, Try.ntmps34
  go_wp2_with (first
    | (go_at_call 11; refine (len_no h').mono ?_; rintro e w' ⟨rfl, hw⟩; subst w'))
  refine bodyPost_ret (results_none rfl _ _ _) rfl ?_
  exact ⟨⟨_, rfl⟩, hr, But.refl _ _⟩
end

theorem RowI.nil {w : World} {base : Nat} {v : Value} (h : RowI w base v []) : ∃ a c, v = .slice a 0 c := by
  rcases h.2 with ⟨rfl, h0⟩ | ⟨g, cap, cur, rfl, _⟩
  · exact ⟨none, 0, rfl⟩
  · exact ⟨_, cap, rfl⟩

set_option maxRecDepth 100000 in
set_option maxHeartbeats 2000000 in
theorem none_any (x : Int) (w : World) :
    Calls Try.prog 6 #[.int .i64 x] w fun e w' => e = .returned (.bool true) ∧ Below w.heap.size w w' := by
  go_enter Try.func6, Try.ntmps6
  go_wp2_with fail
  have hB0 : Below w.heap.size w (w.alloc (.cells #[.slice none 0 0, .int .i64 0, .int .i64 0] 50)) := (Below.refl _ w).alloc (Nat.le_refl _) _
  have hc0 : (w.alloc (.cells #[.slice none 0 0, .int .i64 0, .int .i64 0] 50)).cell? ⟨w.heap.size, 0, none⟩ = some (.slice none 0 0) := by simp [go_sem]
  generalize w.alloc (.cells #[.slice none 0 0, .int .i64 0, .int .i64 0] 50) = W0 at hB0 hc0 ⊢
  go_loopw [15] (fun v wr => (v = .int .i64 0 ∨ v = .int .i64 1 ∨ v = .int .i64 2) ∧ Below w.heap.size w wr ∧ wr.cell? ⟨w.heap.size, 0, none⟩ = some (.slice none 0 0)) (fun v _ => 2 - (intOf v).toNat)
  case atStart => exact ⟨.inl rfl, hB0, hc0⟩
  case round =>
    obtain ⟨hj3, hB, hc⟩ := hrel
    clear hB0 hc0
    have i0 : ∀ W, (Instr.index 51 (.agg #[.pointer none, .pointer (some ⟨w.heap.size, 0, none⟩)]) (.int .i64 0)).run Try.prog W = .ok (.pointer none) W := fun _ => by kernel_rfl
    have i1 : ∀ W, (Instr.index 51 (.agg #[.pointer none, .pointer (some ⟨w.heap.size, 0, none⟩)]) (.int .i64 1)).run Try.prog W = .ok (.pointer (some ⟨w.heap.size, 0, none⟩)) W := fun _ => by kernel_rfl
    rcases hj3 with rfl | rfl | rfl
    · have hU : Un wr none := .inl rfl
      go_wp2_with (first
        | (go_at_call 20; refine (pop_no hU).mono ?_; rintro e w' ⟨rfl, hw⟩; subst w')
        | (go_at_call 21; refine (back_no hU).mono ?_; rintro e w' ⟨rfl, hw⟩; subst w')
        | (go_at_call 14; refine (at_no hU x).mono ?_; rintro e w' ⟨rfl, hw⟩; subst w')
        | (go_at_call 13; refine (lall_any _ _ _ hU.src).mono ?_; rintro e w2 ⟨v, rfl, hr, hb⟩; obtain ⟨sa, sc, rfl⟩ := hr.nil; have hU2 := hU.below hb; clear hU hr)
        | (go_at_call 19; refine (push_no hU2 x).mono ?_; rintro e w' ⟨rfl, hw⟩; subst w')
        | (go_at_call 22; refine (front_no hU2 x).mono ?_; rintro e w' ⟨rfl, hw⟩; subst w')
        | (go_at_call 11; refine (len_no hU2).mono ?_; rintro e w' ⟨rfl, hw⟩; subst w')
        | (go_at_call 12; refine (room_no hU2).mono ?_; rintro e w' ⟨rfl, hw⟩; subst w')
        | (go_at_call 17; refine (find_no hU2 x).mono ?_; rintro e w' ⟨rfl, hw⟩; subst w')
        | (go_at_call 24; refine (remove_no hU2 x).mono ?_; rintro e w' ⟨rfl, hw⟩; subst w')
        | (go_at_call 23; refine (copy_no hU2).mono ?_; rintro e w' ⟨rfl, hw⟩; subst w'))
      go_roundw
      case rel => exact ⟨.inr (.inl rfl), hB.trans (hb.mono hB.size), cell_on hb hc⟩
      case measure =>
        simp [intOf]
    · have hU : Un wr (some ⟨w.heap.size, 0, none⟩) := .inr ⟨_, rfl, hc⟩
      go_wp2_with (first
        | (go_at_call 20; refine (pop_no hU).mono ?_; rintro e w' ⟨rfl, hw⟩; subst w')
        | (go_at_call 21; refine (back_no hU).mono ?_; rintro e w' ⟨rfl, hw⟩; subst w')
        | (go_at_call 14; refine (at_no hU x).mono ?_; rintro e w' ⟨rfl, hw⟩; subst w')
        | (go_at_call 13; refine (lall_any _ _ _ hU.src).mono ?_; rintro e w2 ⟨v, rfl, hr, hb⟩; obtain ⟨sa, sc, rfl⟩ := hr.nil; have hU2 := hU.below hb; clear hU hr)
        | (go_at_call 19; refine (push_no hU2 x).mono ?_; rintro e w' ⟨rfl, hw⟩; subst w')
        | (go_at_call 22; refine (front_no hU2 x).mono ?_; rintro e w' ⟨rfl, hw⟩; subst w')
        | (go_at_call 11; refine (len_no hU2).mono ?_; rintro e w' ⟨rfl, hw⟩; subst w')
        | (go_at_call 12; refine (room_no hU2).mono ?_; rintro e w' ⟨rfl, hw⟩; subst w')
        | (go_at_call 17; refine (find_no hU2 x).mono ?_; rintro e w' ⟨rfl, hw⟩; subst w')
        | (go_at_call 24; refine (remove_no hU2 x).mono ?_; rintro e w' ⟨rfl, hw⟩; subst w')
        | (go_at_call 23; refine (copy_no hU2).mono ?_; rintro e w' ⟨rfl, hw⟩; subst w'))
      go_roundw
      case rel => exact ⟨.inr (.inr rfl), hB.trans (hb.mono hB.size), cell_on hb hc⟩
      case measure =>
        simp [intOf]
    · go_wp2_with (first
        | (go_at_call 7; refine (lives_any _).mono ?_; rintro e w' ⟨rfl, hb⟩))
      go_ret
      exact ⟨rfl, hB.trans (hb.mono hB.size)⟩

end Go.Proofs.Ytfobfkidpdlkeaa
