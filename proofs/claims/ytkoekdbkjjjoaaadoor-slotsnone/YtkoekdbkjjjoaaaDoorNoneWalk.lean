/- Slots that no call made; the walk of SlotsNone. -/
import Derived.Test.YtkoekdbkjjjoaaaDoorNew
namespace Go.Proofs.YtkoekdbkjjjoaaaDoor
open Go.RowKit

/-- Slots that no call made: nil, or a zero value. -/
def Un (w : World) (v : Value) : Prop := v = .pointer none ∨ ∃ Z, v = .pointer (some ⟨Z, 0, none⟩) ∧ w.cell? ⟨Z, 64, none⟩ = some (.slice none 0 0)

section
variable {w w' : World} {v : Value}
theorem Un.drawn (h : Un w v) (k : Drawn w w') : Un w' v := by
  obtain ⟨m, rfl⟩ := k
  exact h

theorem umade_any (h : Un w v) : Calls Tryd.prog 29 #[v] w fun e w' => e = .returned (.bool false) ∧ w' = w := by
  rcases h with rfl | ⟨Z, rfl, hc⟩
  · go_enter Tryd.func29, Tryd.ntmps29
    go_wp2_with fail
    go_ret
    exact ⟨rfl, rfl⟩
  · go_enter Tryd.func29, Tryd.ntmps29
    go_wp2_with fail
    go_ret
    exact ⟨rfl, rfl⟩

theorem utake_any (h : Un w v) : Calls Tryd.prog 11 #[v] w fun e w' => e = .returned (.tuple #[.int .i64 0, .int .i64 1]) ∧ w' = w := by
  have hM := umade_any h
  go_enter Tryd.func11, Tryd.ntmps11
  go_wp2_with (go_at_call 29; refine hM.mono ?_; rintro e w' ⟨rfl, hw⟩; subst w')
  go_ret2
  exact ⟨rfl, rfl⟩
theorem ufree_any (h : Un w v) (id : Int) : Calls Tryd.prog 13 #[v, .int .i64 id] w fun e w' => e = .returned (.int .i64 1) ∧ w' = w := by
  have hM := umade_any h
  go_enter Tryd.func13, Tryd.ntmps13
  go_wp2_with (go_at_call 29; refine hM.mono ?_; rintro e w' ⟨rfl, hw⟩; subst w')
  go_ret
  exact ⟨rfl, rfl⟩
theorem uknown_any (h : Un w v) (id : Int) (h0 : -9223372036854775808 ≤ id) (h1 : id ≤ 9223372036854775807) : Calls Tryd.prog 31 #[v, .int .i64 id] w fun e w' => e = .returned (.bool false) ∧ Drawn w w' := by
  have hM := fun W (k : Drawn w W) => umade_any (h.drawn k)
  have hI := index_any id h0 h1
  go_enter Tryd.func31, Tryd.ntmps31
  go_wp2_with (go_at_call 23; refine (hI _).mono ?_; rintro e w' ⟨rfl, hw⟩; subst w')
  go_quiet (first | (go_at_call 29; exact Calls.quiet_of_same (hM _ ⟨_, rfl⟩)))
  go_wp2_with fail
  go_ret
  exact ⟨rfl, _, rfl⟩
theorem ulive_any (h : Un w v) (id : Int) (h0 : -9223372036854775808 ≤ id) (h1 : id ≤ 9223372036854775807) : Calls Tryd.prog 15 #[v, .int .i64 id] w fun e w' => e = .returned (.bool false) ∧ Drawn w w' := by
  have hK := fun W (k : Drawn w W) => uknown_any (h.drawn k) id h0 h1
  go_enter Tryd.func15, Tryd.ntmps15
  go_wp2_with fail
  go_quiet (first | (go_at_call 31; exact Calls.quiet_of (hK _ ⟨_, rfl⟩)))
  go_wp2_with fail
  go_ret
  exact ⟨rfl, _, rfl⟩
theorem ulen_any (h : Un w v) : Calls Tryd.prog 17 #[v] w fun e w' => e = .returned (.int .i64 0) ∧ w' = w := by
  have hM := umade_any h
  go_enter Tryd.func17, Tryd.ntmps17
  go_wp2_with (go_at_call 29; refine hM.mono ?_; rintro e w' ⟨rfl, hw⟩; subst w')
  go_ret
  exact ⟨rfl, rfl⟩
theorem uall_any (h : Un w v) : Calls Tryd.prog 20 #[v] w fun e w' => e = .returned (.slice none 0 0) ∧ w' = w := by
  have hM := umade_any h
  go_enter Tryd.func20, Tryd.ntmps20
  go_wp2_with (go_at_call 29; refine hM.mono ?_; rintro e w' ⟨rfl, hw⟩; subst w')
  go_ret
  exact ⟨rfl, rfl⟩
theorem ucopy_any (h : Un w v) : Calls Tryd.prog 27 #[v] w fun e w' => e = .returned (.pointer none) ∧ w' = w := by
  have hM := umade_any h
  go_enter Tryd.func27, Tryd.ntmps27
  go_wp2_with (go_at_call 29; refine hM.mono ?_; rintro e w' ⟨rfl, hw⟩; subst w')
  go_ret
  exact ⟨rfl, rfl⟩
end

theorem info24 : (Tryd.prog.info? 24).map (·.size) = some 1 := by kernel_rfl
theorem index54 (p q : Value) (w : World) : (Instr.index 54 (.agg #[p, q]) (.int .i64 0)).run Tryd.prog w = .ok p w ∧ (Instr.index 54 (.agg #[p, q]) (.int .i64 1)).run Tryd.prog w = .ok q w := by
  obtain ⟨i, hi, hs⟩ := Option.map_eq_some_iff.1 info24
  constructor
  · simp [Instr.index, asIntOf, run_underlying Tryd.underlying54, part, isAgg, run_underlying Tryd.underlying24, sizeOf, typeInfo, hi, hs]
  · simp [Instr.index, asIntOf, run_underlying Tryd.underlying54, part, isAgg, run_underlying Tryd.underlying24, sizeOf, typeInfo, hi, hs]

set_option maxHeartbeats 2000000 in
theorem none_any (id : Int) (h0 : -9223372036854775808 ≤ id) (h1 : id ≤ 9223372036854775807) (w : World) (hT : Tab w) :
    Calls Tryd.prog 7 #[.int .i64 id] w fun e w' => e = .returned (.bool true) ∧ Below w.heap.size w w' := by
  have hz := zero53
  have hs := size53
  have hc : z53[64]? = some (.slice none 0 0) := rfl
  generalize z53 = zz at hz hs hc
  go_enter Tryd.func7, Tryd.ntmps7
  go_wp2_with fail
  have hB : Below w.heap.size w (w.alloc (.cells zz 53)) := (Below.refl _ w).alloc (Nat.le_refl _) _
  have hZ : (w.alloc (.cells zz 53)).cell? ⟨w.heap.size, 64, none⟩ = some (.slice none 0 0) := by
    have e := heap_alloc_new w (.cells zz 53)
    unfold World.cell?
    rw [e]
    simpa using hc
  have hT0 := hT.below hB (Nat.le_refl _)
  generalize (w.alloc (.cells zz 53)) = w0 at hB hZ hT0 ⊢
  clear hz hs hc
  go_loopw [9] (fun q wr => (q = .int .i64 0 ∨ q = .int .i64 1 ∨ q = .int .i64 2) ∧ Drawn w0 wr) (fun q _ => 2 - (intOf q).toNat)
  case atStart => exact ⟨.inl rfl, Drawn.refl _⟩
  case round =>
    obtain ⟨rfl | rfl | rfl, hd⟩ := hrel
    · have i0 := (index54 (.pointer none) (.pointer (some ⟨w.heap.size, 0, none⟩)) wr).1
      have hU : Un wr (.pointer none) := .inl rfl
      go_wp2_with (first
        | (go_at_call 11; refine (utake_any hU).mono ?_; rintro e w' ⟨rfl, hw⟩; subst w')
        | (go_at_call 13; refine (ufree_any hU id).mono ?_; rintro e w' ⟨rfl, hw⟩; subst w')
        | (go_at_call 15; refine (ulive_any hU id h0 h1).mono ?_; rintro e w2 ⟨rfl, hd2⟩; have hU2 := hU.drawn hd2; clear hU; replace hd2 := hd.trans hd2)
        | (go_at_call 17; refine (ulen_any hU2).mono ?_; rintro e w' ⟨rfl, hw⟩; subst w')
        | (go_at_call 20; refine (uall_any hU2).mono ?_; rintro e w' ⟨rfl, hw⟩; subst w')
        | (go_at_call 27; refine (ucopy_any hU2).mono ?_; rintro e w' ⟨rfl, hw⟩; subst w'))
      go_roundw
      case rel => exact ⟨.inr (.inl rfl), hd2⟩
      case measure => simp [intOf]
    · have i0 := (index54 (.pointer none) (.pointer (some ⟨w.heap.size, 0, none⟩)) wr).2
      have hU : Un wr (.pointer (some ⟨w.heap.size, 0, none⟩)) := Un.drawn (.inr ⟨_, rfl, hZ⟩) hd
      go_wp2_with (first
        | (go_at_call 11; refine (utake_any hU).mono ?_; rintro e w' ⟨rfl, hw⟩; subst w')
        | (go_at_call 13; refine (ufree_any hU id).mono ?_; rintro e w' ⟨rfl, hw⟩; subst w')
        | (go_at_call 15; refine (ulive_any hU id h0 h1).mono ?_; rintro e w2 ⟨rfl, hd2⟩; have hU2 := hU.drawn hd2; clear hU; replace hd2 := hd.trans hd2)
        | (go_at_call 17; refine (ulen_any hU2).mono ?_; rintro e w' ⟨rfl, hw⟩; subst w')
        | (go_at_call 20; refine (uall_any hU2).mono ?_; rintro e w' ⟨rfl, hw⟩; subst w')
        | (go_at_call 27; refine (ucopy_any hU2).mono ?_; rintro e w' ⟨rfl, hw⟩; subst w'))
      go_roundw
      case rel => exact ⟨.inr (.inr rfl), hd2⟩
      case measure => simp [intOf]
    · go_wp2_with (first
        | (go_at_call 8; refine (lives_any _ (hd.tab hT0)).mono ?_; rintro e w' ⟨rfl, hb⟩))
      go_ret
      refine ⟨rfl, (hB.trans (hd.but (S := []) |>.below hB.size (by simp))).trans (hb.mono ?_)⟩
      obtain ⟨m, rfl⟩ := hd
      exact hB.size

end Go.Proofs.YtkoekdbkjjjoaaaDoor
