/- A table that no call made. -/
import Derived.Test.YtjgclehghnmhnaaDoorLfV
namespace Go.Proofs.YtjgclehghnmhnaaDoor
open Go Go.RowKit

/-- No call made it. -/
def UM (w : World) (p : Option Addr) : Prop := p = none ∨ ∃ Z, p = some ⟨Z, 0, none⟩ ∧ w.cell? ⟨Z, 0, none⟩ = some (.pointer none)
section
variable {w : World} {p : Option Addr}
theorem UM.below {w' : World} (h : UM w p) (hb : Below w.heap.size w w') : UM w' p := h.imp id fun ⟨Z, e, hc⟩ => ⟨Z, e, cell_on hb hc⟩
theorem made_no (h : UM w p) : Calls Tryd.prog 40 #[.pointer p] w fun e w' => e = .returned (.bool false) ∧ w' = w := by
  rcases h with rfl | ⟨Z, rfl, hc⟩
  · exact tmade_nil w
  · exact tmade_no hc
theorem make_no (h : UM w p) (s : Int) : Calls Tryd.prog 19 #[.pointer p, .int .i64 s] w fun e w' => e = .returned (.tuple #[.int .i64 0, .int .i64 1]) ∧ w' = w := by
  have hM := made_no h
  go_enter Tryd.func19, Tryd.ntmps19
  go_wp2_with (go_at_call 40; refine hM.mono ?_; rintro e w' ⟨rfl, hw⟩; subst w')
  go_ret2
  exact ⟨rfl, rfl⟩
theorem drop_no (h : UM w p) (s : Int) : Calls Tryd.prog 28 #[.pointer p, .int .i64 s] w fun e w' => e = .returned (.int .i64 0) ∧ w' = w := by
  have hM := made_no h
  go_enter Tryd.func28, Tryd.ntmps28
  go_wp2_with (go_at_call 40; refine hM.mono ?_; rintro e w' ⟨rfl, hw⟩; subst w')
  go_ret
  exact ⟨rfl, rfl⟩
theorem count_no (h : UM w p) (s t : Int) : Calls Tryd.prog 15 #[.pointer p, .int .i64 s, .int .i64 t] w fun e w' => e = .returned (.int .i64 0) ∧ w' = w := by
  have hM := made_no h
  go_enter Tryd.func15, Tryd.ntmps15
  go_wp2_with (go_at_call 40; refine hM.mono ?_; rintro e w' ⟨rfl, hw⟩; subst w')
  go_ret
  exact ⟨rfl, rfl⟩
theorem all_no (h : UM w p) : Calls Tryd.prog 14 #[.pointer p] w fun e w' => e = .returned (.slice none 0 0) ∧ w' = w := by
  have hM := made_no h
  go_enter Tryd.func14, Tryd.ntmps14
  go_wp2_with (go_at_call 40; refine hM.mono ?_; rintro e w' ⟨rfl, hw⟩; subst w')
  go_ret
  exact ⟨rfl, rfl⟩
theorem copy_no (h : UM w p) : Calls Tryd.prog 26 #[.pointer p] w fun e w' => e = .returned (.pointer none) ∧ w' = w := by
  have hM := made_no h
  go_enter Tryd.func26, Tryd.ntmps26
  go_wp2_with (go_at_call 40; refine hM.mono ?_; rintro e w' ⟨rfl, hw⟩; subst w')
  go_ret
  exact ⟨rfl, rfl⟩
set_option maxHeartbeats 1000000 in
set_option maxRecDepth 100000 in
theorem get_no (h : UM w p) (i : Int) : Calls Tryd.prog 17 #[.pointer p, .int .i64 i] w fun e w' => e = .returned (.tuple #[.agg (acA zA), .bool false]) ∧ Below w.heap.size w w' := by
  have ba : Below w.heap.size w (w.alloc (.cells (acA zA) 44)) := (Below.refl _ _).alloc (Nat.le_refl _) _
  have hM := made_no (h.below ba)
  have hz := Cel.new w (acA zA) 44
  have hth := hz.there
  have hfin := (hz.ac zA).range
  have hb2 : Below w.heap.size w ((w.alloc (.cells (acA zA) 44)).setCells w.heap.size 0 (c16 zA)) := ba.trans ((But.setCells (c16 zA) 0 _).below ba.size (by simp))
  clear hz ba h
  rw [zA_A] at *
  go_enter Tryd.func17, Tryd.ntmps17
  go_upto_region 2 with (go_at_call 40; refine hM.mono ?_; rintro e w' ⟨rfl, hw⟩; subst w')
  refine wp_region_lit ?_
  iterate 3 go_step
  refine wpList_store_mid rfl 44 (.tmp 4) (.tmp 11) rfl w.heap.size 0 (c16 zA).toArray rfl rfl hth size16L (c16_one _) ?_
  rw [show (c16 zA).toArray.toList = c16 zA from rfl]
  generalize World.setCells _ w.heap.size 0 (c16 zA) = wf at *
  go_wp2_with fail
  exact bodyPost_ret (results_acL rfl _ _ w.heap.size zA false rfl rfl hfin) rfl ⟨rfl, hb2⟩
set_option maxRecDepth 100000 in
theorem pass_no (h : UM w p) (i : Int) (s : Nat) (f : Nat) (cs : Array Value) : Calls Tryd.prog 45 #[.func (.func 46) #[.pointer p] #[], .int .i64 i, .int .u8 (s : Int), .func (.func f) #[] cs] w fun e w' => e = .returned (.int .i64 1) ∧ w' = w := by
  have hA := ask_made (s := s) (made_no h) i
  generalize (s : Int) = s' at *
  go_enter Tryd.func45, Tryd.ntmps45
  go_wp2_with (go_at_call 46; refine hA.mono ?_; rintro e w' ⟨rfl, hw⟩; subst w')
  go_ret
  exact ⟨rfl, rfl⟩
set_option maxRecDepth 100000 in
theorem run_no (h : UM w p) (i c : Int) : Calls Tryd.prog 20 #[.pointer p, .int .i64 i, .int .i64 c] w fun e w' => e = .returned (.int .i64 1) ∧ Below w.heap.size w w' := by
  have ba : Below w.heap.size w ((w.alloc (.cells #[.pointer p] 24)).alloc (.cells #[.int .i64 c] 3)) := ((Below.refl _ w).alloc (Nat.le_refl _) _).alloc (by simp) _
  have hP := fun cs => pass_no (h.below ba) i 1 47 cs
  clear h
  go_enter Tryd.func20, Tryd.ntmps20
  go_wp2_with (go_at_call 45; refine (hP _).mono ?_; rintro e w' ⟨rfl, hw⟩; subst w')
  go_ret
  exact ⟨rfl, ba⟩
set_option maxRecDepth 100000 in
theorem load_no (h : UM w p) (i c : Int) : Calls Tryd.prog 21 #[.pointer p, .int .i64 i, .int .i64 c] w fun e w' => e = .returned (.int .i64 1) ∧ Below w.heap.size w w' := by
  have ba : Below w.heap.size w (w.alloc (.cells #[.int .i64 c] 3)) := (Below.refl _ w).alloc (Nat.le_refl _) _
  have hP := fun cs => pass_no (h.below ba) i 2 49 cs
  clear h
  go_enter Tryd.func21, Tryd.ntmps21
  go_wp2_with (go_at_call 45; refine (hP _).mono ?_; rintro e w' ⟨rfl, hw⟩; subst w')
  go_ret
  exact ⟨rfl, ba⟩
set_option maxRecDepth 100000 in
theorem block_no (h : UM w p) (i : Int) : Calls Tryd.prog 22 #[.pointer p, .int .i64 i] w fun e w' => e = .returned (.int .i64 1) ∧ Below w.heap.size w w' := by
  have ba : Below w.heap.size w w := Below.refl _ w
  have hP := fun cs => pass_no (h.below ba) i 4 50 cs
  clear h
  go_enter Tryd.func22, Tryd.ntmps22
  go_wp2_with (go_at_call 45; refine (hP _).mono ?_; rintro e w' ⟨rfl, hw⟩; subst w')
  go_ret
  exact ⟨rfl, ba⟩
set_option maxRecDepth 100000 in
theorem pre_no (h : UM w p) (i : Int) (c : Cx) : Calls Tryd.prog 23 #[.pointer p, .int .i64 i, .agg (cxa c)] w fun e w' => e = .returned (.int .i64 1) ∧ Below w.heap.size w w' := by
  have ba : Below w.heap.size w (w.alloc (.cells (cxa c) 30)) := (Below.refl _ w).alloc (Nat.le_refl _) _
  have hP := fun cs => pass_no (h.below ba) i 8 51 cs
  clear h
  unfold cxa at *
  go_enter Tryd.func23, Tryd.ntmps23
  go_wp2_with (go_at_call 45; refine (hP _).mono ?_; rintro e w' ⟨rfl, hw⟩; subst w')
  go_ret
  exact ⟨rfl, ba⟩
set_option maxRecDepth 100000 in
theorem cache_no (h : UM w p) (i : Int) : Calls Tryd.prog 24 #[.pointer p, .int .i64 i] w fun e w' => e = .returned (.int .i64 1) ∧ Below w.heap.size w w' := by
  have ba : Below w.heap.size w w := Below.refl _ w
  have hP := fun cs => pass_no (h.below ba) i 16 52 cs
  clear h
  go_enter Tryd.func24, Tryd.ntmps24
  go_wp2_with (go_at_call 45; refine (hP _).mono ?_; rintro e w' ⟨rfl, hw⟩; subst w')
  go_ret
  exact ⟨rfl, ba⟩
set_option maxRecDepth 100000 in
theorem dis_no_ (h : UM w p) (i : Int) : Calls Tryd.prog 25 #[.pointer p, .int .i64 i] w fun e w' => e = .returned (.int .i64 1) ∧ Below w.heap.size w w' := by
  have ba : Below w.heap.size w (w.alloc (.cells #[.pointer p] 24)) := (Below.refl _ w).alloc (Nat.le_refl _) _
  have hP := fun cs => pass_no (h.below ba) i 32 53 cs
  clear h
  go_enter Tryd.func25, Tryd.ntmps25
  go_wp2_with (go_at_call 45; refine (hP _).mono ?_; rintro e w' ⟨rfl, hw⟩; subst w')
  go_ret
  exact ⟨rfl, ba⟩
end
end Go.Proofs.YtjgclehghnmhnaaDoor
