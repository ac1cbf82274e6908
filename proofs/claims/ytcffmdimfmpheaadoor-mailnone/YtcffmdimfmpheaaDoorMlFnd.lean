/- Find and Copy of a box. -/
import Derived.Test.YtcffmdimfmpheaaDoorMlFst
import Derived.Test.YtcffmdimfmpheaaDoorMlSml
import Derived.Test.YtcffmdimfmpheaaDoorCHold
namespace Go.Proofs.YtcffmdimfmpheaaDoor
open Go Go.RowKit
set_option linter.unusedSimpArgs false

section
variable {w : World} {B N : Nat} {T : List Nat} {xs : List Ev}
set_option maxHeartbeats 2000000 in
set_option maxRecDepth 100000 in
theorem find_any (h : BQ w B T N xs) (t : Int) :
    Calls Tryd.prog 17 #[.pointer (some ⟨B, 0, none⟩), .int .i64 t] w fun e w' => e = .returned (.tuple #[.agg (evA (fndV xs t)), .bool (fndB xs t)]) ∧ Below w.heap.size w w' := by
  have hln := h.len
  obtain ⟨v, rfl, hm, hl⟩ := h
  obtain ⟨sl, c, rfl, he, -, -⟩ := hm.shape
  have ba : Below w.heap.size w (w.alloc (.cells (evA z15) 33)) := (Below.refl _ _).alloc (Nat.le_refl _) _
  have hlB := hm.lt (x := B) bks_B
  have MA := made_any (hm.below ba)
  have c0 := (hm.below ba).c0
  have he1 := he.below ba
  have hat := at15_new w z15
  have hfz := fz_new w (evA z15) 33
  have hsz : w.heap.size < (w.alloc (.cells (evA z15) 33)).heap.size := by simp
  obtain ⟨x, HX⟩ : ∃ x, Hid (fndV xs t = x) := ⟨_, rfl⟩
  obtain ⟨y, HY⟩ : ∃ y, Hid (fndB xs t = y) := ⟨_, rfl⟩
  have FA : ∀ (W : World) (X : Nat), EV W sl xs → W.cell? ⟨X, 0, none⟩ = some (.int .i64 t) → Calls Tryd.prog 33 #[.slice sl xs.length c, .func (.func 43) #[] #[.pointer (some ⟨X, 0, none⟩)]] W fun e w' => e = .returned (.tuple #[.agg (evA x), .bool y]) ∧ Below W.heap.size W w' := fun W X h1 h2 => by
    have := first_any (c := c) h1 h2 (by omega)
    rw [HX.out, HY.out] at this
    exact this
  rw [HX.out, HY.out]
  rw [z15_A] at *
  go_enter Tryd.func17, Tryd.ntmps17
  go_upto_region 3 with (go_at_call 29; (with_reducible refine MA.mono ?_); rintro e w' ⟨rfl, hw⟩; subst w')
  generalize hW : (w.alloc (.cells #[.int .i64 0, .int .i64 0, .int .i64 0, .int .i64 0, .int .i64 0, .int .i64 0, .int .i64 0, .int .i64 0, .int .i64 0, .int .i64 0, .int .i64 0, .int .i64 0, .int .i64 0, .int .i64 0, .int .i64 0] 33)) = W at *
  clear hW MA
  have bd : Below W.heap.size W W.drew := below_drew W
  refine wp_region_held_drew (S := (fun w' : World => w'.cell? ⟨B, 0, none⟩ = some (.slice sl xs.length c))) (by kernel_rfl) (cell_on bd c0) (fun hHeld => ?_)
  refine anyH_take (i := 0) (v := ?_) (some 10) rfl rfl (by kernel_rfl) (fun _ _ _ h => h) (Or.inl ⟨by rfl, ?_⟩) (by assumption) ?_
  rotate_left
  · (intro w hSw; go_simp; all_goals with_reducible rfl)
  try simp only [Act.put, List.setIfInBounds_toArray, List.set_cons_zero, List.set_cons_succ]
  refine anyH_take (i := 1) (v := ?_) (some 11) rfl rfl (by kernel_rfl) (fun _ _ _ h => h) (Or.inl ⟨by rfl, ?_⟩) (by assumption) ?_
  rotate_left
  · (intro w hSw; go_simp; all_goals with_reducible rfl)
  try simp only [Act.put, List.setIfInBounds_toArray, List.set_cons_zero, List.set_cons_succ]
  refine anyH_take (i := 2) (v := ?_) (some 12) rfl rfl (by kernel_rfl) (fun _ _ _ h => h) (Or.inl ⟨by rfl, ?_⟩) (by assumption) ?_
  rotate_left
  · (intro w hSw; go_simp; all_goals with_reducible rfl)
  try simp only [Act.put, List.setIfInBounds_toArray, List.set_cons_zero, List.set_cons_succ]
  refine anyH_take (i := 3) (v := ?_) (some 13) rfl rfl (by kernel_rfl) (fun _ _ _ h => h) (Or.inl ⟨by rfl, ?_⟩) (by assumption) ?_
  rotate_left
  · (intro w hSw; go_simp; all_goals with_reducible rfl)
  try simp only [Act.put, List.setIfInBounds_toArray, List.set_cons_zero, List.set_cons_succ]
  refine anyH_take (i := 4) (v := ?_) (some 14) rfl rfl (by kernel_rfl) (fun _ _ _ h => h) (Or.inl ⟨by rfl, ?_⟩) (by assumption) ?_
  rotate_left
  · (intro w hSw; go_simp; all_goals with_reducible rfl)
  try simp only [Act.put, List.setIfInBounds_toArray, List.set_cons_zero, List.set_cons_succ]
  refine anyH_one (i := 5) (by kernel_rfl) rfl (fun K hK => ?_)
  go_simp
  go_at_call 34
  refine (thr_any t W.drew).mono ?_
  rintro r w2 ⟨rfl, hw2⟩
  have b2 : Below W.heap.size W w2 := by rw [hw2]; exact bd.alloc bd.size _
  have hX : w2.cell? ⟨W.drew.heap.size, 0, none⟩ = some (.int .i64 t) := by rw [hw2]; exact (Cel.new W.drew #[.int .i64 t] 3).cell (j := 0) rfl
  clear hw2
  refine hK.out _ _ (cell_on b2 c0) (fun hHeld => ?_)
  clear hK K
  try simp only [Act.put, List.setIfInBounds_toArray, List.set_cons_zero, List.set_cons_succ]
  refine anyH_one (i := 6) (by kernel_rfl) rfl (fun K hK => ?_)
  go_simp
  go_at_call 33
  refine (FA _ _ (he1.below b2) hX).mono ?_
  rintro r w3 ⟨rfl, b3⟩
  have b4 := below2 b2 b2.size b3
  refine hK.out _ _ (cell_on b4 c0) (fun hHeld => ?_)
  clear hK K
  try simp only [Act.put, List.setIfInBounds_toArray, List.set_cons_zero, List.set_cons_succ]
  refine anyH_take (i := 7) (v := ?_) (some 17) rfl rfl (by kernel_rfl) (fun _ _ _ h => h) (Or.inl ⟨by rfl, ?_⟩) (by assumption) ?_
  rotate_left
  · (intro w hSw; go_simp; all_goals with_reducible rfl)
  try simp only [Act.put, List.setIfInBounds_toArray, List.set_cons_zero, List.set_cons_succ]
  refine anyH_take (i := 8) (v := ?_) (some 18) rfl rfl (by kernel_rfl) (fun _ _ _ h => h) (Or.inl ⟨by rfl, ?_⟩) (by assumption) ?_
  rotate_left
  · (intro w hSw; go_simp; all_goals with_reducible rfl)
  try simp only [Act.put, List.setIfInBounds_toArray, List.set_cons_zero, List.set_cons_succ]
  have th3 : w3.there w.heap.size 0 15 := at15_there (hat.below b4) (fz_below b4 hsz hfz)
  have b5 : But [w.heap.size] w3 (w3.setCells w.heap.size 0 (c15 x)) := But.setCells (c15 x) 0 w3
  have hfin := World.rangeAt_setCells_same w3 w.heap.size 0 (c15 x) th3
  refine anyH_one (i := 9) (by kernel_rfl) rfl (fun K hK => ?_)
  rw [if_pos (by simp [Region.wanted])]
  refine wp_store_mid 33 (.tmp 4) (.tmp 17) rfl w.heap.size 0 (c15 x).toArray rfl rfl th3 size15 (c15_one _) ?_
  rw [show (c15 x).toArray.toList = c15 x from rfl]
  refine hK.out _ _ (b5.cell' (cell_on b4 c0) (by simp; omega)) (fun hHeld => ?_)
  clear hK K
  have bf : Below w.heap.size w (w3.setCells w.heap.size 0 (c15 x)) := (below2 ba ba.size b4).trans (b5.below (Nat.le_trans ba.size b4.size) (by simp))
  generalize w3.setCells w.heap.size 0 (c15 x) = wf at *
  try simp only [Act.put, List.setIfInBounds_toArray, List.set_cons_zero, List.set_cons_succ]
  refine anyH_take (i := 10) (v := ?_) (some 5) rfl rfl (by kernel_rfl) (fun _ _ _ h => h) (Or.inl ⟨by rfl, ?_⟩) (by assumption) ?_
  rotate_left
  · (intro w hSw; go_simp; all_goals with_reducible rfl)
  try simp only [Act.put, List.setIfInBounds_toArray, List.set_cons_zero, List.set_cons_succ]
  refine wpAnyH_done (by kernel_rfl) ?_ _
  go_wp2_with fail
  exact bodyPost_ret (results_ev2 rfl _ _ w.heap.size x y rfl rfl hfin) rfl ⟨rfl, bf⟩
set_option maxRecDepth 100000 in
theorem find_no {p : Option Addr} (h : UM w p) (t : Int) :
    Calls Tryd.prog 17 #[.pointer p, .int .i64 t] w fun e w' => e = .returned (.tuple #[.agg (evA z15), .bool false]) ∧ Below w.heap.size w w' := by
  have ba : Below w.heap.size w (w.alloc (.cells (evA z15) 33)) := (Below.refl _ _).alloc (Nat.le_refl _) _
  have MA := made_no (h.below ba)
  have th : (w.alloc (.cells (evA z15) 33)).there w.heap.size 0 15 := at15_there (at15_new w z15) (fz_new w _ _)
  have hfin := World.rangeAt_setCells_same (w.alloc (.cells (evA z15) 33)) w.heap.size 0 (c15 z15) th
  have bf : Below w.heap.size w ((w.alloc (.cells (evA z15) 33)).setCells w.heap.size 0 (c15 z15)) := ba.trans ((But.setCells (c15 z15) 0 _).below ba.size (by simp))
  rw [z15_A] at *
  go_enter Tryd.func17, Tryd.ntmps17
  go_upto_region 2 with (go_at_call 29; (with_reducible refine MA.mono ?_); rintro e w' ⟨rfl, hw⟩; subst w')
  refine wp_region_lit ?_
  iterate 3 go_step
  refine wpList_store_mid rfl 33 (.tmp 4) (.tmp 9) rfl w.heap.size 0 (c15 z15).toArray rfl rfl th size15 (c15_one _) ?_
  rw [show (c15 z15).toArray.toList = c15 z15 from rfl]
  generalize (w.alloc (.cells #[.int .i64 0, .int .i64 0, .int .i64 0, .int .i64 0, .int .i64 0, .int .i64 0, .int .i64 0, .int .i64 0, .int .i64 0, .int .i64 0, .int .i64 0, .int .i64 0, .int .i64 0, .int .i64 0, .int .i64 0] 33)).setCells w.heap.size 0 (c15 z15) = wf at *
  go_wp2_with fail
  exact bodyPost_ret (results_ev2 rfl _ _ w.heap.size z15 false rfl rfl hfin) rfl ⟨by rw [z15_A], bf⟩
set_option maxHeartbeats 2000000 in
theorem copy_any (h : BQ w B T N xs) :
    Calls Tryd.prog 22 #[.pointer (some ⟨B, 0, none⟩)] w fun e w' => ∃ B2 T2, e = .returned (.pointer (some ⟨B2, 0, none⟩)) ∧ BQ w' B2 T2 N xs ∧ Step [] w T2 w' := by
  have hln := h.len
  obtain ⟨v, rfl, hm, hl⟩ := h
  obtain ⟨sl, c, rfl, he, -, -⟩ := hm.shape
  have MA := made_any hm
  have c0 := hm.c0
  have c1 := hm.c1
  go_enter Tryd.func22, Tryd.ntmps22
  go_upto_region 3 with (go_at_call 29; (with_reducible refine MA.mono ?_); rintro e w' ⟨rfl, hw⟩; subst w')
  have bd : Below w.heap.size w w.drew := below_drew w
  refine wp_region_held_drew (S := (fun w' : World => w'.cell? ⟨B, 0, none⟩ = some (.slice sl xs.length c) ∧ w'.cell? ⟨B, 1, none⟩ = some (.int .i64 N))) (by kernel_rfl) ⟨cell_on bd c0, cell_on bd c1⟩ (fun hHeld => ?_)
  refine anyH_take (i := 0) (v := ?_) (some 6) rfl rfl (by kernel_rfl) (fun _ _ _ h => h) (Or.inl ⟨by rfl, ?_⟩) (by assumption) ?_
  rotate_left
  · (intro w hSw; obtain ⟨z0, z1⟩ := hSw; go_simp; all_goals with_reducible rfl)
  try simp only [Act.put, List.setIfInBounds_toArray, List.set_cons_zero, List.set_cons_succ]
  refine anyH_take (i := 1) (v := ?_) (some 7) rfl rfl (by kernel_rfl) (fun _ _ _ h => h) (Or.inl ⟨by rfl, ?_⟩) (by assumption) ?_
  rotate_left
  · (intro w hSw; obtain ⟨z0, z1⟩ := hSw; go_simp; all_goals with_reducible rfl)
  try simp only [Act.put, List.setIfInBounds_toArray, List.set_cons_zero, List.set_cons_succ]
  refine anyH_take (i := 2) (v := ?_) (some 8) rfl rfl (by kernel_rfl) (fun _ _ _ h => h) (Or.inl ⟨by rfl, ?_⟩) (by assumption) ?_
  rotate_left
  · (intro w hSw; obtain ⟨z0, z1⟩ := hSw; go_simp; all_goals with_reducible rfl)
  try simp only [Act.put, List.setIfInBounds_toArray, List.set_cons_zero, List.set_cons_succ]
  refine anyH_take (i := 3) (v := ?_) (some 9) rfl rfl (by kernel_rfl) (fun _ _ _ h => h) (Or.inl ⟨by rfl, ?_⟩) (by assumption) ?_
  rotate_left
  · (intro w hSw; obtain ⟨z0, z1⟩ := hSw; go_simp; all_goals with_reducible rfl)
  try simp only [Act.put, List.setIfInBounds_toArray, List.set_cons_zero, List.set_cons_succ]
  refine anyH_take (i := 5) (v := ?_) (some 11) rfl rfl (by kernel_rfl) (fun _ _ _ h => h) (Or.inl ⟨by rfl, ?_⟩) (by assumption) ?_
  rotate_left
  · (intro w hSw; obtain ⟨z0, z1⟩ := hSw; go_simp; all_goals with_reducible rfl)
  try simp only [Act.put, List.setIfInBounds_toArray, List.set_cons_zero, List.set_cons_succ]
  refine anyH_take (i := 6) (v := ?_) (some 12) rfl rfl (by kernel_rfl) (fun _ _ _ h => h) (Or.inl ⟨by rfl, ?_⟩) (by assumption) ?_
  rotate_left
  · (intro w hSw; obtain ⟨z0, z1⟩ := hSw; go_simp; all_goals with_reducible rfl)
  try simp only [Act.put, List.setIfInBounds_toArray, List.set_cons_zero, List.set_cons_succ]
  refine anyH_take (i := 7) (v := ?_) (some 13) rfl rfl (by kernel_rfl) (fun _ _ _ h => h) (Or.inl ⟨by rfl, ?_⟩) (by assumption) ?_
  rotate_left
  · (intro w hSw; obtain ⟨z0, z1⟩ := hSw; go_simp; all_goals with_reducible rfl)
  try simp only [Act.put, List.setIfInBounds_toArray, List.set_cons_zero, List.set_cons_succ]
  refine anyH_take (i := 8) (v := ?_) (some 14) rfl rfl (by kernel_rfl) (fun _ _ _ h => h) (Or.inl ⟨by rfl, ?_⟩) (by assumption) ?_
  rotate_left
  · (intro w hSw; obtain ⟨z0, z1⟩ := hSw; go_simp; all_goals with_reducible rfl)
  try simp only [Act.put, List.setIfInBounds_toArray, List.set_cons_zero, List.set_cons_succ]
  refine anyH_one (i := 4) (by kernel_rfl) rfl (fun K hK => ?_)
  go_simp
  go_at_call 30
  refine (lclone_any c (he.below bd) (by omega)).mono ?_
  rintro r w2 ⟨v2, rfl, ho2, b2⟩
  have b3 := below2 bd bd.size b2
  obtain ⟨a2, c2, rfl⟩ := ho2.at_ (n := xs.length) rfl
  refine hK.out _ _ ⟨cell_on b3 c0, cell_on b3 c1⟩ (fun hHeld => ?_)
  clear hK K
  try simp only [Act.put, List.setIfInBounds_toArray, List.set_cons_zero, List.set_cons_succ]
  refine anyH_take (i := 9) (v := ?_) (some 15) rfl rfl (by kernel_rfl) (fun _ _ _ h => h) (Or.inl ⟨by rfl, ?_⟩) (by assumption) ?_
  rotate_left
  · (intro w hSw; obtain ⟨z0, z1⟩ := hSw; go_simp; all_goals with_reducible rfl)
  try simp only [Act.put, List.setIfInBounds_toArray, List.set_cons_zero, List.set_cons_succ]
  refine anyH_one (i := 10) (by kernel_rfl) rfl (fun K hK => ?_)
  go_simp
  have b4 := b3.alloc b3.size (.cells #[.slice a2 xs.length c2, .int .i64 N] 58)
  refine hK.out _ _ ⟨cell_on b4 c0, cell_on b4 c1⟩ (fun hHeld => ?_)
  clear hK K
  try simp only [Act.put, List.setIfInBounds_toArray, List.set_cons_zero, List.set_cons_succ]
  refine anyH_take (i := 11) (v := ?_) (some 2) rfl rfl (by kernel_rfl) (fun _ _ _ h => h) (Or.inl ⟨by rfl, ?_⟩) (by assumption) ?_
  rotate_left
  · (intro w hSw; obtain ⟨z0, z1⟩ := hSw; go_simp; all_goals with_reducible rfl)
  try simp only [Act.put, List.setIfInBounds_toArray, List.set_cons_zero, List.set_cons_succ]
  refine wpAnyH_done (by kernel_rfl) ?_ _
  go_wp2_with fail
  go_ret
  have ho3 := ho2.below ((Below.refl _ w2).alloc (Nat.le_refl _) (.cells #[.slice a2 xs.length c2, .int .i64 N] 58))
  refine ⟨w2.heap.size, _, rfl, ⟨_, rfl, ⟨World.alloc_heap_new w2 _, ho3.lower (Nat.zero_le _), fun e => ?_, hm.n1, hm.n2⟩, hl⟩, .of_below b4, fun x hx => .inr ?_⟩
  · have := (ho2.lt e).2
    omega
  · rcases bks_out hx with rfl | hx
    · exact b3.size
    · have h1 := (ho2.lt hx).1
      have h2 := bd.size
      omega
end
end Go.Proofs.YtcffmdimfmpheaaDoor
