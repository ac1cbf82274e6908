/- The contract of the reference's Copy. -/
import Derived.Test.YtdhgffnlocgfkaaRefF
import Derived.Deep.CutRange
import Derived.Deep.RegionWith
namespace Go.Proofs.Ytdhgffnlocgfkaa
open Go.RowKit
set_option linter.unusedSimpArgs false

section
variable {w : World} {M N la dn : Nat} {R : List Nat} {xs : List Rq}

set_option maxHeartbeats 4000000 in
theorem rcopy_any (h : RQ w M R N la dn xs) (hl : xs.length ≤ 4096) :
    Calls Try.prog 19 #[.pointer (some ⟨M, 0, none⟩)] w fun e w' => ∃ M2 R2, e = .returned (.pointer (some ⟨M2, 0, none⟩)) ∧ RQ w' M2 R2 N la dn xs ∧ Step [] w R2 w' := by
  obtain ⟨v, rfl, hm⟩ := h
  obtain ⟨sl, c, rfl, hrv, hlc, -⟩ := hm.shape
  have hmx : Try.prog.follows .mixedOrders = true := by kernel_rfl
  have OW1 := (ow_none w 60).drew
  have B1 : But [] w (w.alloc (.cells #[] 60)).drew := ((But.refl [] w).alloc _).drew
  have KS : ∀ w1, But [] w w1 → w1.cell? ⟨M, 0, none⟩ = some (.int .i64 N) ∧ w1.cell? ⟨M, 1, none⟩ = some (.slice sl xs.length c) ∧ w1.cell? ⟨M, 2, none⟩ = some (.int .i64 la) ∧ w1.cell? ⟨M, 3, none⟩ = some (.int .i64 dn) := fun w1 hb => ⟨hb.cell hm.c0, hb.cell hm.c1, hb.cell hm.c2, hb.cell hm.c3⟩
  go_enter Try.func19, Try.ntmps19
  go_upto_region 1 with fail
  refine wp_region_K 20 (fun w' => w'.cell? ⟨M, 0, none⟩ = some (.int .i64 N) ∧ w'.cell? ⟨M, 1, none⟩ = some (.slice sl xs.length c) ∧ w'.cell? ⟨M, 2, none⟩ = some (.int .i64 la) ∧ w'.cell? ⟨M, 3, none⟩ = some (.int .i64 dn)) hmx (by kernel_rfl) (KS _ (But.refl [] w).drew) (fun hHeld hdep => ?_)
  refine wpAnyK_take (i := 0) (v := ?_) (some 3) rfl rfl hdep (by kernel_rfl) (fun _ _ _ h => h) (Or.inl ⟨by rfl, ?_⟩) hHeld ?_
  rotate_left
  · (intro w hSw; go_simp; all_goals with_reducible rfl)
  try simp only [Act.put, List.setIfInBounds_toArray, List.set_cons_zero, List.set_cons_succ]
  refine wpAnyK_take (i := 1) (v := ?_) (some 4) rfl rfl hdep (by kernel_rfl) (fun _ _ _ h => h) (Or.inl ⟨by rfl, ?_⟩) hHeld ?_
  rotate_left
  · (intro w hSw; go_simp; all_goals with_reducible rfl)
  try simp only [Act.put, List.setIfInBounds_toArray, List.set_cons_zero, List.set_cons_succ]
  refine wpAnyK_take (i := 2) (v := ?_) (some 5) rfl rfl hdep (by kernel_rfl) (fun _ _ _ h => h) (Or.inl ⟨by rfl, ?_⟩) hHeld ?_
  rotate_left
  · (intro w hSw; go_simp; all_goals with_reducible rfl)
  try simp only [Act.put, List.setIfInBounds_toArray, List.set_cons_zero, List.set_cons_succ]
  refine wpAnyK_take (i := 3) (v := ?_) (some 6) rfl rfl hdep (by kernel_rfl) (fun _ _ _ h => h) (Or.inl ⟨by rfl, ?_⟩) hHeld ?_
  rotate_left
  · (intro w hSw; go_simp; all_goals with_reducible rfl)
  try simp only [Act.put, List.setIfInBounds_toArray, List.set_cons_zero, List.set_cons_succ]
  refine wpAnyK_take (i := 5) (v := ?_) (some 8) rfl rfl hdep (by kernel_rfl) (fun _ _ _ h => h) (Or.inl ⟨by rfl, ?_⟩) hHeld ?_
  rotate_left
  · (intro w hSw; go_simp; all_goals with_reducible rfl)
  try simp only [Act.put, List.setIfInBounds_toArray, List.set_cons_zero, List.set_cons_succ]
  refine wpAnyK_take (i := 6) (v := ?_) (some 9) rfl rfl hdep (by kernel_rfl) (fun _ _ _ h => h) (Or.inl ⟨by rfl, ?_⟩) hHeld ?_
  rotate_left
  · (intro w hSw; go_simp; all_goals with_reducible rfl)
  try simp only [Act.put, List.setIfInBounds_toArray, List.set_cons_zero, List.set_cons_succ]
  refine wpAnyK_take (i := 7) (v := ?_) (some 10) rfl rfl hdep (by kernel_rfl) (fun _ _ _ h => h) (Or.inl ⟨by rfl, ?_⟩) hHeld ?_
  rotate_left
  · (intro w hSw; go_simp; all_goals with_reducible rfl)
  try simp only [Act.put, List.setIfInBounds_toArray, List.set_cons_zero, List.set_cons_succ]
  refine wpAnyK_take (i := 8) (v := ?_) (some 11) rfl rfl hdep (by kernel_rfl) (fun _ _ _ h => h) (Or.inl ⟨by rfl, ?_⟩) hHeld ?_
  rotate_left
  · (intro w hSw; go_simp; all_goals with_reducible rfl)
  try simp only [Act.put, List.setIfInBounds_toArray, List.set_cons_zero, List.set_cons_succ]
  refine wpAnyK_take (i := 10) (v := ?_) (some 13) rfl rfl hdep (by kernel_rfl) (fun _ _ _ h => h) (Or.inl ⟨by rfl, ?_⟩) hHeld ?_
  rotate_left
  · (intro w hSw; go_simp; all_goals with_reducible rfl)
  try simp only [Act.put, List.setIfInBounds_toArray, List.set_cons_zero, List.set_cons_succ]
  refine wpAnyK_take (i := 11) (v := ?_) (some 14) rfl rfl hdep (by kernel_rfl) (fun _ _ _ h => h) (Or.inl ⟨by rfl, ?_⟩) hHeld ?_
  rotate_left
  · (intro w hSw; go_simp; all_goals with_reducible rfl)
  try simp only [Act.put, List.setIfInBounds_toArray, List.set_cons_zero, List.set_cons_succ]
  refine wpAnyK_take (i := 12) (v := ?_) (some 15) rfl rfl hdep (by kernel_rfl) (fun _ _ _ h => h) (Or.inl ⟨by rfl, ?_⟩) hHeld ?_
  rotate_left
  · (intro w hSw; go_simp; all_goals with_reducible rfl)
  try simp only [Act.put, List.setIfInBounds_toArray, List.set_cons_zero, List.set_cons_succ]
  refine wpAnyK_take (i := 13) (v := ?_) (some 16) rfl rfl hdep (by kernel_rfl) (fun _ _ _ h => h) (Or.inl ⟨by rfl, ?_⟩) hHeld ?_
  rotate_left
  · (intro w hSw; go_simp; all_goals with_reducible rfl)
  try simp only [Act.put, List.setIfInBounds_toArray, List.set_cons_zero, List.set_cons_succ]
  refine wpAnyK_take (i := 14) (v := ?_) (some 17) rfl rfl hdep (by kernel_rfl) (fun _ _ _ h => h) (Or.inl ⟨by rfl, ?_⟩) hHeld ?_
  rotate_left
  · (intro w hSw; go_simp; all_goals with_reducible rfl)
  try simp only [Act.put, List.setIfInBounds_toArray, List.set_cons_zero, List.set_cons_succ]
  refine wpAnyK_take (i := 15) (v := ?_) (some 18) rfl rfl hdep (by kernel_rfl) (fun _ _ _ h => h) (Or.inl ⟨by rfl, ?_⟩) hHeld ?_
  rotate_left
  · (intro w hSw; go_simp; all_goals with_reducible rfl)
  try simp only [Act.put, List.setIfInBounds_toArray, List.set_cons_zero, List.set_cons_succ]
  refine wpAnyK_take (i := 16) (v := ?_) (some 19) rfl rfl hdep (by kernel_rfl) (fun _ _ _ h => h) (Or.inl ⟨by rfl, ?_⟩) hHeld ?_
  rotate_left
  · (intro w hSw; go_simp; all_goals with_reducible rfl)
  try simp only [Act.put, List.setIfInBounds_toArray, List.set_cons_zero, List.set_cons_succ]
  refine wpAnyK_take (i := 17) (v := ?_) (some 20) rfl rfl hdep (by kernel_rfl) (fun _ _ _ h => h) (Or.inl ⟨by rfl, ?_⟩) hHeld ?_
  rotate_left
  · (intro w hSw; go_simp; all_goals with_reducible rfl)
  try simp only [Act.put, List.setIfInBounds_toArray, List.set_cons_zero, List.set_cons_succ]
  refine wpAnyK_one (i := 4) (by kernel_rfl) rfl (fun K hK => ?_)
  go_simp
  refine hK.out _ _ (fun _ => KS _ B1) ?_
  clear hK K
  try simp only [Act.put, List.setIfInBounds_toArray, List.set_cons_zero, List.set_cons_succ]
  refine wpAnyK_one (i := 9) (by kernel_rfl) rfl (fun K hK => ?_)
  refine step_app60 rfl (.tmp 7) (.tmp 11) rfl w.heap.size _ [] rfl OW1 _ _ _ xs rfl rfl (hrv.but B1) (by simp; omega) (by simp [World.drew] <;> omega) ?_
  intro v2 w2 ho2 hg2 _
  rw [List.nil_append] at ho2
  have hb2 : But [] w w2 := B1.grown hg2 (fun k e => .inr (by cases e; simp))
  obtain ⟨sa2, sc2, rfl⟩ := ho2.at_ (n := xs.length) rfl
  refine hK.out _ _ (fun _ => KS _ hb2) ?_
  clear hK K
  try simp only [Act.put, List.setIfInBounds_toArray, List.set_cons_zero, List.set_cons_succ]
  refine wpAnyK_take (i := 18) (v := ?_) (some 21) rfl rfl hdep (by kernel_rfl) (fun _ _ _ h => h) (Or.inl ⟨by rfl, ?_⟩) (KS _ hb2) ?_
  rotate_left
  · (intro w hSw; go_simp; all_goals with_reducible rfl)
  try simp only [Act.put, List.setIfInBounds_toArray, List.set_cons_zero, List.set_cons_succ]
  refine wpAnyK_one (i := 19) (by kernel_rfl) rfl (fun K hK => ?_)
  go_simp
  refine hK.out _ _ (fun _ => KS _ (hb2.alloc _)) ?_
  clear hK K
  try simp only [Act.put, List.setIfInBounds_toArray, List.set_cons_zero, List.set_cons_succ]
  refine wpAnyK_one (i := 20) (by kernel_rfl) rfl (fun K hK => ?_)
  go_simp
  refine hK.out _ _ (fun h => absurd rfl h) ?_
  clear hK K
  try simp only [Act.put, List.setIfInBounds_toArray, List.set_cons_zero, List.set_cons_succ]
  refine wpAnyK_done (by kernel_rfl) ?_
  go_wp2_with fail
  go_ret
  have hs := hb2.size
  refine ⟨w2.heap.size, bks w2.heap.size (.slice sa2 xs.length sc2), rfl, ⟨_, rfl, ⟨heap_alloc_new w2 _, (ho2.lower (Nat.zero_le _)).alloc _, fun e => ?_⟩⟩, hb2.alloc _, fun x hx => .inr ?_⟩
  · have := (ho2.lt e).2
    omega
  · rcases bks_out hx with rfl | hx
    · exact hs
    · exact (ho2.lt hx).1
end
end Go.Proofs.Ytdhgffnlocgfkaa
