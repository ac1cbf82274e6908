/- Batch of nothing: the program's. -/
import Derived.Test.YtcffmdimfmpheaaDoorEBatch
namespace Go.Proofs.YtcffmdimfmpheaaDoor
open Go Go.RowKit

set_option maxHeartbeats 2000000 in
set_option maxRecDepth 100000 in
theorem batch_nil (w : World) (a : Option Addr) (c : Nat) (m : Int) :
    Calls Tryd.prog 36 #[.slice a 0 c, .int .i64 m] w fun e w' => ∃ v1 v2, e = .returned (.tuple #[v1, v2]) ∧ OwE w' w.heap.size v1 [] ∧ OwE w' w.heap.size v2 [] ∧ Below w.heap.size w w' := by
  have HC : ∀ (W : World) (a : Option Addr) (c : Nat), Calls Tryd.prog 48 #[.slice a 0 c] W fun e w' => ∃ v, e = .returned v ∧ OwE w' W.heap.size v [] ∧ Below W.heap.size W w' := fun W a c => eclone_any (xs := []) c (EV.nil W a) (by simp)
  have IX : ∀ W : World, Calls Tryd.prog 46 #[.slice a 0 c, .func (.func 47) #[] #[]] W fun e w' => ∃ z, e = .returned (.int .i64 z) ∧ Idx [] z ∧ Below W.heap.size W w' := fun W => idx_any (xs := []) (EV.nil W a) (by simp)
  cases a with
  | none =>
    go_enter Tryd.func36, Tryd.ntmps36
    go_upto_region 1 with fail
    go_cut [6] from 8 to 28 (fun s6 wx => s6 = .int .i64 0 ∧ wx = w)
    case first =>
      go_wp2_with fail
      all_goals go_meet
      all_goals exact ⟨by first | rfl | (congr 1; omega), rfl⟩
    case rest =>
      obtain ⟨rfl, hwc⟩ := hcut
      rw [hwc]
      clear hwc
      go_upto_region 3 with (go_at_call 46; (with_reducible refine (IX _).mono ?_); rintro e w1 ⟨z, rfl, hz, b1⟩)
      obtain rfl : z = -1 := by
        rcases hz with ⟨h, _⟩ | ⟨j, _, h, _⟩
        · exact h
        · simp at h
      clear hz
      go_upto_region 5 with fail
      refine wp_region_held_drew (S := (fun w' => Below w1.drew.heap.size w1.drew w')) (by kernel_rfl) (Below.refl _ _) (fun hHeld => ?_)
      have bd := b1.drew
      clear b1
      generalize w1.drew = W at *
      refine anyH_take (i := 0) (v := ?_) (some 21) rfl rfl (by kernel_rfl) (fun _ _ _ h => h) (Or.inl ⟨by rfl, ?_⟩) (by assumption) ?_
      rotate_left
      · (intro w hSw; go_simp; all_goals with_reducible rfl)
      try simp only [Act.put, List.setIfInBounds_toArray, List.set_cons_zero, List.set_cons_succ]
      refine anyH_take (i := 1) (v := ?_) (some 22) rfl rfl (by kernel_rfl) (fun _ _ _ h => h) (Or.inl ⟨by rfl, ?_⟩) (by assumption) ?_
      rotate_left
      · (intro w hSw; go_simp; all_goals with_reducible rfl)
      try simp only [Act.put, List.setIfInBounds_toArray, List.set_cons_zero, List.set_cons_succ]
      refine anyH_take (i := 2) (v := ?_) (some 23) rfl rfl (by kernel_rfl) (fun _ _ _ h => h) (Or.inl ⟨by rfl, ?_⟩) (by assumption) ?_
      rotate_left
      · (intro w hSw; go_simp; all_goals with_reducible rfl)
      try simp only [Act.put, List.setIfInBounds_toArray, List.set_cons_zero, List.set_cons_succ]
      refine anyH_take (i := 4) (v := ?_) (some 25) rfl rfl (by kernel_rfl) (fun _ _ _ h => h) (Or.inl ⟨by rfl, ?_⟩) (by assumption) ?_
      rotate_left
      · (intro w hSw; go_simp; all_goals with_reducible rfl)
      try simp only [Act.put, List.setIfInBounds_toArray, List.set_cons_zero, List.set_cons_succ]
      refine anyH_take (i := 5) (v := ?_) (some 26) rfl rfl (by kernel_rfl) (fun _ _ _ h => h) (Or.inl ⟨by rfl, ?_⟩) (by assumption) ?_
      rotate_left
      · (intro w hSw; go_simp; all_goals with_reducible rfl)
      try simp only [Act.put, List.setIfInBounds_toArray, List.set_cons_zero, List.set_cons_succ]
      refine anyH_take (i := 6) (v := ?_) (some 27) rfl rfl (by kernel_rfl) (fun _ _ _ h => h) (Or.inl ⟨by rfl, ?_⟩) (by assumption) ?_
      rotate_left
      · (intro w hSw; go_simp; all_goals with_reducible rfl)
      try simp only [Act.put, List.setIfInBounds_toArray, List.set_cons_zero, List.set_cons_succ]
      refine anyH_one (i := 3) (by kernel_rfl) rfl (fun K hK => ?_)
      go_simp
      go_at_call 48
      refine (HC W _ _).mono ?_
      rintro e w3 ⟨v3, rfl, ho3, hb3⟩
      refine hK.out _ _ (hb3) (fun hHeld => ?_)
      clear hK K
      try simp only [Act.put, List.setIfInBounds_toArray, List.set_cons_zero, List.set_cons_succ]
      refine anyH_one (i := 7) (by kernel_rfl) rfl (fun K hK => ?_)
      go_simp
      go_at_call 48
      refine (HC w3 _ _).mono ?_
      rintro e w4 ⟨v4, rfl, ho4, hb4⟩
      refine hK.out _ _ (hb3.trans (hb4.mono hb3.size)) (fun hHeld => ?_)
      clear hK K
      try simp only [Act.put, List.setIfInBounds_toArray, List.set_cons_zero, List.set_cons_succ]
      refine anyH_take (i := 8) (v := ?_) (some 4) rfl rfl (by kernel_rfl) (fun _ _ _ h => h) (Or.inl ⟨by rfl, ?_⟩) (by assumption) ?_
      rotate_left
      · (intro w hSw; go_simp; all_goals with_reducible rfl)
      try simp only [Act.put, List.setIfInBounds_toArray, List.set_cons_zero, List.set_cons_succ]
      refine anyH_take (i := 9) (v := ?_) (some 5) rfl rfl (by kernel_rfl) (fun _ _ _ h => h) (Or.inl ⟨by rfl, ?_⟩) (by assumption) ?_
      rotate_left
      · (intro w hSw; go_simp; all_goals with_reducible rfl)
      try simp only [Act.put, List.setIfInBounds_toArray, List.set_cons_zero, List.set_cons_succ]
      refine wpAnyH_done (by kernel_rfl) ?_ _
      have b3 := bd.trans (hb3.mono bd.size)
      go_wp2_with fail
      all_goals go_ret2
      all_goals exact ⟨_, _, rfl, (ho3.below hb4).lower bd.size, ho4.lower b3.size, b3.trans (hb4.mono b3.size)⟩
  | some ad =>
    go_enter Tryd.func36, Tryd.ntmps36
    go_upto_region 1 with fail
    go_cut [6] from 8 to 28 (fun s6 wx => s6 = .int .i64 0 ∧ wx = w)
    case first =>
      go_wp2_with fail
      all_goals go_meet
      all_goals exact ⟨by first | rfl | (congr 1; omega), rfl⟩
    case rest =>
      obtain ⟨rfl, hwc⟩ := hcut
      rw [hwc]
      clear hwc
      go_upto_region 3 with (go_at_call 46; (with_reducible refine (IX _).mono ?_); rintro e w1 ⟨z, rfl, hz, b1⟩)
      obtain rfl : z = -1 := by
        rcases hz with ⟨h, _⟩ | ⟨j, _, h, _⟩
        · exact h
        · simp at h
      clear hz
      go_upto_region 5 with fail
      refine wp_region_held_drew (S := (fun w' => Below w1.drew.heap.size w1.drew w')) (by kernel_rfl) (Below.refl _ _) (fun hHeld => ?_)
      have bd := b1.drew
      clear b1
      generalize w1.drew = W at *
      refine anyH_take (i := 0) (v := ?_) (some 21) rfl rfl (by kernel_rfl) (fun _ _ _ h => h) (Or.inl ⟨by rfl, ?_⟩) (by assumption) ?_
      rotate_left
      · (intro w hSw; go_simp; all_goals with_reducible rfl)
      try simp only [Act.put, List.setIfInBounds_toArray, List.set_cons_zero, List.set_cons_succ]
      refine anyH_take (i := 1) (v := ?_) (some 22) rfl rfl (by kernel_rfl) (fun _ _ _ h => h) (Or.inl ⟨by rfl, ?_⟩) (by assumption) ?_
      rotate_left
      · (intro w hSw; go_simp; all_goals with_reducible rfl)
      try simp only [Act.put, List.setIfInBounds_toArray, List.set_cons_zero, List.set_cons_succ]
      refine anyH_take (i := 2) (v := ?_) (some 23) rfl rfl (by kernel_rfl) (fun _ _ _ h => h) (Or.inl ⟨by rfl, ?_⟩) (by assumption) ?_
      rotate_left
      · (intro w hSw; go_simp; all_goals with_reducible rfl)
      try simp only [Act.put, List.setIfInBounds_toArray, List.set_cons_zero, List.set_cons_succ]
      refine anyH_take (i := 4) (v := ?_) (some 25) rfl rfl (by kernel_rfl) (fun _ _ _ h => h) (Or.inl ⟨by rfl, ?_⟩) (by assumption) ?_
      rotate_left
      · (intro w hSw; go_simp; all_goals with_reducible rfl)
      try simp only [Act.put, List.setIfInBounds_toArray, List.set_cons_zero, List.set_cons_succ]
      refine anyH_take (i := 5) (v := ?_) (some 26) rfl rfl (by kernel_rfl) (fun _ _ _ h => h) (Or.inl ⟨by rfl, ?_⟩) (by assumption) ?_
      rotate_left
      · (intro w hSw; go_simp; all_goals with_reducible rfl)
      try simp only [Act.put, List.setIfInBounds_toArray, List.set_cons_zero, List.set_cons_succ]
      refine anyH_take (i := 6) (v := ?_) (some 27) rfl rfl (by kernel_rfl) (fun _ _ _ h => h) (Or.inl ⟨by rfl, ?_⟩) (by assumption) ?_
      rotate_left
      · (intro w hSw; go_simp; all_goals with_reducible rfl)
      try simp only [Act.put, List.setIfInBounds_toArray, List.set_cons_zero, List.set_cons_succ]
      refine anyH_one (i := 3) (by kernel_rfl) rfl (fun K hK => ?_)
      go_simp
      go_at_call 48
      refine (HC W _ _).mono ?_
      rintro e w3 ⟨v3, rfl, ho3, hb3⟩
      refine hK.out _ _ (hb3) (fun hHeld => ?_)
      clear hK K
      try simp only [Act.put, List.setIfInBounds_toArray, List.set_cons_zero, List.set_cons_succ]
      refine anyH_one (i := 7) (by kernel_rfl) rfl (fun K hK => ?_)
      go_simp
      go_at_call 48
      refine (HC w3 _ _).mono ?_
      rintro e w4 ⟨v4, rfl, ho4, hb4⟩
      refine hK.out _ _ (hb3.trans (hb4.mono hb3.size)) (fun hHeld => ?_)
      clear hK K
      try simp only [Act.put, List.setIfInBounds_toArray, List.set_cons_zero, List.set_cons_succ]
      refine anyH_take (i := 8) (v := ?_) (some 4) rfl rfl (by kernel_rfl) (fun _ _ _ h => h) (Or.inl ⟨by rfl, ?_⟩) (by assumption) ?_
      rotate_left
      · (intro w hSw; go_simp; all_goals with_reducible rfl)
      try simp only [Act.put, List.setIfInBounds_toArray, List.set_cons_zero, List.set_cons_succ]
      refine anyH_take (i := 9) (v := ?_) (some 5) rfl rfl (by kernel_rfl) (fun _ _ _ h => h) (Or.inl ⟨by rfl, ?_⟩) (by assumption) ?_
      rotate_left
      · (intro w hSw; go_simp; all_goals with_reducible rfl)
      try simp only [Act.put, List.setIfInBounds_toArray, List.set_cons_zero, List.set_cons_succ]
      refine wpAnyH_done (by kernel_rfl) ?_ _
      have b3 := bd.trans (hb3.mono bd.size)
      go_wp2_with fail
      all_goals go_ret2
      all_goals exact ⟨_, _, rfl, (ho3.below hb4).lower bd.size, ho4.lower b3.size, b3.trans (hb4.mono b3.size)⟩
end Go.Proofs.YtcffmdimfmpheaaDoor
