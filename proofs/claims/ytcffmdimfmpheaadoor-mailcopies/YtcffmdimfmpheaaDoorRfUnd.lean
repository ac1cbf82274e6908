/- The reference's Undo, Copy. -/
import Derived.Test.YtcffmdimfmpheaaDoorRfPut
namespace Go.Proofs.YtcffmdimfmpheaaDoor
open Go Go.RowKit
set_option linter.unusedSimpArgs false

section
variable {w : World} {M N : Nat} {R : List Nat} {xs l : List Ev} {a : Option Addr}
set_option maxHeartbeats 4000000 in
set_option maxRecDepth 100000 in
theorem rundo_any (h : RQ w M R N xs) (hx : xs.length ≤ N) (hN : N ≤ 1024) (c : Nat) (hy : EV w a l) (hn : l.length ≤ maxLen) :
    Calls Tryd.prog 27 #[.pointer (some ⟨M, 0, none⟩), .slice a l.length c] w fun r w' => r = .returned (.int .i64 (askE N xs l)) ∧ ∃ R', RQ w' M R' N (undX N xs l) ∧ Step R w R' w' := by
  obtain ⟨v, rfl, hm⟩ := h
  obtain ⟨sl, c2, rfl, hxv, -, -⟩ := hm.shape
  obtain ⟨n, hn2⟩ : ∃ n, Hid (l.length = n) := ⟨_, rfl⟩
  have hn' : n ≤ maxLen := by rw [← hn2.out]; exact hn
  rw [hn2.out]
  clear hn
  have hmx : Tryd.prog.follows .mixedOrders = true := by kernel_rfl
  go_enter Tryd.func27, Tryd.ntmps27
  go_wp2_with fail
  go_loopw [9, 6] (fun v _ wr => ∃ j : Nat, j ≤ n ∧ v = .int .i64 j ∧ (∀ i, i < j → mayE (ev l i) = true) ∧ Below w.heap.size w wr) (fun v _ _ => maxLen - (intOf v).toNat)
  case atStart => exact ⟨0, Nat.zero_le _, rfl, fun i hi => by omega, Below.refl _ _⟩
  case round =>
    obtain ⟨j, hj, rfl, hall, hb⟩ := hrel
    have HALL := Hid.mk hall
    clear hall
    by_cases hlt : j < n
    · have hjl : j < l.length := by rw [hn2.out]; exact hlt
      obtain ⟨b, o, rfl, hc⟩ := hy.below hb j hjl
      obtain ⟨c0, c1, c2, c3, c4, c5, c6, c7, c8, c9, c10, c11, c12, c13, c14⟩ := hc.cells
      have hlt' : (j : Int) < (n : Int) := by omega
      have hw : IntKind.i64.wrap ((j : Int) + 1) = (j : Int) + 1 := by unfold maxLen at hn'; rw [IntKind.wrap_i64] <;> omega
      have ba : Below wr.heap.size wr (wr.alloc (.cells (evA (ev l j)) 33)) := (Below.refl _ _).alloc (Nat.le_refl _) _
      have B1 : Below w.heap.size w (wr.alloc (.cells (evA (ev l j)) 33)) := below2 hb hb.size ba
      have hn5 := (at15_new wr (ev l j)).cells
      have CL := rmay_any (ev l j) (wr.alloc (.cells (evA (ev l j)) 33))
      clear hc ba
      cases hp : mayE (ev l j) with
      | false =>
        rw [hp] at CL
        have HE : Hid (askE N xs l = 2 ∧ undX N xs l = xs) := by
          have h1 : askE N xs l = 2 := askE_arg (allM_at hjl hp)
          exact ⟨h1, by unfold undX; rw [h1]; rfl⟩
        clear hp
        unfold evA at *
        generalize ev l j = x at *
        obtain ⟨n0, n1, n2, n3, n4, n5, n6, n7, n8, n9, n10, n11, n12, n13, n14⟩ := hn5
        go_wp2_with (first | (go_at_call 39; (with_reducible refine CL.mono ?_); rintro r w1 ⟨rfl, b1⟩))
        go_ret
        have bt := below2 B1 B1.size b1
        rw [HE.out.1, HE.out.2]
        exact ⟨rfl, _, ⟨_, rfl, hm.below bt⟩, Step.keep (.of_below bt)⟩
      | true =>
        rw [hp] at CL
        have HE : Hid (∀ i, i < j + 1 → mayE (ev l i) = true) := fun i hi => by
          by_cases h : i = j
          · rw [h]; exact hp
          · exact HALL.out i (by omega)
        clear hp
        unfold evA at *
        generalize ev l j = x at *
        obtain ⟨n0, n1, n2, n3, n4, n5, n6, n7, n8, n9, n10, n11, n12, n13, n14⟩ := hn5
        go_wp2_with (first | (go_at_call 39; (with_reducible refine CL.mono ?_); rintro r w1 ⟨rfl, b1⟩))
        go_roundw
        case rel => exact ⟨j + 1, by omega, by simp, HE.out, below2 B1 B1.size b1⟩
        case measure =>
          simp [intOf]
          omega
    · obtain rfl : j = n := by omega
      have hA : allM l = true := allM_all (fun i hi => HALL.out i (by rw [← hn2.out]; exact hi))
      have k1 := hm.below hb
      have d0 := k1.c0
      have d1 := k1.c1
      have hwr : IntKind.i64.wrap ((N : Int) - (xs.length : Int)) = (N : Int) - (xs.length : Int) := by rw [IntKind.wrap_i64]; omega
      by_cases hf : xs.length + j ≤ N
      · have HE : Hid (askE N xs l = 0 ∧ undX N xs l = l ++ xs) := by
          have h1 : askE N xs l = 0 := askE_ok hA (by rw [hn2.out]; exact hf)
          exact ⟨h1, by unfold undX; rw [h1]; rfl⟩
        have hq : ¬ ((N : Int) - (xs.length : Int) < (j : Int)) := by omega
        clear hA
        go_upto_region 7 with fail
        go_quiet (fail)
        go_upto_region 9 with fail
        have k2 := k1.keep ((But.refl [] wr).drewN nq)
        have bw2 := below_drewN hb nq
        clear d0 d1 k1 hb
        generalize wr.drewN nq = W at *
        have s4 : Step (bks M (.slice sl xs.length c2)) w (bks M (.slice sl xs.length c2)) W := Step.keep (.of_below bw2)
        have OW1 := (owE_none W).drew
        have B1 : But [] W (W.alloc (.cells #[] 33)).drew := ((But.refl [] W).alloc _).drew
        have KS : ∀ w1, But [] W w1 → w1.cell? ⟨M, 1, none⟩ = some (.slice sl xs.length c2) := fun w1 hb => hb.cell k2.c1
        have HF : ∀ w1, But [] W w1 → w1.frozen? ⟨M, 1, none⟩ = false := fun w1 hb => (k2.keep hb).fb 1
        have hlv := hy.below bw2
        have hrv := k2.h.ev_.2.2
        have hmu := fun w2 v' ys (hb : But [] W w2) => k2.fresh (w2 := w2) (v' := v') (ys := ys) hb.to_below
        refine wp_region_K 11 (fun w' => w'.cell? ⟨M, 1, none⟩ = some (.slice sl xs.length c2)) hmx (by kernel_rfl) (KS _ (But.refl [] W).drew) (fun hHeld hdep => ?_)
        refine wpAnyK_take (i := 0) (v := ?_) (some 30) rfl rfl hdep (by kernel_rfl) (fun _ _ _ h => h) (Or.inl ⟨by rfl, ?_⟩) hHeld ?_
        rotate_left
        · (intro w hSw; go_simp; all_goals with_reducible rfl)
        try simp only [Act.put, List.setIfInBounds_toArray, List.set_cons_zero, List.set_cons_succ]
        refine wpAnyK_take (i := 2) (v := ?_) (some 32) rfl rfl hdep (by kernel_rfl) (fun _ _ _ h => h) (Or.inl ⟨by rfl, ?_⟩) hHeld ?_
        rotate_left
        · (intro w hSw; go_simp; all_goals with_reducible rfl)
        try simp only [Act.put, List.setIfInBounds_toArray, List.set_cons_zero, List.set_cons_succ]
        refine wpAnyK_take (i := 4) (v := ?_) (some 34) rfl rfl hdep (by kernel_rfl) (fun _ _ _ h => h) (Or.inl ⟨by rfl, ?_⟩) hHeld ?_
        rotate_left
        · (intro w hSw; go_simp; all_goals with_reducible rfl)
        try simp only [Act.put, List.setIfInBounds_toArray, List.set_cons_zero, List.set_cons_succ]
        refine wpAnyK_take (i := 5) (v := ?_) (some 35) rfl rfl hdep (by kernel_rfl) (fun _ _ _ h => h) (Or.inl ⟨by rfl, ?_⟩) hHeld ?_
        rotate_left
        · (intro w hSw; go_simp; all_goals with_reducible rfl)
        try simp only [Act.put, List.setIfInBounds_toArray, List.set_cons_zero, List.set_cons_succ]
        refine wpAnyK_take (i := 6) (v := ?_) (some 36) rfl rfl hdep (by kernel_rfl) (fun _ _ _ h => h) (Or.inl ⟨by rfl, ?_⟩) hHeld ?_
        rotate_left
        · (intro w hSw; go_simp; all_goals with_reducible rfl)
        try simp only [Act.put, List.setIfInBounds_toArray, List.set_cons_zero, List.set_cons_succ]
        refine wpAnyK_take (i := 7) (v := ?_) (some 37) rfl rfl hdep (by kernel_rfl) (fun _ _ _ h => h) (Or.inl ⟨by rfl, ?_⟩) hHeld ?_
        rotate_left
        · (intro w hSw; go_simp; all_goals with_reducible rfl)
        try simp only [Act.put, List.setIfInBounds_toArray, List.set_cons_zero, List.set_cons_succ]
        refine wpAnyK_one (i := 1) (by kernel_rfl) rfl (fun K hK => ?_)
        go_simp
        refine hK.out _ _ (fun _ => KS _ B1) ?_
        clear hK K
        try simp only [Act.put, List.setIfInBounds_toArray, List.set_cons_zero, List.set_cons_succ]
        refine wpAnyK_one (i := 3) (by kernel_rfl) rfl (fun K hK => ?_)
        refine step_appE rfl (.tmp 31) (.tmp 32) rfl W.heap.size _ [] rfl OW1 _ _ _ l rfl hn2.out (hlv.keep B1) (by simp; omega) (by simp [World.drew]) ?_
        intro v2 w2 ho2 hg2 _
        rw [List.nil_append] at ho2
        have hb2 : But [] W w2 := B1.grown hg2 (fun k e => (by cases e; simp))
        obtain ⟨sa2, sc2, rfl⟩ := ho2.at_ hn2.out
        refine hK.out _ _ (fun _ => KS _ hb2) ?_
        clear hK K
        try simp only [Act.put, List.setIfInBounds_toArray, List.set_cons_zero, List.set_cons_succ]
        refine wpAnyK_one (i := 8) (by kernel_rfl) rfl (fun K hK => ?_)
        refine step_appE rfl (.tmp 33) (.tmp 37) rfl W.heap.size _ l rfl ho2 _ _ _ xs rfl rfl (hrv.keep hb2) (by have := hn2.out; omega) (by have := hb2.size; omega) ?_
        intro v3 w3 ho3 hg3 _
        have hb3 : But [] W w3 := hb2.grown hg3 (fun k e => (ho2.lt e).1)
        obtain ⟨sa3, sc3, rfl⟩ := ho3.at_ (n := j + xs.length) (by rw [List.length_append, hn2.out])
        have g1 := KS _ hb3
        have f1 := HF _ hb3
        refine hK.out _ _ (fun _ => KS _ hb3) ?_
        clear hK K
        try simp only [Act.put, List.setIfInBounds_toArray, List.set_cons_zero, List.set_cons_succ]
        refine wpAnyK_take (i := 9) (v := ?_) (some 39) rfl rfl hdep (by kernel_rfl) (fun _ _ _ h => h) (Or.inl ⟨by rfl, ?_⟩) (KS _ hb3) ?_
        rotate_left
        · (intro w hSw; go_simp; all_goals with_reducible rfl)
        try simp only [Act.put, List.setIfInBounds_toArray, List.set_cons_zero, List.set_cons_succ]
        refine wpAnyK_take (i := 10) (v := ?_) (some 40) rfl rfl hdep (by kernel_rfl) (fun _ _ _ h => h) (Or.inl ⟨by rfl, ?_⟩) (KS _ hb3) ?_
        rotate_left
        · (intro w hSw; go_simp; all_goals with_reducible rfl)
        try simp only [Act.put, List.setIfInBounds_toArray, List.set_cons_zero, List.set_cons_succ]
        refine wpAnyK_one (i := 11) (by kernel_rfl) rfl (fun K hK => ?_)
        go_simp
        refine hK.out _ _ (fun h => absurd rfl h) ?_
        clear hK K
        try simp only [Act.put, List.setIfInBounds_toArray, List.set_cons_zero, List.set_cons_succ]
        refine wpAnyK_done (by kernel_rfl) ?_
        obtain ⟨r1, r2, -, -⟩ := hmu _ _ _ hb3 ho3
        go_wp2_with fail
        go_ret
        rw [HE.out.1, HE.out.2]
        exact ⟨rfl, _, ⟨_, rfl, r1⟩, s4.trans r2⟩
      · have HE : Hid (askE N xs l = 3 ∧ undX N xs l = xs) := by
          have h1 : askE N xs l = 3 := askE_full hA (by rw [hn2.out]; exact hf)
          exact ⟨h1, by unfold undX; rw [h1]; rfl⟩
        have hq : (N : Int) - (xs.length : Int) < (j : Int) := by omega
        clear hA
        go_upto_region 7 with fail
        go_quiet (fail)
        go_wp2_with fail
        go_ret
        rw [HE.out.1, HE.out.2]
        exact ⟨rfl, _, ⟨_, rfl, k1.keep ((But.refl [] wr).drewN _)⟩, Step.keep (.of_below (below_drewN hb _))⟩
set_option maxHeartbeats 2000000 in
theorem rcopy_any (h : RQ w M R N xs) (hl : xs.length ≤ 4096) :
    Calls Tryd.prog 23 #[.pointer (some ⟨M, 0, none⟩)] w fun e w' => ∃ M2 R2, e = .returned (.pointer (some ⟨M2, 0, none⟩)) ∧ RQ w' M2 R2 N xs ∧ Step [] w R2 w' := by
  obtain ⟨v, rfl, hm⟩ := h
  obtain ⟨sl, c, rfl, he, -, -⟩ := hm.shape
  have c0 := hm.c0
  have c1 := hm.c1
  go_enter Tryd.func23, Tryd.ntmps23
  go_upto_region 1 with fail
  have bd : Below w.heap.size w w.drew := below_drew w
  have OW1 := (owE_none w).drew
  have B1 : Below w.heap.size w (w.alloc (.cells #[] 33)).drew := ((Below.refl _ w).alloc (Nat.le_refl _) _).drew
  refine wp_region_held_drew (S := (fun w' : World => w'.cell? ⟨M, 0, none⟩ = some (.int .i64 N) ∧ w'.cell? ⟨M, 1, none⟩ = some (.slice sl xs.length c))) (by kernel_rfl) ⟨cell_on bd c0, cell_on bd c1⟩ (fun hHeld => ?_)
  refine anyH_take (i := 0) (v := ?_) (some 3) rfl rfl (by kernel_rfl) (fun _ _ _ h => h) (Or.inl ⟨by rfl, ?_⟩) (by assumption) ?_
  rotate_left
  · (intro w hSw; obtain ⟨z0, z1⟩ := hSw; go_simp; all_goals with_reducible rfl)
  try simp only [Act.put, List.setIfInBounds_toArray, List.set_cons_zero, List.set_cons_succ]
  refine anyH_take (i := 1) (v := ?_) (some 4) rfl rfl (by kernel_rfl) (fun _ _ _ h => h) (Or.inl ⟨by rfl, ?_⟩) (by assumption) ?_
  rotate_left
  · (intro w hSw; obtain ⟨z0, z1⟩ := hSw; go_simp; all_goals with_reducible rfl)
  try simp only [Act.put, List.setIfInBounds_toArray, List.set_cons_zero, List.set_cons_succ]
  refine anyH_take (i := 2) (v := ?_) (some 5) rfl rfl (by kernel_rfl) (fun _ _ _ h => h) (Or.inl ⟨by rfl, ?_⟩) (by assumption) ?_
  rotate_left
  · (intro w hSw; obtain ⟨z0, z1⟩ := hSw; go_simp; all_goals with_reducible rfl)
  try simp only [Act.put, List.setIfInBounds_toArray, List.set_cons_zero, List.set_cons_succ]
  refine anyH_take (i := 3) (v := ?_) (some 6) rfl rfl (by kernel_rfl) (fun _ _ _ h => h) (Or.inl ⟨by rfl, ?_⟩) (by assumption) ?_
  rotate_left
  · (intro w hSw; obtain ⟨z0, z1⟩ := hSw; go_simp; all_goals with_reducible rfl)
  try simp only [Act.put, List.setIfInBounds_toArray, List.set_cons_zero, List.set_cons_succ]
  refine anyH_take (i := 5) (v := ?_) (some 8) rfl rfl (by kernel_rfl) (fun _ _ _ h => h) (Or.inl ⟨by rfl, ?_⟩) (by assumption) ?_
  rotate_left
  · (intro w hSw; obtain ⟨z0, z1⟩ := hSw; go_simp; all_goals with_reducible rfl)
  try simp only [Act.put, List.setIfInBounds_toArray, List.set_cons_zero, List.set_cons_succ]
  refine anyH_take (i := 6) (v := ?_) (some 9) rfl rfl (by kernel_rfl) (fun _ _ _ h => h) (Or.inl ⟨by rfl, ?_⟩) (by assumption) ?_
  rotate_left
  · (intro w hSw; obtain ⟨z0, z1⟩ := hSw; go_simp; all_goals with_reducible rfl)
  try simp only [Act.put, List.setIfInBounds_toArray, List.set_cons_zero, List.set_cons_succ]
  refine anyH_take (i := 7) (v := ?_) (some 10) rfl rfl (by kernel_rfl) (fun _ _ _ h => h) (Or.inl ⟨by rfl, ?_⟩) (by assumption) ?_
  rotate_left
  · (intro w hSw; obtain ⟨z0, z1⟩ := hSw; go_simp; all_goals with_reducible rfl)
  try simp only [Act.put, List.setIfInBounds_toArray, List.set_cons_zero, List.set_cons_succ]
  refine anyH_take (i := 8) (v := ?_) (some 11) rfl rfl (by kernel_rfl) (fun _ _ _ h => h) (Or.inl ⟨by rfl, ?_⟩) (by assumption) ?_
  rotate_left
  · (intro w hSw; obtain ⟨z0, z1⟩ := hSw; go_simp; all_goals with_reducible rfl)
  try simp only [Act.put, List.setIfInBounds_toArray, List.set_cons_zero, List.set_cons_succ]
  refine anyH_one (i := 4) (by kernel_rfl) rfl (fun K hK => ?_)
  go_simp
  refine hK.out _ _ ⟨cell_on B1 c0, cell_on B1 c1⟩ (fun hHeld => ?_)
  clear hK K
  try simp only [Act.put, List.setIfInBounds_toArray, List.set_cons_zero, List.set_cons_succ]
  refine anyH_one (i := 9) (by kernel_rfl) rfl (fun K hK => ?_)
  refine step_appE rfl (.tmp 7) (.tmp 11) rfl w.heap.size _ [] rfl OW1 _ _ _ xs rfl rfl (he.below B1) (by simp; omega) (by simp [World.drew]) ?_
  intro v2 w2 ho2 hg2 _
  rw [List.nil_append] at ho2
  have b3 : Below w.heap.size w w2 := ((But.of_below (S := []) B1).grown hg2 (fun k e => (by cases e; simp))).to_below
  obtain ⟨a2, c2, rfl⟩ := ho2.at_ (n := xs.length) rfl
  refine hK.out _ _ ⟨cell_on b3 c0, cell_on b3 c1⟩ (fun hHeld => ?_)
  clear hK K
  try simp only [Act.put, List.setIfInBounds_toArray, List.set_cons_zero, List.set_cons_succ]
  refine anyH_take (i := 10) (v := ?_) (some 13) rfl rfl (by kernel_rfl) (fun _ _ _ h => h) (Or.inl ⟨by rfl, ?_⟩) (by assumption) ?_
  rotate_left
  · (intro w hSw; obtain ⟨z0, z1⟩ := hSw; go_simp; all_goals with_reducible rfl)
  try simp only [Act.put, List.setIfInBounds_toArray, List.set_cons_zero, List.set_cons_succ]
  refine anyH_one (i := 11) (by kernel_rfl) rfl (fun K hK => ?_)
  go_simp
  have b4 := b3.alloc b3.size (.cells #[.int .i64 N, .slice a2 xs.length c2] 40)
  refine hK.out _ _ ⟨cell_on b4 c0, cell_on b4 c1⟩ (fun hHeld => ?_)
  clear hK K
  try simp only [Act.put, List.setIfInBounds_toArray, List.set_cons_zero, List.set_cons_succ]
  refine anyH_take (i := 12) (v := ?_) (some 2) rfl rfl (by kernel_rfl) (fun _ _ _ h => h) (Or.inl ⟨by rfl, ?_⟩) (by assumption) ?_
  rotate_left
  · (intro w hSw; obtain ⟨z0, z1⟩ := hSw; go_simp; all_goals with_reducible rfl)
  try simp only [Act.put, List.setIfInBounds_toArray, List.set_cons_zero, List.set_cons_succ]
  refine wpAnyH_done (by kernel_rfl) ?_ _
  go_wp2_with fail
  go_ret
  have ho3 := ho2.below ((Below.refl _ w2).alloc (Nat.le_refl _) (.cells #[.int .i64 N, .slice a2 xs.length c2] 40))
  refine ⟨w2.heap.size, _, rfl, ⟨_, rfl, ⟨World.alloc_heap_new w2 _, ho3.lower (Nat.zero_le _), fun e => ?_⟩⟩, .of_below b4, fun x hx => .inr ?_⟩
  · have := (ho2.lt e).2
    omega
  · rcases bks_out hx with rfl | hx
    · exact b3.size
    · exact (ho2.lt hx).1
end
end Go.Proofs.YtcffmdimfmpheaaDoor
