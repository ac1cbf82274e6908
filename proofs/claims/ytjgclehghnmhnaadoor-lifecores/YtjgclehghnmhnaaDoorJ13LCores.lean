/- The statements' act. -/
/- What the statements' walks lean on. -/
import Derived.Test.YtjgclehghnmhnaaDoorJ12LCores
namespace Go.Proofs.YtjgclehghnmhnaaDoor
open Go Go.RowKit

section
variable {W0 w : World} {B M N : Nat} {T R : List Nat} {σ : Sta}
set_option maxHeartbeats 8000000 in
set_option maxRecDepth 100000 in
theorem act_any (h : Pr W0 w B T M R N σ) (hV : Env W0) (s : Sp) (hr : RgS s) :
    Calls Tryd.prog 11 #[.pointer (some ⟨B, 0, none⟩), .pointer (some ⟨M, 0, none⟩), .agg (s15 s).toArray] w fun e w' => e = .returned (.bool true) ∧ ∃ T' R', Pr W0 w' B T' M R' N (actS σ s) ∧ Step (T ++ R) w (T' ++ R') w' := by
  have ba : Below w.heap.size w (w.alloc (.cells (spA s) 32)) := (Below.refl _ w).alloc (Nat.le_refl _) _
  have hP0 := h.below ba
  have hid := Hid.mk (lid_any hP0.r s)
  have hin := idX_in h.a.ok hr
  have hcb : (w.alloc (.cells (spA s) 32)).rangeAt w.heap.size 0 (s15 s) := s15_new w s
  have hXo : w.heap.size ∉ T ++ R := fun e => by have := h.lt _ e; omega
  have hXT : w.heap.size ∉ T := fun e => hXo (List.mem_append.2 (.inl e))
  have hXR : w.heap.size ∉ R := fun e => hXo (List.mem_append.2 (.inr e))
  have ok := Hid.mk h.a.ok
  obtain ⟨i, hi0⟩ : ∃ i, Hid (idX σ.xs s = i) := ⟨_, rfl⟩
  have HA : Hid (actS σ s = (if s.kd = 0 then mkS σ s.n else if s.kd = 1 then opS 1 (runK σ.xs s.n) (runF s.n) σ i else if s.kd = 2 then opS 2 (lodK s.n) (lodF s.n) σ i else if s.kd = 3 then opS 4 blkK blkF σ i else if s.kd = 4 then opS 8 noK (preF s.cx) σ i else if s.kd = 5 then opS 16 noK cacF σ i else if s.kd = 6 then disS σ i else if s.kd = 7 then drpS s.n σ.xs σ else σ)) := by
    show _ = _
    unfold actS
    rw [hi0.out]
  obtain ⟨τ, hτ⟩ : ∃ τ, Hid (actS σ s = τ) := ⟨_, rfl⟩
  rw [hi0.out] at hin
  have hi : Hid (In64 i) := hin
  have hI : Calls Tryd.prog 31 #[.pointer (some ⟨M, 0, none⟩), .agg (s15 s).toArray] (w.alloc (.cells (spA s) 32)) fun e w' => e = .returned (.int .i64 i) ∧ Below (w.alloc (.cells (spA s) 32)).heap.size (w.alloc (.cells (spA s) 32)) w' := by
    have := hid.out
    rw [hi0.out] at this
    exact this
  rw [hτ.out] at HA ⊢
  clear hi0 hτ hid hXo hr hin h
  rw [s15_arr]
  go_enter Tryd.func11, Tryd.ntmps11
  go_upto_region 1 with fail
  generalize (w.alloc (.cells (spA s) 32)) = W at *
  generalize (Value.agg (spA s)) = ga at *
  refine wp_region_lit ?_
  iterate 3 go_step
  refine wpList_load_mid rfl 32 (.tmp 5) rfl w.heap.size 0 rfl (s15 s) _ hcb Tryd.underlying32 rfl size15 ?_
  go_upto_region 2 with (go_at_call 31; (with_reducible refine hI.mono ?_); rintro e w1 ⟨rfl, b1⟩)
  have p1 := hP0.below b1
  have sw : Step (T ++ R) w (T ++ R) w1 := Step.keep (.of_below (below2 ba ba.size b1))
  have hc1 := range_below hcb b1
  generalize w.heap.size = X at *
  generalize (Value.agg (s15 s).toArray) = gs at *
  have n0 : w1.cell? ⟨X, 0, none⟩ = some (.int .i64 s.kd) := hc1 0 _ rfl
  have n2 : w1.cell? ⟨X, 2, none⟩ = some (.int .i64 s.n) := hc1 2 _ rfl
  have hcx : w1.rangeAt X 4 (cxl s.cx) := fun j v hv => by
    have hj : j < 11 := (List.getElem?_eq_some_iff.1 hv).1
    have := hc1 (4 + j) v (by
      unfold s15
      rw [show 4 + j = j + 1 + 1 + 1 + 1 by omega, List.getElem?_cons_succ, List.getElem?_cons_succ, List.getElem?_cons_succ, List.getElem?_cons_succ]
      exact hv)
    rw [Nat.zero_add] at this
    exact this
  clear hP0 hcb ba hI b1 hc1
  by_cases h0 : s.kd = 0
  · have HA0 : Hid (mkS σ s.n = τ) := by
      have e := HA.out
      rw [if_pos h0] at e
      exact e.symm
    have n0' : w1.cell? ⟨X, 0, none⟩ = some (.int .i64 0) := by rw [← h0]; exact n0
    obtain ⟨z, hz⟩ : ∃ z, Hid (mkI σ s.n = z) := ⟨_, rfl⟩
    obtain ⟨pe, hpe⟩ : ∃ pe, Hid (mkE σ s.n = pe) := ⟨_, rfl⟩
    have HP : Calls Tryd.prog 19 #[.pointer (some ⟨B, 0, none⟩), .int .i64 s.n] w1 fun e w2 => e = .returned (.tuple #[.int .i64 z, .int .i64 pe]) ∧ ∃ T2, TQ w2 B T2 N τ ∧ Step T w1 T2 w2 := by
      have := make_any p1.a (p1.env hV) s.n
      rw [hz.out, hpe.out, HA0.out] at this
      exact this
    have HR : ∀ w2, RQ w2 M R N σ → Calls Tryd.prog 32 #[.pointer (some ⟨M, 0, none⟩), .int .i64 s.n] w2 fun e w3 => e = .returned (.tuple #[.int .i64 z, .int .i64 pe]) ∧ ∃ R3, RQ w3 M R3 N τ ∧ Step R w2 R3 w3 := fun w2 h => by
      have := rmake_any h ok.out s.n
      rw [hz.out, hpe.out, HA0.out] at this
      exact this
    clear n0 h0 hz hpe HA0 HA ok hV hi hcx
    go_wp2_with (first | (go_at_call 19; (with_reducible refine HP.mono ?_); rintro e w2 ⟨rfl, T2, q2, s2⟩; have hR := HR w2 (p1.r2 s2); have n22 := s2.but.cell' n2 hXT) | (go_at_call 32; (with_reducible refine hR.mono ?_); rintro e w3 ⟨rfl, R3, q3, s3⟩))
    go_ret
    exact ⟨by simp, T2, R3, p1.two q2 s2 q3 s3, sw.trans ((s2.left R).trans (s3.right T2))⟩
  · by_cases h1 : s.kd = 1
    · have HA1 : Hid ((opS 1 (runK σ.xs s.n) (runF s.n) σ i) = τ) := by
        have e := HA.out
        rw [if_neg h0, if_pos h1] at e
        exact e.symm
      have n0' : w1.cell? ⟨X, 0, none⟩ = some (.int .i64 1) := by rw [← h1]; exact n0
      clear n0 h0 h1
      obtain ⟨pe, hpe⟩ : ∃ pe : Int, Hid ((opE 1 (runK σ.xs s.n) σ.xs i) = pe) := ⟨_, rfl⟩
      have HL : Hid ((opS 1 (runK σ.xs s.n) (runF s.n) σ i) = τ) := HA1
      have HP : ∀ W, Pr W0 W B T M R N σ → Calls Tryd.prog 20 #[.pointer (some ⟨B, 0, none⟩), .int .i64 i, .int .i64 s.n] W fun e w2 => e = .returned (.int .i64 pe) ∧ ∃ T2, TQ w2 B T2 N τ ∧ Step T W T2 w2 := fun W p => (run_any p.a (p.env hV) hi.out s.n).mono (fun e w2 ⟨e1, q, b⟩ => ⟨by rw [← hpe.out]; exact e1, T, by rw [← HL.out]; exact q, Step.same b⟩)
      have HR : ∀ w2, RQ w2 M R N σ → Calls Tryd.prog 33 #[.pointer (some ⟨M, 0, none⟩), .int .i64 i, .int .i64 s.n] w2 fun e w3 => e = .returned (.int .i64 pe) ∧ ∃ R3, RQ w3 M R3 N τ ∧ Step R w2 R3 w3 := fun w2 h => (rrun_any h ok.out.lc i s.n).mono (fun e w3 ⟨e1, R3, q, b⟩ => ⟨by rw [← hpe.out]; exact e1, R3, by rw [← HL.out]; exact q, b⟩)
      clear HL hpe HA1 HA ok hV hi
      have bd : But [] w1 w1.drew := (But.refl [] w1).drew
      have pd := p1.keep bd
      have z0 : w1.drew.cell? ⟨X, 2, none⟩ = some (.int .i64 s.n) := n2
      have hP := HP _ pd
      clear HP
      go_upto_region 8 with fail
      refine wp_region_held_drew (S := (fun w' : World => w'.cell? ⟨X, 2, none⟩ = some (.int .i64 s.n))) (by kernel_rfl) z0 (fun hHeld => ?_)
      generalize w1.drew = W1 at *
      refine anyH_take (i := 0) (v := ?_) (some 43) rfl rfl (by kernel_rfl) (fun _ _ _ h => h) (Or.inl ⟨by rfl, ?_⟩) (by assumption) ?_
      rotate_left
      · (intro w hSw; go_simp; all_goals with_reducible rfl)
      try simp only [Act.put, List.setIfInBounds_toArray, List.set_cons_zero, List.set_cons_succ]
      refine anyH_take (i := 1) (v := ?_) (some 44) rfl rfl (by kernel_rfl) (fun _ _ _ h => h) (Or.inl ⟨by rfl, ?_⟩) (by assumption) ?_
      rotate_left
      · (intro w hSw; go_simp; all_goals with_reducible rfl)
      try simp only [Act.put, List.setIfInBounds_toArray, List.set_cons_zero, List.set_cons_succ]
      refine anyH_take (i := 2) (v := ?_) (some 45) rfl rfl (by kernel_rfl) (fun _ _ _ h => h) (Or.inl ⟨by rfl, ?_⟩) (by assumption) ?_
      rotate_left
      · (intro w hSw; go_simp; all_goals with_reducible rfl)
      try simp only [Act.put, List.setIfInBounds_toArray, List.set_cons_zero, List.set_cons_succ]
      refine anyH_take (i := 3) (v := ?_) (some 46) rfl rfl (by kernel_rfl) (fun _ _ _ h => h) (Or.inl ⟨by rfl, ?_⟩) (by assumption) ?_
      rotate_left
      · (intro w hSw; go_simp; all_goals with_reducible rfl)
      try simp only [Act.put, List.setIfInBounds_toArray, List.set_cons_zero, List.set_cons_succ]
      refine anyH_take (i := 5) (v := ?_) (some 48) rfl rfl (by kernel_rfl) (fun _ _ _ h => h) (Or.inl ⟨by rfl, ?_⟩) (by assumption) ?_
      rotate_left
      · (intro w hSw; go_simp; all_goals with_reducible rfl)
      try simp only [Act.put, List.setIfInBounds_toArray, List.set_cons_zero, List.set_cons_succ]
      refine anyH_take (i := 6) (v := ?_) (some 49) rfl rfl (by kernel_rfl) (fun _ _ _ h => h) (Or.inl ⟨by rfl, ?_⟩) (by assumption) ?_
      rotate_left
      · (intro w hSw; go_simp; all_goals with_reducible rfl)
      try simp only [Act.put, List.setIfInBounds_toArray, List.set_cons_zero, List.set_cons_succ]
      refine anyH_take (i := 7) (v := ?_) (some 50) rfl rfl (by kernel_rfl) (fun _ _ _ h => h) (Or.inl ⟨by rfl, ?_⟩) (by assumption) ?_
      rotate_left
      · (intro w hSw; go_simp; all_goals with_reducible rfl)
      try simp only [Act.put, List.setIfInBounds_toArray, List.set_cons_zero, List.set_cons_succ]
      refine anyH_take (i := 8) (v := ?_) (some 51) rfl rfl (by kernel_rfl) (fun _ _ _ h => h) (Or.inl ⟨by rfl, ?_⟩) (by assumption) ?_
      rotate_left
      · (intro w hSw; go_simp; all_goals with_reducible rfl)
      try simp only [Act.put, List.setIfInBounds_toArray, List.set_cons_zero, List.set_cons_succ]
      refine anyH_one (i := 4) (by kernel_rfl) rfl (fun K hK => ?_)
      go_simp
      go_at_call 20
      (with_reducible refine hP.mono ?_)
      rintro e w2 ⟨rfl, T2, q2, s2⟩
      have hR := HR w2 (pd.r2 s2)
      have z2 := s2.but.cell' z0 hXT
      refine hK.out _ _ z2 (fun hHeld => ?_)
      clear hK K
      try simp only [Act.put, List.setIfInBounds_toArray, List.set_cons_zero, List.set_cons_succ]
      refine anyH_one (i := 9) (by kernel_rfl) rfl (fun K hK => ?_)
      go_simp
      go_at_call 33
      (with_reducible refine hR.mono ?_)
      rintro e w3 ⟨rfl, R3, q3, s3⟩
      have z3 := s3.but.cell' z2 hXR
      refine hK.out _ _ z3 (fun hHeld => ?_)
      clear hK K
      try simp only [Act.put, List.setIfInBounds_toArray, List.set_cons_zero, List.set_cons_succ]
      refine anyH_take (i := 10) (v := ?_) (some 53) rfl rfl (by kernel_rfl) (fun _ _ _ h => h) (Or.inl ⟨by rfl, ?_⟩) (by assumption) ?_
      rotate_left
      · (intro w hSw; go_simp; all_goals with_reducible rfl)
      try simp only [Act.put, List.setIfInBounds_toArray, List.set_cons_zero, List.set_cons_succ]
      refine anyH_take (i := 11) (v := ?_) (some 6) rfl rfl (by kernel_rfl) (fun _ _ _ h => h) (Or.inl ⟨by rfl, ?_⟩) (by assumption) ?_
      rotate_left
      · (intro w hSw; go_simp; all_goals with_reducible rfl)
      try simp only [Act.put, List.setIfInBounds_toArray, List.set_cons_zero, List.set_cons_succ]
      refine wpAnyH_done (by kernel_rfl) ?_ _
      go_wp2_with fail
      go_ret
      exact ⟨by simp, T2, R3, pd.two q2 s2 q3 s3, (sw.trans (Step.keep bd)).trans ((s2.left R).trans (s3.right T2))⟩
    · by_cases h2 : s.kd = 2
      · have HA2 : Hid ((opS 2 (lodK s.n) (lodF s.n) σ i) = τ) := by
          have e := HA.out
          rw [if_neg h0, if_neg h1, if_pos h2] at e
          exact e.symm
        have n0' : w1.cell? ⟨X, 0, none⟩ = some (.int .i64 2) := by rw [← h2]; exact n0
        clear n0 h0 h1 h2
        obtain ⟨pe, hpe⟩ : ∃ pe : Int, Hid ((opE 2 (lodK s.n) σ.xs i) = pe) := ⟨_, rfl⟩
        have HL : Hid ((opS 2 (lodK s.n) (lodF s.n) σ i) = τ) := HA2
        have HP : ∀ W, Pr W0 W B T M R N σ → Calls Tryd.prog 21 #[.pointer (some ⟨B, 0, none⟩), .int .i64 i, .int .i64 s.n] W fun e w2 => e = .returned (.int .i64 pe) ∧ ∃ T2, TQ w2 B T2 N τ ∧ Step T W T2 w2 := fun W p => (load_any p.a (p.env hV) hi.out s.n).mono (fun e w2 ⟨e1, q, b⟩ => ⟨by rw [← hpe.out]; exact e1, T, by rw [← HL.out]; exact q, Step.same b⟩)
        have HR : ∀ w2, RQ w2 M R N σ → Calls Tryd.prog 34 #[.pointer (some ⟨M, 0, none⟩), .int .i64 i, .int .i64 s.n] w2 fun e w3 => e = .returned (.int .i64 pe) ∧ ∃ R3, RQ w3 M R3 N τ ∧ Step R w2 R3 w3 := fun w2 h => (rload_any h i s.n).mono (fun e w3 ⟨e1, R3, q, b⟩ => ⟨by rw [← hpe.out]; exact e1, R3, by rw [← HL.out]; exact q, b⟩)
        clear HL hpe HA2 HA ok hV hi
        have bd : But [] w1 w1.drew := (But.refl [] w1).drew
        have pd := p1.keep bd
        have z0 : w1.drew.cell? ⟨X, 2, none⟩ = some (.int .i64 s.n) := n2
        have hP := HP _ pd
        clear HP
        go_upto_region 10 with fail
        refine wp_region_held_drew (S := (fun w' : World => w'.cell? ⟨X, 2, none⟩ = some (.int .i64 s.n))) (by kernel_rfl) z0 (fun hHeld => ?_)
        generalize w1.drew = W1 at *
        refine anyH_take (i := 0) (v := ?_) (some 56) rfl rfl (by kernel_rfl) (fun _ _ _ h => h) (Or.inl ⟨by rfl, ?_⟩) (by assumption) ?_
        rotate_left
        · (intro w hSw; go_simp; all_goals with_reducible rfl)
        try simp only [Act.put, List.setIfInBounds_toArray, List.set_cons_zero, List.set_cons_succ]
        refine anyH_take (i := 1) (v := ?_) (some 57) rfl rfl (by kernel_rfl) (fun _ _ _ h => h) (Or.inl ⟨by rfl, ?_⟩) (by assumption) ?_
        rotate_left
        · (intro w hSw; go_simp; all_goals with_reducible rfl)
        try simp only [Act.put, List.setIfInBounds_toArray, List.set_cons_zero, List.set_cons_succ]
        refine anyH_take (i := 2) (v := ?_) (some 58) rfl rfl (by kernel_rfl) (fun _ _ _ h => h) (Or.inl ⟨by rfl, ?_⟩) (by assumption) ?_
        rotate_left
        · (intro w hSw; go_simp; all_goals with_reducible rfl)
        try simp only [Act.put, List.setIfInBounds_toArray, List.set_cons_zero, List.set_cons_succ]
        refine anyH_take (i := 3) (v := ?_) (some 59) rfl rfl (by kernel_rfl) (fun _ _ _ h => h) (Or.inl ⟨by rfl, ?_⟩) (by assumption) ?_
        rotate_left
        · (intro w hSw; go_simp; all_goals with_reducible rfl)
        try simp only [Act.put, List.setIfInBounds_toArray, List.set_cons_zero, List.set_cons_succ]
        refine anyH_take (i := 5) (v := ?_) (some 61) rfl rfl (by kernel_rfl) (fun _ _ _ h => h) (Or.inl ⟨by rfl, ?_⟩) (by assumption) ?_
        rotate_left
        · (intro w hSw; go_simp; all_goals with_reducible rfl)
        try simp only [Act.put, List.setIfInBounds_toArray, List.set_cons_zero, List.set_cons_succ]
        refine anyH_take (i := 6) (v := ?_) (some 62) rfl rfl (by kernel_rfl) (fun _ _ _ h => h) (Or.inl ⟨by rfl, ?_⟩) (by assumption) ?_
        rotate_left
        · (intro w hSw; go_simp; all_goals with_reducible rfl)
        try simp only [Act.put, List.setIfInBounds_toArray, List.set_cons_zero, List.set_cons_succ]
        refine anyH_take (i := 7) (v := ?_) (some 63) rfl rfl (by kernel_rfl) (fun _ _ _ h => h) (Or.inl ⟨by rfl, ?_⟩) (by assumption) ?_
        rotate_left
        · (intro w hSw; go_simp; all_goals with_reducible rfl)
        try simp only [Act.put, List.setIfInBounds_toArray, List.set_cons_zero, List.set_cons_succ]
        refine anyH_take (i := 8) (v := ?_) (some 64) rfl rfl (by kernel_rfl) (fun _ _ _ h => h) (Or.inl ⟨by rfl, ?_⟩) (by assumption) ?_
        rotate_left
        · (intro w hSw; go_simp; all_goals with_reducible rfl)
        try simp only [Act.put, List.setIfInBounds_toArray, List.set_cons_zero, List.set_cons_succ]
        refine anyH_one (i := 4) (by kernel_rfl) rfl (fun K hK => ?_)
        go_simp
        go_at_call 21
        (with_reducible refine hP.mono ?_)
        rintro e w2 ⟨rfl, T2, q2, s2⟩
        have hR := HR w2 (pd.r2 s2)
        have z2 := s2.but.cell' z0 hXT
        refine hK.out _ _ z2 (fun hHeld => ?_)
        clear hK K
        try simp only [Act.put, List.setIfInBounds_toArray, List.set_cons_zero, List.set_cons_succ]
        refine anyH_one (i := 9) (by kernel_rfl) rfl (fun K hK => ?_)
        go_simp
        go_at_call 34
        (with_reducible refine hR.mono ?_)
        rintro e w3 ⟨rfl, R3, q3, s3⟩
        have z3 := s3.but.cell' z2 hXR
        refine hK.out _ _ z3 (fun hHeld => ?_)
        clear hK K
        try simp only [Act.put, List.setIfInBounds_toArray, List.set_cons_zero, List.set_cons_succ]
        refine anyH_take (i := 10) (v := ?_) (some 66) rfl rfl (by kernel_rfl) (fun _ _ _ h => h) (Or.inl ⟨by rfl, ?_⟩) (by assumption) ?_
        rotate_left
        · (intro w hSw; go_simp; all_goals with_reducible rfl)
        try simp only [Act.put, List.setIfInBounds_toArray, List.set_cons_zero, List.set_cons_succ]
        refine anyH_take (i := 11) (v := ?_) (some 6) rfl rfl (by kernel_rfl) (fun _ _ _ h => h) (Or.inl ⟨by rfl, ?_⟩) (by assumption) ?_
        rotate_left
        · (intro w hSw; go_simp; all_goals with_reducible rfl)
        try simp only [Act.put, List.setIfInBounds_toArray, List.set_cons_zero, List.set_cons_succ]
        refine wpAnyH_done (by kernel_rfl) ?_ _
        go_wp2_with fail
        go_ret
        exact ⟨by simp, T2, R3, pd.two q2 s2 q3 s3, (sw.trans (Step.keep bd)).trans ((s2.left R).trans (s3.right T2))⟩
      · by_cases h3 : s.kd = 3
        · have HA3 : Hid ((opS 4 blkK blkF σ i) = τ) := by
            have e := HA.out
            rw [if_neg h0, if_neg h1, if_neg h2, if_pos h3] at e
            exact e.symm
          have n0' : w1.cell? ⟨X, 0, none⟩ = some (.int .i64 3) := by rw [← h3]; exact n0
          clear n0 h0 h1 h2 h3
          obtain ⟨pe, hpe⟩ : ∃ pe : Int, Hid ((opE 4 blkK σ.xs i) = pe) := ⟨_, rfl⟩
          have HL : Hid ((opS 4 blkK blkF σ i) = τ) := HA3
          have HP : ∀ W, Pr W0 W B T M R N σ → Calls Tryd.prog 22 #[.pointer (some ⟨B, 0, none⟩), .int .i64 i] W fun e w2 => e = .returned (.int .i64 pe) ∧ ∃ T2, TQ w2 B T2 N τ ∧ Step T W T2 w2 := fun W p => (block_any p.a (p.env hV) hi.out).mono (fun e w2 ⟨e1, q, b⟩ => ⟨by rw [← hpe.out]; exact e1, T, by rw [← HL.out]; exact q, Step.same b⟩)
          have HR : ∀ w2, RQ w2 M R N σ → Calls Tryd.prog 35 #[.pointer (some ⟨M, 0, none⟩), .int .i64 i] w2 fun e w3 => e = .returned (.int .i64 pe) ∧ ∃ R3, RQ w3 M R3 N τ ∧ Step R w2 R3 w3 := fun w2 h => (rblock_any h i).mono (fun e w3 ⟨e1, R3, q, b⟩ => ⟨by rw [← hpe.out]; exact e1, R3, by rw [← HL.out]; exact q, b⟩)
          clear HL hpe HA3 HA ok hV hi
          have hP := HP w1 p1
          clear HP hcx
          go_wp2_with (first | (go_at_call 22; (with_reducible refine hP.mono ?_); rintro e w2 ⟨rfl, T2, q2, s2⟩; have hR := HR w2 (p1.r2 s2)) | (go_at_call 35; (with_reducible refine hR.mono ?_); rintro e w3 ⟨rfl, R3, q3, s3⟩))
          go_ret
          exact ⟨by simp, T2, R3, p1.two q2 s2 q3 s3, sw.trans ((s2.left R).trans (s3.right T2))⟩
        · by_cases h4 : s.kd = 4
          · have HA4 : Hid ((opS 8 noK (preF s.cx) σ i) = τ) := by
              have e := HA.out
              rw [if_neg h0, if_neg h1, if_neg h2, if_neg h3, if_pos h4] at e
              exact e.symm
            have n0' : w1.cell? ⟨X, 0, none⟩ = some (.int .i64 4) := by rw [← h4]; exact n0
            clear n0 h0 h1 h2 h3 h4
            obtain ⟨pe, hpe⟩ : ∃ pe : Int, Hid ((opE 8 noK σ.xs i) = pe) := ⟨_, rfl⟩
            have HL : Hid ((opS 8 noK (preF s.cx) σ i) = τ) := HA4
            have HP : ∀ W, Pr W0 W B T M R N σ → Calls Tryd.prog 23 #[.pointer (some ⟨B, 0, none⟩), .int .i64 i, .agg (cxl s.cx).toArray] W fun e w2 => e = .returned (.int .i64 pe) ∧ ∃ T2, TQ w2 B T2 N τ ∧ Step T W T2 w2 := fun W p => (preempt_any p.a (p.env hV) hi.out s.cx).mono (fun e w2 ⟨e1, q, b⟩ => ⟨by rw [← hpe.out]; exact e1, T, by rw [← HL.out]; exact q, Step.same b⟩)
            have HR : ∀ w2, RQ w2 M R N σ → Calls Tryd.prog 36 #[.pointer (some ⟨M, 0, none⟩), .int .i64 i, .agg (cxl s.cx).toArray] w2 fun e w3 => e = .returned (.int .i64 pe) ∧ ∃ R3, RQ w3 M R3 N τ ∧ Step R w2 R3 w3 := fun w2 h => (rpre_any h i s.cx).mono (fun e w3 ⟨e1, R3, q, b⟩ => ⟨by rw [← hpe.out]; exact e1, R3, by rw [← HL.out]; exact q, b⟩)
            clear HL hpe HA4 HA ok hV hi
            have bd : But [] w1 w1.drew := (But.refl [] w1).drew
            have pd := p1.keep bd
            have z0 : w1.drew.rangeAt X 4 (cxl s.cx) := hcx
            have hP := HP _ pd
            clear HP
            go_upto_region 14 with fail
            refine wp_region_held_drew (S := (fun w' : World => w'.rangeAt X 4 (cxl s.cx))) (by kernel_rfl) z0 (fun hHeld => ?_)
            generalize w1.drew = W1 at *
            refine anyH_take (i := 0) (v := ?_) (some 78) rfl rfl (by kernel_rfl) (fun _ _ _ h => h) (Or.inl ⟨by rfl, ?_⟩) (by assumption) ?_
            rotate_left
            · (intro w hSw; go_simp; all_goals with_reducible rfl)
            try simp only [Act.put, List.setIfInBounds_toArray, List.set_cons_zero, List.set_cons_succ]
            refine anyH_take (i := 1) (v := ?_) (some 79) rfl rfl (by kernel_rfl) (fun _ _ _ h => h) (Or.inl ⟨by rfl, ?_⟩) (by assumption) ?_
            rotate_left
            · (intro w hSw; go_simp; all_goals with_reducible rfl)
            try simp only [Act.put, List.setIfInBounds_toArray, List.set_cons_zero, List.set_cons_succ]
            refine anyH_take (i := 2) (v := ?_) (some 80) rfl rfl (by kernel_rfl) (fun _ _ _ h => h) (Or.inl ⟨by rfl, ?_⟩) (by assumption) ?_
            rotate_left
            · (intro w hSw; go_simp; all_goals with_reducible rfl)
            try simp only [Act.put, List.setIfInBounds_toArray, List.set_cons_zero, List.set_cons_succ]
            refine anyH_take (i := 3) (v := .agg (cxl s.cx).toArray) (some 81) rfl rfl (by kernel_rfl) (fun _ _ _ h => h) (yieldsIf_load_mid (by rfl) 30 (.tmp 80) rfl _ 4 rfl (cxl s.cx) _ (fun w hSw => hSw) Tryd.underlying30 rfl sizeCx) (by assumption) ?_
            try simp only [Act.put, List.setIfInBounds_toArray, List.set_cons_zero, List.set_cons_succ]
            refine anyH_take (i := 5) (v := ?_) (some 83) rfl rfl (by kernel_rfl) (fun _ _ _ h => h) (Or.inl ⟨by rfl, ?_⟩) (by assumption) ?_
            rotate_left
            · (intro w hSw; go_simp; all_goals with_reducible rfl)
            try simp only [Act.put, List.setIfInBounds_toArray, List.set_cons_zero, List.set_cons_succ]
            refine anyH_take (i := 6) (v := ?_) (some 84) rfl rfl (by kernel_rfl) (fun _ _ _ h => h) (Or.inl ⟨by rfl, ?_⟩) (by assumption) ?_
            rotate_left
            · (intro w hSw; go_simp; all_goals with_reducible rfl)
            try simp only [Act.put, List.setIfInBounds_toArray, List.set_cons_zero, List.set_cons_succ]
            refine anyH_take (i := 7) (v := ?_) (some 85) rfl rfl (by kernel_rfl) (fun _ _ _ h => h) (Or.inl ⟨by rfl, ?_⟩) (by assumption) ?_
            rotate_left
            · (intro w hSw; go_simp; all_goals with_reducible rfl)
            try simp only [Act.put, List.setIfInBounds_toArray, List.set_cons_zero, List.set_cons_succ]
            refine anyH_take (i := 8) (v := .agg (cxl s.cx).toArray) (some 86) rfl rfl (by kernel_rfl) (fun _ _ _ h => h) (yieldsIf_load_mid (by rfl) 30 (.tmp 85) rfl _ 4 rfl (cxl s.cx) _ (fun w hSw => hSw) Tryd.underlying30 rfl sizeCx) (by assumption) ?_
            try simp only [Act.put, List.setIfInBounds_toArray, List.set_cons_zero, List.set_cons_succ]
            refine anyH_one (i := 4) (by kernel_rfl) rfl (fun K hK => ?_)
            go_simp
            go_at_call 23
            (with_reducible refine hP.mono ?_)
            rintro e w2 ⟨rfl, T2, q2, s2⟩
            have hR := HR w2 (pd.r2 s2)
            have z2 := range_but z0 s2.but hXT
            refine hK.out _ _ z2 (fun hHeld => ?_)
            clear hK K
            try simp only [Act.put, List.setIfInBounds_toArray, List.set_cons_zero, List.set_cons_succ]
            refine anyH_one (i := 9) (by kernel_rfl) rfl (fun K hK => ?_)
            go_simp
            go_at_call 36
            (with_reducible refine hR.mono ?_)
            rintro e w3 ⟨rfl, R3, q3, s3⟩
            have z3 := range_but z2 s3.but hXR
            refine hK.out _ _ z3 (fun hHeld => ?_)
            clear hK K
            try simp only [Act.put, List.setIfInBounds_toArray, List.set_cons_zero, List.set_cons_succ]
            refine anyH_take (i := 10) (v := ?_) (some 88) rfl rfl (by kernel_rfl) (fun _ _ _ h => h) (Or.inl ⟨by rfl, ?_⟩) (by assumption) ?_
            rotate_left
            · (intro w hSw; go_simp; all_goals with_reducible rfl)
            try simp only [Act.put, List.setIfInBounds_toArray, List.set_cons_zero, List.set_cons_succ]
            refine anyH_take (i := 11) (v := ?_) (some 6) rfl rfl (by kernel_rfl) (fun _ _ _ h => h) (Or.inl ⟨by rfl, ?_⟩) (by assumption) ?_
            rotate_left
            · (intro w hSw; go_simp; all_goals with_reducible rfl)
            try simp only [Act.put, List.setIfInBounds_toArray, List.set_cons_zero, List.set_cons_succ]
            refine wpAnyH_done (by kernel_rfl) ?_ _
            go_wp2_with fail
            go_ret
            exact ⟨by simp, T2, R3, pd.two q2 s2 q3 s3, (sw.trans (Step.keep bd)).trans ((s2.left R).trans (s3.right T2))⟩
          · by_cases h5 : s.kd = 5
            · have HA5 : Hid ((opS 16 noK cacF σ i) = τ) := by
                have e := HA.out
                rw [if_neg h0, if_neg h1, if_neg h2, if_neg h3, if_neg h4, if_pos h5] at e
                exact e.symm
              have n0' : w1.cell? ⟨X, 0, none⟩ = some (.int .i64 5) := by rw [← h5]; exact n0
              clear n0 h0 h1 h2 h3 h4 h5
              obtain ⟨pe, hpe⟩ : ∃ pe : Int, Hid ((opE 16 noK σ.xs i) = pe) := ⟨_, rfl⟩
              have HL : Hid ((opS 16 noK cacF σ i) = τ) := HA5
              have HP : ∀ W, Pr W0 W B T M R N σ → Calls Tryd.prog 24 #[.pointer (some ⟨B, 0, none⟩), .int .i64 i] W fun e w2 => e = .returned (.int .i64 pe) ∧ ∃ T2, TQ w2 B T2 N τ ∧ Step T W T2 w2 := fun W p => (cache_any p.a (p.env hV) hi.out).mono (fun e w2 ⟨e1, q, b⟩ => ⟨by rw [← hpe.out]; exact e1, T, by rw [← HL.out]; exact q, Step.same b⟩)
              have HR : ∀ w2, RQ w2 M R N σ → Calls Tryd.prog 37 #[.pointer (some ⟨M, 0, none⟩), .int .i64 i] w2 fun e w3 => e = .returned (.int .i64 pe) ∧ ∃ R3, RQ w3 M R3 N τ ∧ Step R w2 R3 w3 := fun w2 h => (rcache_any h i).mono (fun e w3 ⟨e1, R3, q, b⟩ => ⟨by rw [← hpe.out]; exact e1, R3, by rw [← HL.out]; exact q, b⟩)
              clear HL hpe HA5 HA ok hV hi
              have hP := HP w1 p1
              clear HP hcx
              go_wp2_with (first | (go_at_call 24; (with_reducible refine hP.mono ?_); rintro e w2 ⟨rfl, T2, q2, s2⟩; have hR := HR w2 (p1.r2 s2)) | (go_at_call 37; (with_reducible refine hR.mono ?_); rintro e w3 ⟨rfl, R3, q3, s3⟩))
              go_ret
              exact ⟨by simp, T2, R3, p1.two q2 s2 q3 s3, sw.trans ((s2.left R).trans (s3.right T2))⟩
            · by_cases h6 : s.kd = 6
              · have HA6 : Hid ((disS σ i) = τ) := by
                  have e := HA.out
                  rw [if_neg h0, if_neg h1, if_neg h2, if_neg h3, if_neg h4, if_neg h5, if_pos h6] at e
                  exact e.symm
                have n0' : w1.cell? ⟨X, 0, none⟩ = some (.int .i64 6) := by rw [← h6]; exact n0
                clear n0 h0 h1 h2 h3 h4 h5 h6
                obtain ⟨pe, hpe⟩ : ∃ pe : Int, Hid ((opE 32 noK σ.xs i) = pe) := ⟨_, rfl⟩
                have HL : Hid ((disS σ i) = τ) := HA6
                have HP : ∀ W, Pr W0 W B T M R N σ → Calls Tryd.prog 25 #[.pointer (some ⟨B, 0, none⟩), .int .i64 i] W fun e w2 => e = .returned (.int .i64 pe) ∧ ∃ T2, TQ w2 B T2 N τ ∧ Step T W T2 w2 := fun W p => (discard_any p.a (p.env hV) hi.out).mono (fun e w2 ⟨e1, T2, q, b⟩ => ⟨by rw [← hpe.out]; exact e1, T2, by rw [← HL.out]; exact q, b⟩)
                have HR : ∀ w2, RQ w2 M R N σ → Calls Tryd.prog 38 #[.pointer (some ⟨M, 0, none⟩), .int .i64 i] w2 fun e w3 => e = .returned (.int .i64 pe) ∧ ∃ R3, RQ w3 M R3 N τ ∧ Step R w2 R3 w3 := fun w2 h => (rdis_any h i hi.out.2).mono (fun e w3 ⟨e1, R3, q, b⟩ => ⟨by rw [← hpe.out]; exact e1, R3, by rw [← HL.out]; exact q, b⟩)
                clear HL hpe HA6 HA ok hV hi
                have hP := HP w1 p1
                clear HP hcx
                go_wp2_with (first | (go_at_call 25; (with_reducible refine hP.mono ?_); rintro e w2 ⟨rfl, T2, q2, s2⟩; have hR := HR w2 (p1.r2 s2)) | (go_at_call 38; (with_reducible refine hR.mono ?_); rintro e w3 ⟨rfl, R3, q3, s3⟩))
                go_ret
                exact ⟨by simp, T2, R3, p1.two q2 s2 q3 s3, sw.trans ((s2.left R).trans (s3.right T2))⟩
              · by_cases h7 : s.kd = 7
                · have HA7 : Hid ((drpS s.n σ.xs σ) = τ) := by
                    have e := HA.out
                    rw [if_neg h0, if_neg h1, if_neg h2, if_neg h3, if_neg h4, if_neg h5, if_neg h6, if_pos h7] at e
                    exact e.symm
                  have n0' : w1.cell? ⟨X, 0, none⟩ = some (.int .i64 7) := by rw [← h7]; exact n0
                  clear n0 h0 h1 h2 h3 h4 h5 h6 h7
                  obtain ⟨pe, hpe⟩ : ∃ pe : Int, Hid (((drpN s.n σ.xs : Int)) = pe) := ⟨_, rfl⟩
                  have HL : Hid ((drpS s.n σ.xs σ) = τ) := HA7
                  have HP : ∀ W, Pr W0 W B T M R N σ → Calls Tryd.prog 28 #[.pointer (some ⟨B, 0, none⟩), .int .i64 s.n] W fun e w2 => e = .returned (.int .i64 pe) ∧ ∃ T2, TQ w2 B T2 N τ ∧ Step T W T2 w2 := fun W p => (drop_any p.a s.n).mono (fun e w2 ⟨e1, T2, q, b⟩ => ⟨by rw [← hpe.out]; exact e1, T2, by rw [← HL.out]; exact q, b⟩)
                  have HR : ∀ w2, RQ w2 M R N σ → Calls Tryd.prog 39 #[.pointer (some ⟨M, 0, none⟩), .int .i64 s.n] w2 fun e w3 => e = .returned (.int .i64 pe) ∧ ∃ R3, RQ w3 M R3 N τ ∧ Step R w2 R3 w3 := fun w2 h => (rdrop_any h (fun a ha => by have := ok.out.idr ha; omega) s.n).mono (fun e w3 ⟨e1, R3, q, b⟩ => ⟨by rw [← hpe.out]; exact e1, R3, by rw [← HL.out]; exact q, b⟩)
                  clear HL hpe HA7 HA ok hV hi
                  have bd : But [] w1 w1.drew := (But.refl [] w1).drew
                  have pd := p1.keep bd
                  have z0 : w1.drew.cell? ⟨X, 2, none⟩ = some (.int .i64 s.n) := n2
                  have hP := HP _ pd
                  clear HP
                  go_upto_region 20 with fail
                  refine wp_region_held_drew (S := (fun w' : World => w'.cell? ⟨X, 2, none⟩ = some (.int .i64 s.n))) (by kernel_rfl) z0 (fun hHeld => ?_)
                  generalize w1.drew = W1 at *
                  refine anyH_take (i := 0) (v := ?_) (some 109) rfl rfl (by kernel_rfl) (fun _ _ _ h => h) (Or.inl ⟨by rfl, ?_⟩) (by assumption) ?_
                  rotate_left
                  · (intro w hSw; go_simp; all_goals with_reducible rfl)
                  try simp only [Act.put, List.setIfInBounds_toArray, List.set_cons_zero, List.set_cons_succ]
                  refine anyH_take (i := 1) (v := ?_) (some 110) rfl rfl (by kernel_rfl) (fun _ _ _ h => h) (Or.inl ⟨by rfl, ?_⟩) (by assumption) ?_
                  rotate_left
                  · (intro w hSw; go_simp; all_goals with_reducible rfl)
                  try simp only [Act.put, List.setIfInBounds_toArray, List.set_cons_zero, List.set_cons_succ]
                  refine anyH_take (i := 2) (v := ?_) (some 111) rfl rfl (by kernel_rfl) (fun _ _ _ h => h) (Or.inl ⟨by rfl, ?_⟩) (by assumption) ?_
                  rotate_left
                  · (intro w hSw; go_simp; all_goals with_reducible rfl)
                  try simp only [Act.put, List.setIfInBounds_toArray, List.set_cons_zero, List.set_cons_succ]
                  refine anyH_take (i := 4) (v := ?_) (some 113) rfl rfl (by kernel_rfl) (fun _ _ _ h => h) (Or.inl ⟨by rfl, ?_⟩) (by assumption) ?_
                  rotate_left
                  · (intro w hSw; go_simp; all_goals with_reducible rfl)
                  try simp only [Act.put, List.setIfInBounds_toArray, List.set_cons_zero, List.set_cons_succ]
                  refine anyH_take (i := 5) (v := ?_) (some 114) rfl rfl (by kernel_rfl) (fun _ _ _ h => h) (Or.inl ⟨by rfl, ?_⟩) (by assumption) ?_
                  rotate_left
                  · (intro w hSw; go_simp; all_goals with_reducible rfl)
                  try simp only [Act.put, List.setIfInBounds_toArray, List.set_cons_zero, List.set_cons_succ]
                  refine anyH_take (i := 6) (v := ?_) (some 115) rfl rfl (by kernel_rfl) (fun _ _ _ h => h) (Or.inl ⟨by rfl, ?_⟩) (by assumption) ?_
                  rotate_left
                  · (intro w hSw; go_simp; all_goals with_reducible rfl)
                  try simp only [Act.put, List.setIfInBounds_toArray, List.set_cons_zero, List.set_cons_succ]
                  refine anyH_one (i := 3) (by kernel_rfl) rfl (fun K hK => ?_)
                  go_simp
                  go_at_call 28
                  (with_reducible refine hP.mono ?_)
                  rintro e w2 ⟨rfl, T2, q2, s2⟩
                  have hR := HR w2 (pd.r2 s2)
                  have z2 := s2.but.cell' z0 hXT
                  refine hK.out _ _ z2 (fun hHeld => ?_)
                  clear hK K
                  try simp only [Act.put, List.setIfInBounds_toArray, List.set_cons_zero, List.set_cons_succ]
                  refine anyH_one (i := 7) (by kernel_rfl) rfl (fun K hK => ?_)
                  go_simp
                  go_at_call 39
                  (with_reducible refine hR.mono ?_)
                  rintro e w3 ⟨rfl, R3, q3, s3⟩
                  have z3 := s3.but.cell' z2 hXR
                  refine hK.out _ _ z3 (fun hHeld => ?_)
                  clear hK K
                  try simp only [Act.put, List.setIfInBounds_toArray, List.set_cons_zero, List.set_cons_succ]
                  refine anyH_take (i := 8) (v := ?_) (some 117) rfl rfl (by kernel_rfl) (fun _ _ _ h => h) (Or.inl ⟨by rfl, ?_⟩) (by assumption) ?_
                  rotate_left
                  · (intro w hSw; go_simp; all_goals with_reducible rfl)
                  try simp only [Act.put, List.setIfInBounds_toArray, List.set_cons_zero, List.set_cons_succ]
                  refine anyH_take (i := 9) (v := ?_) (some 6) rfl rfl (by kernel_rfl) (fun _ _ _ h => h) (Or.inl ⟨by rfl, ?_⟩) (by assumption) ?_
                  rotate_left
                  · (intro w hSw; go_simp; all_goals with_reducible rfl)
                  try simp only [Act.put, List.setIfInBounds_toArray, List.set_cons_zero, List.set_cons_succ]
                  refine wpAnyH_done (by kernel_rfl) ?_ _
                  go_wp2_with fail
                  go_ret
                  exact ⟨by simp, T2, R3, pd.two q2 s2 q3 s3, (sw.trans (Step.keep bd)).trans ((s2.left R).trans (s3.right T2))⟩
                · have HA8 : Hid (σ = τ) := by
                    have e := HA.out
                    rw [if_neg h0, if_neg h1, if_neg h2, if_neg h3, if_neg h4, if_neg h5, if_neg h6, if_neg h7] at e
                    exact e.symm
                  have g0 : (s.kd == 0) = false := by simpa using h0
                  have g1 : (s.kd == 1) = false := by simpa using h1
                  have g2 : (s.kd == 2) = false := by simpa using h2
                  have g3 : (s.kd == 3) = false := by simpa using h3
                  have g4 : (s.kd == 4) = false := by simpa using h4
                  have g5 : (s.kd == 5) = false := by simpa using h5
                  have g6 : (s.kd == 6) = false := by simpa using h6
                  have g7 : (s.kd == 7) = false := by simpa using h7
                  clear HA hcx h0 h1 h2 h3 h4 h5 h6 h7
                  go_wp2_with fail
                  go_ret
                  exact ⟨rfl, T, R, by rw [← HA8.out]; exact p1, sw⟩
end
end Go.Proofs.YtjgclehghnmhnaaDoor
namespace Go.Proofs.YtjgclehghnmhnaaDoor
open Go Go.RowKit

theorem zS_A : spA zS = #[.int .i64 0, .int .i64 0, .int .i64 0, .bool false, .int .i64 0, .int .i64 0, .int .i64 0, .int .i64 0, .int .i64 0, .int .i64 0, .int .i64 0, .int .i64 0, .int .i64 0, .int .i64 0, .int .i64 0] := rfl
theorem s15_one (e : Sp) : (s15 e).toArray.all (·.oneCell') = true := all_oneCell_toArray (fun u hu => by
  simp [s15] at hu
  rcases hu with rfl | rfl | rfl | rfl | rfl | rfl | rfl | rfl | rfl | rfl | rfl | rfl | rfl | rfl | rfl <;> rfl)
theorem Cel.there15 {W : World} {b : Nat} {t : TypeId} {a : Sp} (h : Cel W b (spA a) t) : W.there b 0 15 := fun k hk => ⟨by
  rw [Nat.zero_add]
  have hk' : k < (spA a).size := hk
  rw [Cel.cell (j := k) h (Array.getElem?_eq_getElem hk')]
  rfl, h.fz _⟩
theorem Cel.range15 {W : World} {b : Nat} {t : TypeId} {a : Sp} (h : Cel W b (spA a) t) : W.rangeAt b 0 (s15 a) := fun j v hv => by
  rw [Nat.zero_add]
  exact h.cell (by rw [← s15_arr]; simpa using hv)
theorem Cel.all15 {W : World} {b : Nat} {t : TypeId} {a0 a1 a2 a3 a4 a5 a6 a7 a8 a9 a10 a11 a12 a13 a14 : Value} (v0 v1 v2 v3 v4 v5 v6 v7 v8 v9 v10 v11 v12 v13 v14 : Value) (h : Cel W b #[a0, a1, a2, a3, a4, a5, a6, a7, a8, a9, a10, a11, a12, a13, a14] t) : Cel (W.setCells b 0 [v0, v1, v2, v3, v4, v5, v6, v7, v8, v9, v10, v11, v12, v13, v14]) b #[v0, v1, v2, v3, v4, v5, v6, v7, v8, v9, v10, v11, v12, v13, v14] t := by
  have h0 : Cel (W.setCell ⟨b, 0, none⟩ v0) b #[v0, a1, a2, a3, a4, a5, a6, a7, a8, a9, a10, a11, a12, a13, a14] t := Cel.set (j := 0) h v0
  have h1 : Cel ((W.setCell ⟨b, 0, none⟩ v0).setCell ⟨b, 1, none⟩ v1) b #[v0, v1, a2, a3, a4, a5, a6, a7, a8, a9, a10, a11, a12, a13, a14] t := Cel.set (j := 1) h0 v1
  have h2 : Cel (((W.setCell ⟨b, 0, none⟩ v0).setCell ⟨b, 1, none⟩ v1).setCell ⟨b, 2, none⟩ v2) b #[v0, v1, v2, a3, a4, a5, a6, a7, a8, a9, a10, a11, a12, a13, a14] t := Cel.set (j := 2) h1 v2
  have h3 : Cel ((((W.setCell ⟨b, 0, none⟩ v0).setCell ⟨b, 1, none⟩ v1).setCell ⟨b, 2, none⟩ v2).setCell ⟨b, 3, none⟩ v3) b #[v0, v1, v2, v3, a4, a5, a6, a7, a8, a9, a10, a11, a12, a13, a14] t := Cel.set (j := 3) h2 v3
  have h4 : Cel (((((W.setCell ⟨b, 0, none⟩ v0).setCell ⟨b, 1, none⟩ v1).setCell ⟨b, 2, none⟩ v2).setCell ⟨b, 3, none⟩ v3).setCell ⟨b, 4, none⟩ v4) b #[v0, v1, v2, v3, v4, a5, a6, a7, a8, a9, a10, a11, a12, a13, a14] t := Cel.set (j := 4) h3 v4
  have h5 : Cel ((((((W.setCell ⟨b, 0, none⟩ v0).setCell ⟨b, 1, none⟩ v1).setCell ⟨b, 2, none⟩ v2).setCell ⟨b, 3, none⟩ v3).setCell ⟨b, 4, none⟩ v4).setCell ⟨b, 5, none⟩ v5) b #[v0, v1, v2, v3, v4, v5, a6, a7, a8, a9, a10, a11, a12, a13, a14] t := Cel.set (j := 5) h4 v5
  have h6 : Cel (((((((W.setCell ⟨b, 0, none⟩ v0).setCell ⟨b, 1, none⟩ v1).setCell ⟨b, 2, none⟩ v2).setCell ⟨b, 3, none⟩ v3).setCell ⟨b, 4, none⟩ v4).setCell ⟨b, 5, none⟩ v5).setCell ⟨b, 6, none⟩ v6) b #[v0, v1, v2, v3, v4, v5, v6, a7, a8, a9, a10, a11, a12, a13, a14] t := Cel.set (j := 6) h5 v6
  have h7 : Cel ((((((((W.setCell ⟨b, 0, none⟩ v0).setCell ⟨b, 1, none⟩ v1).setCell ⟨b, 2, none⟩ v2).setCell ⟨b, 3, none⟩ v3).setCell ⟨b, 4, none⟩ v4).setCell ⟨b, 5, none⟩ v5).setCell ⟨b, 6, none⟩ v6).setCell ⟨b, 7, none⟩ v7) b #[v0, v1, v2, v3, v4, v5, v6, v7, a8, a9, a10, a11, a12, a13, a14] t := Cel.set (j := 7) h6 v7
  have h8 : Cel (((((((((W.setCell ⟨b, 0, none⟩ v0).setCell ⟨b, 1, none⟩ v1).setCell ⟨b, 2, none⟩ v2).setCell ⟨b, 3, none⟩ v3).setCell ⟨b, 4, none⟩ v4).setCell ⟨b, 5, none⟩ v5).setCell ⟨b, 6, none⟩ v6).setCell ⟨b, 7, none⟩ v7).setCell ⟨b, 8, none⟩ v8) b #[v0, v1, v2, v3, v4, v5, v6, v7, v8, a9, a10, a11, a12, a13, a14] t := Cel.set (j := 8) h7 v8
  have h9 : Cel ((((((((((W.setCell ⟨b, 0, none⟩ v0).setCell ⟨b, 1, none⟩ v1).setCell ⟨b, 2, none⟩ v2).setCell ⟨b, 3, none⟩ v3).setCell ⟨b, 4, none⟩ v4).setCell ⟨b, 5, none⟩ v5).setCell ⟨b, 6, none⟩ v6).setCell ⟨b, 7, none⟩ v7).setCell ⟨b, 8, none⟩ v8).setCell ⟨b, 9, none⟩ v9) b #[v0, v1, v2, v3, v4, v5, v6, v7, v8, v9, a10, a11, a12, a13, a14] t := Cel.set (j := 9) h8 v9
  have h10 : Cel (((((((((((W.setCell ⟨b, 0, none⟩ v0).setCell ⟨b, 1, none⟩ v1).setCell ⟨b, 2, none⟩ v2).setCell ⟨b, 3, none⟩ v3).setCell ⟨b, 4, none⟩ v4).setCell ⟨b, 5, none⟩ v5).setCell ⟨b, 6, none⟩ v6).setCell ⟨b, 7, none⟩ v7).setCell ⟨b, 8, none⟩ v8).setCell ⟨b, 9, none⟩ v9).setCell ⟨b, 10, none⟩ v10) b #[v0, v1, v2, v3, v4, v5, v6, v7, v8, v9, v10, a11, a12, a13, a14] t := Cel.set (j := 10) h9 v10
  have h11 : Cel ((((((((((((W.setCell ⟨b, 0, none⟩ v0).setCell ⟨b, 1, none⟩ v1).setCell ⟨b, 2, none⟩ v2).setCell ⟨b, 3, none⟩ v3).setCell ⟨b, 4, none⟩ v4).setCell ⟨b, 5, none⟩ v5).setCell ⟨b, 6, none⟩ v6).setCell ⟨b, 7, none⟩ v7).setCell ⟨b, 8, none⟩ v8).setCell ⟨b, 9, none⟩ v9).setCell ⟨b, 10, none⟩ v10).setCell ⟨b, 11, none⟩ v11) b #[v0, v1, v2, v3, v4, v5, v6, v7, v8, v9, v10, v11, a12, a13, a14] t := Cel.set (j := 11) h10 v11
  have h12 : Cel (((((((((((((W.setCell ⟨b, 0, none⟩ v0).setCell ⟨b, 1, none⟩ v1).setCell ⟨b, 2, none⟩ v2).setCell ⟨b, 3, none⟩ v3).setCell ⟨b, 4, none⟩ v4).setCell ⟨b, 5, none⟩ v5).setCell ⟨b, 6, none⟩ v6).setCell ⟨b, 7, none⟩ v7).setCell ⟨b, 8, none⟩ v8).setCell ⟨b, 9, none⟩ v9).setCell ⟨b, 10, none⟩ v10).setCell ⟨b, 11, none⟩ v11).setCell ⟨b, 12, none⟩ v12) b #[v0, v1, v2, v3, v4, v5, v6, v7, v8, v9, v10, v11, v12, a13, a14] t := Cel.set (j := 12) h11 v12
  have h13 : Cel ((((((((((((((W.setCell ⟨b, 0, none⟩ v0).setCell ⟨b, 1, none⟩ v1).setCell ⟨b, 2, none⟩ v2).setCell ⟨b, 3, none⟩ v3).setCell ⟨b, 4, none⟩ v4).setCell ⟨b, 5, none⟩ v5).setCell ⟨b, 6, none⟩ v6).setCell ⟨b, 7, none⟩ v7).setCell ⟨b, 8, none⟩ v8).setCell ⟨b, 9, none⟩ v9).setCell ⟨b, 10, none⟩ v10).setCell ⟨b, 11, none⟩ v11).setCell ⟨b, 12, none⟩ v12).setCell ⟨b, 13, none⟩ v13) b #[v0, v1, v2, v3, v4, v5, v6, v7, v8, v9, v10, v11, v12, v13, a14] t := Cel.set (j := 13) h12 v13
  have h14 : Cel (((((((((((((((W.setCell ⟨b, 0, none⟩ v0).setCell ⟨b, 1, none⟩ v1).setCell ⟨b, 2, none⟩ v2).setCell ⟨b, 3, none⟩ v3).setCell ⟨b, 4, none⟩ v4).setCell ⟨b, 5, none⟩ v5).setCell ⟨b, 6, none⟩ v6).setCell ⟨b, 7, none⟩ v7).setCell ⟨b, 8, none⟩ v8).setCell ⟨b, 9, none⟩ v9).setCell ⟨b, 10, none⟩ v10).setCell ⟨b, 11, none⟩ v11).setCell ⟨b, 12, none⟩ v12).setCell ⟨b, 13, none⟩ v13).setCell ⟨b, 14, none⟩ v14) b #[v0, v1, v2, v3, v4, v5, v6, v7, v8, v9, v10, v11, v12, v13, v14] t := Cel.set (j := 14) h13 v14
  exact h14
theorem Cel.st {W : World} {b : Nat} {t : TypeId} {a : Sp} (x : Sp) (h : Cel W b (spA a) t) : Cel (W.setCells b 0 (s15 x)) b (spA x) t := by
  exact Cel.all15 _ _ _ _ _ _ _ _ _ _ _ _ _ _ _ h
theorem AtS.put {w : World} {b o : Nat} {s : Sp} (h : AtS w b o s) : w.rangeAt b o (s15 s) := h.1
section
variable {W0 w w1 w2 : World} {B M N : Nat} {T R : List Nat} {σ : Sta}
theorem Pr.new (h1 : TQ w1 B T N σ) (s1 : Step [] w T w1) (h2 : RQ w2 M R N σ) (s2 : Step [] w1 R w2) : Pr w w2 B T M R N σ := by
  refine ⟨h1.keep s2.but, h2, fun x hx hr => ?_, s1.trans (by simpa using s2.right T)⟩
  have := h1.lt x hx
  rcases s2.new x hr with h | h
  · simp at h
  · omega
/-- The document's row, where it lies. -/
theorem RQ.row (h : RQ w M R N σ) : ∃ sl c, w.cell? ⟨M, 1, none⟩ = some (.slice sl σ.xs.length c) ∧ ∀ W, Below w.heap.size w W → AV W sl σ.xs := by
  obtain ⟨S, A, K, v, rfl, hm⟩ := h
  obtain ⟨sl, c, rfl, he⟩ := hm.shape
  exact ⟨sl, c, hm.c1, fun W b => he.below b⟩
end
end Go.Proofs.YtjgclehghnmhnaaDoor
