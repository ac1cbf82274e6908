/- The document's turn from one state to another one, and its faces. -/
import Derived.Test.YtlnfabjgcecebaaGreatRdJ
import Derived.Test.YtlnfabjgcecebaaGreatStTail
namespace Go.Proofs.YtlnfabjgcecebaaGreat.Rd
open Go Go.RowKit Go.Proofs.YtlnfabjgcecebaaGreat.Big Go.Proofs.YtlnfabjgcecebaaGreat.Str Go.Proofs.YtlnfabjgcecebaaGreat.Hp

section
variable {w w' : World} {M G N : Nat} {σ : Qs}
set_option maxHeartbeats 2000000 in
theorem turn_any (h : RQ w M G N σ) (id fr tt : Int) (b : Bool) (hn0 : -9223372036854775808 ≤ σ.now) (hn1 : σ.now ≤ 9223372036854775807) :
    Calls Tryz.prog 54 #[.pointer (some ⟨M, 0, none⟩), .int .i64 id, .int .i64 fr, .int .i64 tt, .bool b] w fun e w' => e = .returned (.int .i64 (turnE σ id fr)) ∧ RQ w' M G N (turnS σ id fr tt b) ∧ Hp.But [M, G] w w' := by
  have R := row_any h id
  cases hi : inB σ id
  · have hE : turnE σ id fr = 8 := by unfold turnE; rw [hi]; rfl
    have hS : turnS σ id fr tt b = σ := by unfold turnS; rw [hE]; rfl
    rw [hE, hS]
    rw [hi] at R
    go_enter Tryz.func54, Tryz.ntmps54
    go_wp2_with (first | (go_at_call 49; (with_reducible refine R.mono ?_); rintro e w1 ⟨rfl, rfl⟩))
    go_ret
    exact ⟨rfl, h, Hp.But.refl _ _⟩
  · obtain ⟨k, rfl, hk⟩ := inB_out hi
    have hkN : k < N := by rw [← h.len]; exact hk
    have c0 := h.r0 hkN
    have f0 := h.g.fz (k * 4)
    rw [hi] at R
    rw [if_pos rfl, show (k : Int).toNat = k by omega] at R
    by_cases h0 : (rw σ.L k).1 = fr
    · have hE : turnE σ (k : Int) fr = 0 := by unfold turnE; rw [hi, if_neg (by simp), rwI_of hk, if_neg (by simpa using h0)]
      have hS : turnS σ (k : Int) fr tt b = ⟨σ.now, σ.L.set k (tt, (rw σ.L k).2.1, (if b = true then entI (rw σ.L k).2.2.1 σ.now (strI (rw σ.L k).2.1) else (rw σ.L k).2.2.1), (rw σ.L k).2.2.2)⟩ := by
        unfold turnS
        rw [if_pos hE, rwI_of hk]
        rfl
      rw [hE, hS]
      rw [h0] at c0
      have h1 := h.f0 hkN tt
      have hB1 : Hp.But [M, G] w (w.setCell ⟨G, k * 4, none⟩ (.int .i64 tt)) := (Hp.But.refl [M, G] w).set (p := ⟨G, k * 4, none⟩) (by simp) _
      have hrs : rw (σ.L.set k (tt, (rw σ.L k).2)) k = (tt, (rw σ.L k).2) := rw_set_same hk _
      have hne : (fr == fr) = true := by simp
      cases b
      · rw [if_neg (by simp)]
        clear h0
        go_enter Tryz.func54, Tryz.ntmps54
        go_wp2_with (first | (go_at_call 49; (with_reducible refine R.mono ?_); rintro e w1 ⟨rfl, rfl⟩))
        go_ret
        exact ⟨rfl, h1, hB1⟩
      · rw [if_pos rfl]
        have d2 := h1.r2 hkN
        have d1 := h1.r1 hkN
        have d0 := h1.c0
        have hset : ∀ x : Int, (σ.L.set k (tt, (rw σ.L k).2)).set k ((rw (σ.L.set k (tt, (rw σ.L k).2)) k).1, (rw (σ.L.set k (tt, (rw σ.L k).2)) k).2.1, x, (rw (σ.L.set k (tt, (rw σ.L k).2)) k).2.2.2) = σ.L.set k (tt, (rw σ.L k).2.1, x, (rw σ.L k).2.2.2) := fun x => by
          rw [hrs, List.set_set]
        have hF2 : ∀ W, RQ W M G N ⟨σ.now, σ.L.set k (tt, (rw σ.L k).2)⟩ → ∀ x : Int, RQ (W.setCell ⟨G, k * 4 + 2, none⟩ (.int .i64 x)) M G N ⟨σ.now, σ.L.set k (tt, (rw σ.L k).2.1, x, (rw σ.L k).2.2.2)⟩ := fun W hW x => by
          have := hW.f2 hkN x
          rw [← hset x]
          exact this
        have hsb := str_bd (rw σ.L k).2.1
        have HSt := fun W => rstride_any (rw σ.L k).2.1 W
        have HEn := fun W => renter_any (rw σ.L k).2.2.1 σ.now (strI (rw σ.L k).2.1) W hn0 hn1 (by omega) (by omega)
        rw [hrs] at d2 d1
        have hRQ : ∀ W, Below (w.setCell ⟨G, k * 4, none⟩ (.int .i64 tt)).heap.size (w.setCell ⟨G, k * 4, none⟩ (.int .i64 tt)) W → RQ W M G N ⟨σ.now, σ.L.set k (tt, (rw σ.L k).2)⟩ := fun W hb => h1.below hb
        go_enter Tryz.func54, Tryz.ntmps54
        go_upto_region 8 with (first | (go_at_call 49; (with_reducible refine R.mono ?_); rintro e w1 ⟨rfl, hw⟩; subst w1))
        clear h0 hE hS h hk hset hrs
        obtain ⟨ev, hev⟩ : ∃ ev, Hid (entI (rw σ.L k).2.2.1 σ.now (strI (rw σ.L k).2.1) = ev) := ⟨_, rfl⟩
        rw [hev.out] at HEn
        have hF3 := hF2
        obtain ⟨V, hV⟩ : ∃ V, V = w.setCell ⟨G, k * 4, none⟩ (.int .i64 tt) := ⟨_, rfl⟩
        rw [← hV] at d2 d1 d0 hRQ hB1 h1 ⊢
        clear hV
        replace d2 : V.drew.cell? ⟨G, k * 4 + 2, none⟩ = some (.int .i64 (rw σ.L k).2.2.1) := d2
        replace d1 : V.drew.cell? ⟨G, k * 4 + 1, none⟩ = some (.int .i64 (rw σ.L k).2.1) := d1
        replace d0 : V.drew.cell? ⟨M, 0, none⟩ = some (.int .i64 σ.now) := d0
        generalize hps : (rw σ.L k).2.2.1 = ps at d2 HEn
        generalize hnw : σ.now = now at d0 HEn
        generalize htk : (rw σ.L k).2.1 = tk at d1 HSt HEn
        replace hps := Hid.mk hps
        replace hnw := Hid.mk hnw
        replace htk := Hid.mk htk
        generalize strI tk = s at HSt HEn
        refine wp_region_K 17 (fun w' => w'.cell? ⟨G, k * 4 + 2, none⟩ = some (.int .i64 ps) ∧ w'.cell? ⟨M, 0, none⟩ = some (.int .i64 now) ∧ w'.cell? ⟨G, k * 4 + 1, none⟩ = some (.int .i64 tk) ∧ Below V.heap.size V w') (by kernel_rfl) (by kernel_rfl) ⟨d2, d0, d1, (Below.refl _ V).drew⟩ (fun hHeld hdep => ?_)
        refine wpAnyK_take (i := 0) (v := ?_) (some 28) rfl rfl hdep (by kernel_rfl) (fun _ _ _ h => h) (Or.inl ⟨by rfl, ?_⟩) (by assumption) ?_
        rotate_left
        · (intro w hSw; go_simp; all_goals with_reducible rfl)
        try simp only [Act.put, List.setIfInBounds_toArray, List.set_cons_zero, List.set_cons_succ]
        refine wpAnyK_take (i := 1) (v := ?_) (some 29) rfl rfl hdep (by kernel_rfl) (fun _ _ _ h => h) (Or.inl ⟨by rfl, ?_⟩) (by assumption) ?_
        rotate_left
        · (intro w hSw; go_simp; all_goals with_reducible rfl)
        try simp only [Act.put, List.setIfInBounds_toArray, List.set_cons_zero, List.set_cons_succ]
        refine wpAnyK_take (i := 2) (v := ?_) (some 30) rfl rfl hdep (by kernel_rfl) (fun _ _ _ h => h) (Or.inl ⟨by rfl, ?_⟩) (by assumption) ?_
        rotate_left
        · (intro w hSw; go_simp; all_goals with_reducible rfl)
        try simp only [Act.put, List.setIfInBounds_toArray, List.set_cons_zero, List.set_cons_succ]
        refine wpAnyK_take (i := 3) (v := ?_) (some 31) rfl rfl hdep (by kernel_rfl) (fun _ _ _ h => h) (Or.inl ⟨by rfl, ?_⟩) (by assumption) ?_
        rotate_left
        · (intro w hSw; go_simp; all_goals with_reducible rfl)
        try simp only [Act.put, List.setIfInBounds_toArray, List.set_cons_zero, List.set_cons_succ]
        refine wpAnyK_take (i := 4) (v := ?_) (some 32) rfl rfl hdep (by kernel_rfl) (fun _ _ _ h => h) (Or.inl ⟨by rfl, ?_⟩) (by assumption) ?_
        rotate_left
        · (intro w hSw; obtain ⟨z0, z1, z2, z3⟩ := hSw; go_simp; all_goals with_reducible rfl)
        try simp only [Act.put, List.setIfInBounds_toArray, List.set_cons_zero, List.set_cons_succ]
        refine wpAnyK_take (i := 5) (v := ?_) (some 33) rfl rfl hdep (by kernel_rfl) (fun _ _ _ h => h) (Or.inl ⟨by rfl, ?_⟩) (by assumption) ?_
        rotate_left
        · (intro w hSw; go_simp; all_goals with_reducible rfl)
        try simp only [Act.put, List.setIfInBounds_toArray, List.set_cons_zero, List.set_cons_succ]
        refine wpAnyK_take (i := 6) (v := ?_) (some 34) rfl rfl hdep (by kernel_rfl) (fun _ _ _ h => h) (Or.inl ⟨by rfl, ?_⟩) (by assumption) ?_
        rotate_left
        · (intro w hSw; go_simp; all_goals with_reducible rfl)
        try simp only [Act.put, List.setIfInBounds_toArray, List.set_cons_zero, List.set_cons_succ]
        refine wpAnyK_take (i := 7) (v := ?_) (some 35) rfl rfl hdep (by kernel_rfl) (fun _ _ _ h => h) (Or.inl ⟨by rfl, ?_⟩) (by assumption) ?_
        rotate_left
        · (intro w hSw; go_simp; all_goals with_reducible rfl)
        try simp only [Act.put, List.setIfInBounds_toArray, List.set_cons_zero, List.set_cons_succ]
        refine wpAnyK_take (i := 8) (v := ?_) (some 36) rfl rfl hdep (by kernel_rfl) (fun _ _ _ h => h) (Or.inl ⟨by rfl, ?_⟩) (by assumption) ?_
        rotate_left
        · (intro w hSw; obtain ⟨z0, z1, z2, z3⟩ := hSw; go_simp; all_goals with_reducible rfl)
        try simp only [Act.put, List.setIfInBounds_toArray, List.set_cons_zero, List.set_cons_succ]
        refine wpAnyK_take (i := 9) (v := ?_) (some 37) rfl rfl hdep (by kernel_rfl) (fun _ _ _ h => h) (Or.inl ⟨by rfl, ?_⟩) (by assumption) ?_
        rotate_left
        · (intro w hSw; go_simp; all_goals with_reducible rfl)
        try simp only [Act.put, List.setIfInBounds_toArray, List.set_cons_zero, List.set_cons_succ]
        refine wpAnyK_take (i := 10) (v := ?_) (some 38) rfl rfl hdep (by kernel_rfl) (fun _ _ _ h => h) (Or.inl ⟨by rfl, ?_⟩) (by assumption) ?_
        rotate_left
        · (intro w hSw; go_simp; all_goals with_reducible rfl)
        try simp only [Act.put, List.setIfInBounds_toArray, List.set_cons_zero, List.set_cons_succ]
        refine wpAnyK_take (i := 11) (v := ?_) (some 39) rfl rfl hdep (by kernel_rfl) (fun _ _ _ h => h) (Or.inl ⟨by rfl, ?_⟩) (by assumption) ?_
        rotate_left
        · (intro w hSw; go_simp; all_goals with_reducible rfl)
        try simp only [Act.put, List.setIfInBounds_toArray, List.set_cons_zero, List.set_cons_succ]
        refine wpAnyK_take (i := 12) (v := ?_) (some 40) rfl rfl hdep (by kernel_rfl) (fun _ _ _ h => h) (Or.inl ⟨by rfl, ?_⟩) (by assumption) ?_
        rotate_left
        · (intro w hSw; obtain ⟨z0, z1, z2, z3⟩ := hSw; go_simp; all_goals with_reducible rfl)
        try simp only [Act.put, List.setIfInBounds_toArray, List.set_cons_zero, List.set_cons_succ]
        refine wpAnyK_one (i := 13) (by kernel_rfl) rfl (fun K hK => ?_)
        go_simp
        go_at_call 50
        (with_reducible refine (HSt _).mono ?_)
        rintro e w2 ⟨rfl, hw⟩
        subst w2
        refine hK.out _ _ (fun _ => hHeld) ?_
        clear hK K
        try simp only [Act.put, List.setIfInBounds_toArray, List.set_cons_zero, List.set_cons_succ]
        refine wpAnyK_one (i := 14) (by kernel_rfl) rfl (fun K hK => ?_)
        go_simp
        go_at_call 79
        (with_reducible refine (HEn _).mono ?_)
        rintro e w2 ⟨rfl, hb2⟩
        replace hHeld : (fun w' => w'.cell? ⟨G, k * 4 + 2, none⟩ = some (.int .i64 ps) ∧ w'.cell? ⟨M, 0, none⟩ = some (.int .i64 now) ∧ w'.cell? ⟨G, k * 4 + 1, none⟩ = some (.int .i64 tk) ∧ Below V.heap.size V w') w2 := ⟨Hp.cell_on hb2 hHeld.1, Hp.cell_on hb2 hHeld.2.1, Hp.cell_on hb2 hHeld.2.2.1, hHeld.2.2.2.trans (hb2.mono hHeld.2.2.2.size)⟩
        refine hK.out _ _ (fun _ => hHeld) ?_
        clear hK K
        try simp only [Act.put, List.setIfInBounds_toArray, List.set_cons_zero, List.set_cons_succ]
        refine wpAnyK_take (i := 15) (v := ?_) (some 43) rfl rfl hdep (by kernel_rfl) (fun _ _ _ h => h) (Or.inl ⟨by rfl, ?_⟩) (by assumption) ?_
        rotate_left
        · (intro w hSw; go_simp; all_goals with_reducible rfl)
        try simp only [Act.put, List.setIfInBounds_toArray, List.set_cons_zero, List.set_cons_succ]
        refine wpAnyK_take (i := 16) (v := ?_) (some 44) rfl rfl hdep (by kernel_rfl) (fun _ _ _ h => h) (Or.inl ⟨by rfl, ?_⟩) (by assumption) ?_
        rotate_left
        · (intro w hSw; go_simp; all_goals with_reducible rfl)
        try simp only [Act.put, List.setIfInBounds_toArray, List.set_cons_zero, List.set_cons_succ]
        have hH := hRQ w2 hHeld.2.2.2
        have fz := hH.g.fz (k * 4 + 2)
        have zc := hHeld.1
        have hBw := hHeld.2.2.2
        refine wpAnyK_one (i := 17) (by kernel_rfl) rfl (fun K hK => ?_)
        go_simp
        refine hK.out _ _ (fun h => absurd rfl h) ?_
        clear hK K
        try simp only [Act.put, List.setIfInBounds_toArray, List.set_cons_zero, List.set_cons_succ]
        refine wpAnyK_done (by kernel_rfl) ?_
        have hFin := hF2 w2 hH ev
        have hBF : Hp.But [M, G] w (w2.setCell ⟨G, k * 4 + 2, none⟩ (.int .i64 ev)) := (hB1.trans (Hp.But.of_below hBw)).set (p := ⟨G, k * 4 + 2, none⟩) (by simp) _
        rw [← hev.out] at hFin
        go_wp2_with fail
        go_ret
        rw [← hev.out] at *
        exact ⟨rfl, hFin, hBF⟩
    · have hE : turnE σ (k : Int) fr = 5 := by unfold turnE; rw [hi, if_neg (by simp), rwI_of hk, if_pos h0]
      have hS : turnS σ (k : Int) fr tt b = σ := by unfold turnS; rw [hE]; rfl
      rw [hE, hS]
      have h0' : ((rw σ.L k).1 == fr) = false := by simpa using h0
      generalize (rw σ.L k).1 = st at *
      clear h0
      go_enter Tryz.func54, Tryz.ntmps54
      go_wp2_with (first | (go_at_call 49; (with_reducible refine R.mono ?_); rintro e w1 ⟨rfl, rfl⟩))
      go_ret
      exact ⟨rfl, h, Hp.But.refl _ _⟩
theorem rtake_any (h : RQ w M G N σ) (id : Int) (hn0 : -9223372036854775808 ≤ σ.now) (hn1 : σ.now ≤ 9223372036854775807) :
    Calls Tryz.prog 18 #[.pointer (some ⟨M, 0, none⟩), .int .i64 id] w fun e w' => e = .returned (.int .i64 (turnE σ id 1)) ∧ RQ w' M G N (turnS σ id 1 2 false) ∧ Hp.But [M, G] w w' := by
  have T := turn_any h id 1 2 false hn0 hn1
  go_enter Tryz.func18, Tryz.ntmps18
  go_wp2_with (first | (go_at_call 54; (with_reducible refine T.mono ?_); rintro e w1 ⟨rfl, k1, k2⟩))
  go_ret
  exact ⟨rfl, k1, k2⟩
theorem rback_any (h : RQ w M G N σ) (id : Int) (hn0 : -9223372036854775808 ≤ σ.now) (hn1 : σ.now ≤ 9223372036854775807) :
    Calls Tryz.prog 19 #[.pointer (some ⟨M, 0, none⟩), .int .i64 id] w fun e w' => e = .returned (.int .i64 (turnE σ id 2)) ∧ RQ w' M G N (turnS σ id 2 1 true) ∧ Hp.But [M, G] w w' := by
  have T := turn_any h id 2 1 true hn0 hn1
  go_enter Tryz.func19, Tryz.ntmps19
  go_wp2_with (first | (go_at_call 54; (with_reducible refine T.mono ?_); rintro e w1 ⟨rfl, k1, k2⟩))
  go_ret
  exact ⟨rfl, k1, k2⟩
theorem rblock_any (h : RQ w M G N σ) (id : Int) (hn0 : -9223372036854775808 ≤ σ.now) (hn1 : σ.now ≤ 9223372036854775807) :
    Calls Tryz.prog 21 #[.pointer (some ⟨M, 0, none⟩), .int .i64 id] w fun e w' => e = .returned (.int .i64 (turnE σ id 2)) ∧ RQ w' M G N (turnS σ id 2 3 false) ∧ Hp.But [M, G] w w' := by
  have T := turn_any h id 2 3 false hn0 hn1
  go_enter Tryz.func21, Tryz.ntmps21
  go_wp2_with (first | (go_at_call 54; (with_reducible refine T.mono ?_); rintro e w1 ⟨rfl, k1, k2⟩))
  go_ret
  exact ⟨rfl, k1, k2⟩
theorem rwake_any (h : RQ w M G N σ) (id : Int) (hn0 : -9223372036854775808 ≤ σ.now) (hn1 : σ.now ≤ 9223372036854775807) :
    Calls Tryz.prog 23 #[.pointer (some ⟨M, 0, none⟩), .int .i64 id] w fun e w' => e = .returned (.int .i64 (turnE σ id 3)) ∧ RQ w' M G N (turnS σ id 3 1 true) ∧ Hp.But [M, G] w w' := by
  have T := turn_any h id 3 1 true hn0 hn1
  go_enter Tryz.func23, Tryz.ntmps23
  go_wp2_with (first | (go_at_call 54; (with_reducible refine T.mono ?_); rintro e w1 ⟨rfl, k1, k2⟩))
  go_ret
  exact ⟨rfl, k1, k2⟩
theorem rresume_any (h : RQ w M G N σ) (id : Int) (hn0 : -9223372036854775808 ≤ σ.now) (hn1 : σ.now ≤ 9223372036854775807) :
    Calls Tryz.prog 25 #[.pointer (some ⟨M, 0, none⟩), .int .i64 id] w fun e w' => e = .returned (.int .i64 (turnE σ id 3)) ∧ RQ w' M G N (turnS σ id 3 2 false) ∧ Hp.But [M, G] w w' := by
  have T := turn_any h id 3 2 false hn0 hn1
  go_enter Tryz.func25, Tryz.ntmps25
  go_wp2_with (first | (go_at_call 54; (with_reducible refine T.mono ?_); rintro e w1 ⟨rfl, k1, k2⟩))
  go_ret
  exact ⟨rfl, k1, k2⟩
end
end Go.Proofs.YtlnfabjgcecebaaGreat.Rd
