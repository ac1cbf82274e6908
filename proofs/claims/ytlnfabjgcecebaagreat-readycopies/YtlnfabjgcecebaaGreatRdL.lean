/- The document's Lower. -/
import Derived.Test.YtlnfabjgcecebaaGreatRdP
namespace Go.Proofs.YtlnfabjgcecebaaGreat.Rd
open Go Go.RowKit Go.Proofs.YtlnfabjgcecebaaGreat.Big Go.Proofs.YtlnfabjgcecebaaGreat.Str

/-- The first j are lowered. -/
def lowJ (c : Int) (L : List Rw) (j : Nat) : List Rw := (L.take j).map (lowR c) ++ L.drop j
theorem lowJ_zero (c : Int) (L : List Rw) : lowJ c L 0 = L := by simp [lowJ]
theorem lowJ_all (c : Int) (L : List Rw) : lowJ c L L.length = L.map (lowR c) := by simp [lowJ]
theorem lowJ_len (c : Int) (L : List Rw) (j : Nat) : (lowJ c L j).length = L.length := by
  unfold lowJ
  rw [List.length_append, List.length_map, List.length_take, List.length_drop]
  omega
theorem lowJ_at {c : Int} {L : List Rw} {j : Nat} (h : j < L.length) : rw (lowJ c L j) j = rw L j := by
  unfold rw lowJ
  rw [List.getD_eq_getElem?_getD, List.getD_eq_getElem?_getD, List.getElem?_append_right (by rw [List.length_map, List.length_take]; omega), List.length_map, List.length_take, List.getElem?_drop]
  congr 2
  omega
theorem lowJ_succ {c : Int} {L : List Rw} {j : Nat} (h : j < L.length) : lowJ c L (j + 1) = (lowJ c L j).set j (lowR c (rw L j)) := by
  have e1 : L.drop j = rw L j :: L.drop (j + 1) := by
    rw [List.drop_eq_getElem_cons h]
    congr 1
    have := rw_get h
    rw [List.getElem?_eq_getElem h] at this
    exact Option.some.inj this
  unfold lowJ
  rw [List.take_add_one, rw_get h, e1, List.set_append_right _ _ (by rw [List.length_map, List.length_take]; omega), List.length_map, List.length_take, show j - min j L.length = 0 by omega, List.map_append]
  simp
theorem low_all {σ : Qs} {N : Nat} (hl : σ.L.length = N) (h : ∀ i, i < N → (decide ((rw σ.L i).1 = 0) || fitsB ((rw σ.L i).2.2.1 - σ.now)) = true) : lowB σ = true := by
  unfold lowB
  refine List.all_eq_true.2 (fun r hr => ?_)
  obtain ⟨i, hi, rfl⟩ := List.mem_iff_getElem.1 hr
  have := h i (by omega)
  have e := rw_get hi
  rw [List.getElem?_eq_getElem hi] at e
  rw [Option.some.inj e]
  exact this
theorem low_not {σ : Qs} {i : Nat} (hi : i < σ.L.length) (h : (decide ((rw σ.L i).1 = 0) || fitsB ((rw σ.L i).2.2.1 - σ.now)) = false) : lowB σ = false := by
  cases e : lowB σ
  · rfl
  · have := List.all_eq_true.1 e (rw σ.L i) (List.mem_of_getElem? (rw_get hi))
    rw [h] at this
    cases this
section
variable {w w' : World} {M G N : Nat} {σ : Qs}
set_option maxHeartbeats 4000000 in
set_option maxRecDepth 100000 in
theorem lower_any (h : RQ w M G N σ) (hn0 : -9223372036854775808 ≤ σ.now) (hn1 : σ.now ≤ 9223372036854775807) (hs : ∀ i, i < N → -9223372036854775808 ≤ (rw σ.L i).2.2.1 ∧ (rw σ.L i).2.2.1 ≤ 9223372036854775807) :
    Calls Tryz.prog 29 #[.pointer (some ⟨M, 0, none⟩)] w fun e w' => e = .returned (.int .i64 (lowN σ)) ∧ RQ w' M G N (lowS σ) ∧ Hp.But [M, G] w w' := by
  obtain ⟨gc, hg1, hg2, c1⟩ := h.c1
  have hN2 := h.n2
  have HL : Hid (σ.L.length = N) := h.len
  have HR : Aside (∀ W, Below w.heap.size w W → RQ W M G N σ) := fun W hb => h.below hb
  have HM : Hid (M < w.heap.size ∧ G < w.heap.size ∧ M ≠ G) := ⟨h.ltM, h.g.lt, h.ne⟩
  obtain ⟨now, hnow⟩ : ∃ now, Hid (σ.now = now) := ⟨_, rfl⟩
  rw [hnow.out] at hn0 hn1
  go_enter Tryz.func29, Tryz.ntmps29
  go_wp2_with fail
  go_loopw [14, 5, 6] (fun q _ _ wr => ∃ j : Nat, j ≤ N ∧ q = .int .i64 j ∧ Hid (∀ i, i < j → (decide ((rw σ.L i).1 = 0) || fitsB ((rw σ.L i).2.2.1 - σ.now)) = true) ∧ Below w.heap.size w wr) (fun q _ _ _ => 4096 - (intOf q).toNat)
  case atStart => exact ⟨0, by omega, rfl, Hid.mk (fun i hi => by omega), Below.refl _ _⟩
  case round =>
    obtain ⟨j, hj, rfl, hall, hB⟩ := hrel
    have hrs := HR.out wr hB
    by_cases hlt : j < N
    · have hlt' : (j : Int) < (N : Int) := by omega
      have d0 := hrs.r0 hlt
      have d1 := hrs.r1 hlt
      have d2 := hrs.r2 hlt
      have d3 := hrs.r3 hlt
      have n0 := hrs.c0
      rw [hnow.out] at n0
      have hsj := hs j hlt
      have HNo : Hid ((decide ((rw σ.L j).1 = 0) || fitsB ((rw σ.L j).2.2.1 - now)) = false → lowB σ = false) := fun e => low_not (by rw [HL.out]; exact hlt) (by rw [hnow.out]; exact e)
      have HYes : Hid ((decide ((rw σ.L j).1 = 0) || fitsB ((rw σ.L j).2.2.1 - now)) = true → ∀ i, i < j + 1 → (decide ((rw σ.L i).1 = 0) || fitsB ((rw σ.L i).2.2.1 - σ.now)) = true) := fun e i hi => by
        by_cases e2 : i = j
        · rw [e2, hnow.out]; exact e
        · exact hall.out i (by omega)
      generalize (rw σ.L j).1 = st at *
      generalize (rw σ.L j).2.1 = tk at *
      generalize (rw σ.L j).2.2.1 = ps at *
      generalize (rw σ.L j).2.2.2 = pk at *
      have HSub := fun W => rsub_any ps now W hsj.1 hsj.2 hn0 hn1
      obtain ⟨b, hb⟩ : ∃ b, fitsB (ps - now) = b := ⟨_, rfl⟩
      rw [hb] at HSub HNo HYes
      clear hb hall hsj
      generalize toldI (ps - now) = tv at *
      have hBs := hB.size
      go_upto_region 4 with fail
      have x2 : (wr.alloc (.cells #[.int .i64 st, .int .i64 tk, .int .i64 ps, .int .i64 pk] 57)).drew.cell? ⟨wr.heap.size, 2, none⟩ = some (.int .i64 ps) := by simp [go_sem]
      have x0 : (wr.alloc (.cells #[.int .i64 st, .int .i64 tk, .int .i64 ps, .int .i64 pk] 57)).drew.cell? ⟨wr.heap.size, 0, none⟩ = some (.int .i64 st) := by simp [go_sem]
      have bV : Below wr.heap.size wr (wr.alloc (.cells #[.int .i64 st, .int .i64 tk, .int .i64 ps, .int .i64 pk] 57)) := (Below.refl _ wr).alloc (Nat.le_refl _) _
      have xn : (wr.alloc (.cells #[.int .i64 st, .int .i64 tk, .int .i64 ps, .int .i64 pk] 57)).drew.cell? ⟨M, 0, none⟩ = some (.int .i64 now) := Hp.cell_on bV.drew n0
      have bW : Below w.heap.size w (wr.alloc (.cells #[.int .i64 st, .int .i64 tk, .int .i64 ps, .int .i64 pk] 57)) := hB.alloc hB.size _
      generalize wr.alloc (.cells #[.int .i64 st, .int .i64 tk, .int .i64 ps, .int .i64 pk] 57) = V at *
      generalize wr.heap.size = X at *
      refine wp_region_held_drew (S := fun w' => w'.cell? ⟨X, 2, none⟩ = some (.int .i64 ps) ∧ w'.cell? ⟨M, 0, none⟩ = some (.int .i64 now) ∧ w'.cell? ⟨X, 0, none⟩ = some (.int .i64 st) ∧ Below V.heap.size V w') (by kernel_rfl) ⟨x2, xn, x0, (Below.refl _ V).drew⟩ (fun hHeld => ?_)
      refine anyH_take (i := 0) (v := ?_) (some 19) rfl rfl (by kernel_rfl) (fun _ _ _ h => h) (Or.inl ⟨by rfl, ?_⟩) (by assumption) ?_
      rotate_left
      · (intro w hSw; go_simp; all_goals with_reducible rfl)
      try simp only [Act.put, List.setIfInBounds_toArray, List.set_cons_zero, List.set_cons_succ]
      refine anyH_take (i := 1) (v := ?_) (some 20) rfl rfl (by kernel_rfl) (fun _ _ _ h => h) (Or.inl ⟨by rfl, ?_⟩) (by assumption) ?_
      rotate_left
      · (intro w hSw; obtain ⟨z0, z1, z2, z3⟩ := hSw; go_simp; all_goals with_reducible rfl)
      try simp only [Act.put, List.setIfInBounds_toArray, List.set_cons_zero, List.set_cons_succ]
      refine anyH_take (i := 2) (v := ?_) (some 21) rfl rfl (by kernel_rfl) (fun _ _ _ h => h) (Or.inl ⟨by rfl, ?_⟩) (by assumption) ?_
      rotate_left
      · (intro w hSw; go_simp; all_goals with_reducible rfl)
      try simp only [Act.put, List.setIfInBounds_toArray, List.set_cons_zero, List.set_cons_succ]
      refine anyH_take (i := 3) (v := ?_) (some 22) rfl rfl (by kernel_rfl) (fun _ _ _ h => h) (Or.inl ⟨by rfl, ?_⟩) (by assumption) ?_
      rotate_left
      · (intro w hSw; go_simp; all_goals with_reducible rfl)
      try simp only [Act.put, List.setIfInBounds_toArray, List.set_cons_zero, List.set_cons_succ]
      refine anyH_take (i := 4) (v := ?_) (some 23) rfl rfl (by kernel_rfl) (fun _ _ _ h => h) (Or.inl ⟨by rfl, ?_⟩) (by assumption) ?_
      rotate_left
      · (intro w hSw; go_simp; all_goals with_reducible rfl)
      try simp only [Act.put, List.setIfInBounds_toArray, List.set_cons_zero, List.set_cons_succ]
      refine anyH_take (i := 5) (v := ?_) (some 24) rfl rfl (by kernel_rfl) (fun _ _ _ h => h) (Or.inl ⟨by rfl, ?_⟩) (by assumption) ?_
      rotate_left
      · (intro w hSw; obtain ⟨z0, z1, z2, z3⟩ := hSw; go_simp; all_goals with_reducible rfl)
      try simp only [Act.put, List.setIfInBounds_toArray, List.set_cons_zero, List.set_cons_succ]
      refine anyH_one (i := 6) (by kernel_rfl) rfl (fun K hK => ?_)
      go_simp
      go_at_call 60
      (with_reducible refine (HSub _).mono ?_)
      rintro e w2 ⟨rfl, hb2⟩
      refine hK.out _ _ ⟨Hp.cell_on hb2 hHeld.1, Hp.cell_on hb2 hHeld.2.1, Hp.cell_on hb2 hHeld.2.2.1, hHeld.2.2.2.trans (hb2.mono hHeld.2.2.2.size)⟩ (fun hHeld => ?_)
      clear hK K
      try simp only [Act.put, List.setIfInBounds_toArray, List.set_cons_zero, List.set_cons_succ]
      refine anyH_take (i := 7) (v := ?_) (some 18) rfl rfl (by kernel_rfl) (fun _ _ _ h => h) (Or.inl ⟨by rfl, ?_⟩) (by assumption) ?_
      rotate_left
      · (intro w hSw; go_simp; all_goals with_reducible rfl)
      try simp only [Act.put, List.setIfInBounds_toArray, List.set_cons_zero, List.set_cons_succ]
      refine anyH_take (i := 8) (v := ?_) (some 26) rfl rfl (by kernel_rfl) (fun _ _ _ h => h) (Or.inl ⟨by rfl, ?_⟩) (by assumption) ?_
      rotate_left
      · (intro w hSw; go_simp; all_goals with_reducible rfl)
      try simp only [Act.put, List.setIfInBounds_toArray, List.set_cons_zero, List.set_cons_succ]
      refine anyH_take (i := 9) (v := ?_) (some 27) rfl rfl (by kernel_rfl) (fun _ _ _ h => h) (Or.inl ⟨by rfl, ?_⟩) (by assumption) ?_
      rotate_left
      · (intro w hSw; go_simp; all_goals with_reducible rfl)
      try simp only [Act.put, List.setIfInBounds_toArray, List.set_cons_zero, List.set_cons_succ]
      refine anyH_take (i := 10) (v := ?_) (some 5) rfl rfl (by kernel_rfl) (fun _ _ _ h => h) (Or.inl ⟨by rfl, ?_⟩) (by assumption) ?_
      rotate_left
      · (intro w hSw; go_simp; all_goals with_reducible rfl)
      try simp only [Act.put, List.setIfInBounds_toArray, List.set_cons_zero, List.set_cons_succ]
      refine anyH_take (i := 11) (v := ?_) (some 6) rfl rfl (by kernel_rfl) (fun _ _ _ h => h) (Or.inl ⟨by rfl, ?_⟩) (by assumption) ?_
      rotate_left
      · (intro w hSw; go_simp; all_goals with_reducible rfl)
      try simp only [Act.put, List.setIfInBounds_toArray, List.set_cons_zero, List.set_cons_succ]
      refine wpAnyH_done (by kernel_rfl) ?_ _
      have x0' := hHeld.2.2.1
      have hbE := bW.trans (hHeld.2.2.2.mono bW.size)
      by_cases h0 : st = 0
      · subst h0
        have hy := HYes.out (by simp)
        replace hy := Hid.mk hy
        go_wp2_with fail
        go_roundw
        case rel => exact ⟨j + 1, by omega, by simp, hy, hbE⟩
        case measure =>
          simp [intOf]
          omega
      · have h0' : (st == 0) = false := by simpa using h0
        have h0n : (st != 0) = true := by simpa using h0
        cases b
        · have hno := HNo.out (by simp [h0])
          have hR2 := HR.out w2 hbE
          replace hno := Hid.mk hno
          clear h0
          go_wp2_with fail
          go_ret
          exact ⟨by unfold lowN; rw [hno.out]; rfl, by unfold lowS; rw [hno.out]; exact hR2, Hp.But.of_below hbE⟩
        · have hy := HYes.out (by simp)
          replace hy := Hid.mk hy
          clear h0
          go_wp2_with fail
          go_roundw
          case rel => exact ⟨j + 1, by omega, by simp, hy, hbE⟩
          case measure =>
            simp [intOf]
            omega
    · obtain rfl : j = N := by omega
      have HB : Hid (lowB σ = true) := low_all HL.out hall.out
      have hrs := HR.out wr hB
      have hlt' : ¬ (j : Int) < (j : Int) := by omega
      clear c1
      obtain ⟨gd, -, -, c1⟩ := hrs.c1
      have hEN : Hid (lowN σ = now) := by unfold Hid lowN; rw [if_pos HB.out, hnow.out]
      have hES : Hid (lowS σ = ⟨0, lowJ now σ.L j⟩) := by unfold Hid lowS; rw [if_pos HB.out, ← lowJ_all, hnow.out, HL.out]
      have hfit : Hid (∀ i, i < j → (rw σ.L i).1 ≠ 0 → fitsB ((rw σ.L i).2.2.1 - now) = true) := fun i hi h0 => by
        have := hall.out i hi
        rw [hnow.out] at this
        simpa [h0] using this
      obtain ⟨wA, hwA⟩ : ∃ x, x = wr := ⟨_, rfl⟩
      subst hwA
      have hA0 : RQ wA M G j ⟨now, lowJ now σ.L 0⟩ := by rw [lowJ_zero, ← hnow.out]; exact hrs
      go_wp2_with fail
      go_loopw [41, 7] (fun q _ wr => ∃ i : Nat, i ≤ j ∧ q = .int .i64 i ∧ RQ wr M G j ⟨now, lowJ now σ.L i⟩ ∧ Hp.But [M, G] w wr) (fun q _ _ => 4096 - (intOf q).toNat)
      case atStart => exact ⟨0, by omega, rfl, hA0, Hp.But.of_below hB⟩
      case round =>
        obtain ⟨i, hi, rfl, hR, hBu⟩ := hrel
        by_cases hlt2 : i < j
        · have hlt2' : (i : Int) < (j : Int) := by omega
          obtain ⟨ge, -, -, y1⟩ := hR.c1
          have y0 := hR.c0
          have y2 := hR.r2 hlt2
          have yst := hR.r0 hlt2
          have fz := hR.g.fz (i * 4 + 2)
          have hli : i < σ.L.length := by rw [HL.out]; exact hlt2
          have hF2 := fun W (hW : RQ W M G j ⟨now, lowJ now σ.L i⟩) x => hW.f2 hlt2 x
          have hsu := lowJ_succ (c := now) hli
          dsimp only at y0 y2 yst hF2
          rw [lowJ_at hli] at y2 yst hF2
          have hft := hfit.out i hlt2
          by_cases h0 : (rw σ.L i).1 = 0
          · have hsk : Hid (lowJ now σ.L (i + 1) = lowJ now σ.L i) := by
              unfold Hid
              rw [hsu]
              refine set_same ?_
              rw [show lowR now (rw σ.L i) = rw σ.L i from if_pos h0, ← lowJ_at hli]
              exact rw_get (by rw [lowJ_len]; exact hli)
            rw [h0] at yst
            clear hsu hF2 hft h0
            go_wp2_with fail
            go_roundw
            case rel => exact ⟨i + 1, by omega, by simp, by rw [hsk.out]; exact hR, hBu⟩
            case measure =>
              simp [intOf]
              omega
          · have hf := hft h0
            have hsk : Hid (lowJ now σ.L (i + 1) = (lowJ now σ.L i).set i ((rw σ.L i).1, (rw σ.L i).2.1, (rw σ.L i).2.2.1 - now, (rw σ.L i).2.2.2)) := by
              unfold Hid
              rw [hsu]
              congr 1
              exact if_neg h0
            have h0n : ((rw σ.L i).1 != 0) = true := by simpa using h0
            have h0' : ((rw σ.L i).1 == 0) = false := by simpa using h0
            have hF3 : ∀ W, RQ W M G j ⟨now, lowJ now σ.L i⟩ → RQ (W.setCell ⟨G, i * 4 + 2, none⟩ (.int .i64 ((rw σ.L i).2.2.1 - now))) M G j ⟨now, lowJ now σ.L (i + 1)⟩ := fun W hW => by
              have := hF2 W hW ((rw σ.L i).2.2.1 - now)
              rw [hsk.out]
              exact this
            have hwr : IntKind.i64.wrap ((rw σ.L i).2.2.1 - now) = (rw σ.L i).2.2.1 - now := by
              have := fits_bd hf
              simp only [IntKind.wrap, IntKind.bits, IntKind.signed]
              simp
              omega
            clear hsu hF2 hft h0 hf hsk
            generalize (rw σ.L i).1 = st at *
            generalize (rw σ.L i).2.2.1 = ps at *
            go_upto_region 12 with fail
            have hRd := hR.below (below_drN wr 1)
            replace hRd : RQ wr.drew M G j ⟨now, lowJ now σ.L i⟩ := hRd
            have hBd : Hp.But [M, G] w wr.drew := hBu.drew
            obtain ⟨V, hV⟩ : ∃ V, V = wr.drew := ⟨_, rfl⟩
            replace y1 : V.cell? ⟨M, 1, none⟩ = some (.slice (some ⟨G, 0, none⟩) j ge) := hV ▸ y1
            replace y2 : V.cell? ⟨G, i * 4 + 2, none⟩ = some (.int .i64 ps) := hV ▸ y2
            replace y0 : V.cell? ⟨M, 0, none⟩ = some (.int .i64 now) := hV ▸ y0
            replace fz : V.frozen? ⟨G, i * 4 + 2, none⟩ = false := hV ▸ fz
            rw [← hV] at hRd hBd
            refine wp_region_K 15 (fun w' => w'.cell? ⟨M, 1, none⟩ = some (.slice (some ⟨G, 0, none⟩) j ge) ∧ w'.cell? ⟨G, i * 4 + 2, none⟩ = some (.int .i64 ps) ∧ w'.cell? ⟨M, 0, none⟩ = some (.int .i64 now) ∧ IsW V w') (by kernel_rfl) (by kernel_rfl) ⟨hV ▸ y1, hV ▸ y2, hV ▸ y0, hV.symm⟩ (fun hHeld hdep => ?_)
            rw [← hV]
            clear hV hHeld
            have hHeld : (fun w' => w'.cell? ⟨M, 1, none⟩ = some (.slice (some ⟨G, 0, none⟩) j ge) ∧ w'.cell? ⟨G, i * 4 + 2, none⟩ = some (.int .i64 ps) ∧ w'.cell? ⟨M, 0, none⟩ = some (.int .i64 now) ∧ IsW V w') V := ⟨y1, y2, y0, rfl⟩
            refine wpAnyK_take (i := 0) (v := ?_) (some 53) rfl rfl hdep (by kernel_rfl) (fun _ _ _ h => h) (Or.inl ⟨by rfl, ?_⟩) (by assumption) ?_
            rotate_left
            · (intro w hSw; go_simp; all_goals with_reducible rfl)
            try simp only [Act.put, List.setIfInBounds_toArray, List.set_cons_zero, List.set_cons_succ]
            refine wpAnyK_take (i := 1) (v := ?_) (some 54) rfl rfl hdep (by kernel_rfl) (fun _ _ _ h => h) (Or.inl ⟨by rfl, ?_⟩) (by assumption) ?_
            rotate_left
            · (intro w hSw; go_simp; all_goals with_reducible rfl)
            try simp only [Act.put, List.setIfInBounds_toArray, List.set_cons_zero, List.set_cons_succ]
            refine wpAnyK_take (i := 2) (v := ?_) (some 55) rfl rfl hdep (by kernel_rfl) (fun _ _ _ h => h) (Or.inl ⟨by rfl, ?_⟩) (by assumption) ?_
            rotate_left
            · (intro w hSw; go_simp; all_goals with_reducible rfl)
            try simp only [Act.put, List.setIfInBounds_toArray, List.set_cons_zero, List.set_cons_succ]
            refine wpAnyK_take (i := 3) (v := ?_) (some 56) rfl rfl hdep (by kernel_rfl) (fun _ _ _ h => h) (Or.inl ⟨by rfl, ?_⟩) (by assumption) ?_
            rotate_left
            · (intro w hSw; obtain ⟨z0, z1, z2, z3⟩ := hSw; go_simp; all_goals with_reducible rfl)
            try simp only [Act.put, List.setIfInBounds_toArray, List.set_cons_zero, List.set_cons_succ]
            refine wpAnyK_take (i := 4) (v := ?_) (some 57) rfl rfl hdep (by kernel_rfl) (fun _ _ _ h => h) (Or.inl ⟨by rfl, ?_⟩) (by assumption) ?_
            rotate_left
            · (intro w hSw; go_simp; all_goals with_reducible rfl)
            try simp only [Act.put, List.setIfInBounds_toArray, List.set_cons_zero, List.set_cons_succ]
            refine wpAnyK_take (i := 5) (v := ?_) (some 58) rfl rfl hdep (by kernel_rfl) (fun _ _ _ h => h) (Or.inl ⟨by rfl, ?_⟩) (by assumption) ?_
            rotate_left
            · (intro w hSw; go_simp; all_goals with_reducible rfl)
            try simp only [Act.put, List.setIfInBounds_toArray, List.set_cons_zero, List.set_cons_succ]
            refine wpAnyK_take (i := 6) (v := ?_) (some 59) rfl rfl hdep (by kernel_rfl) (fun _ _ _ h => h) (Or.inl ⟨by rfl, ?_⟩) (by assumption) ?_
            rotate_left
            · (intro w hSw; go_simp; all_goals with_reducible rfl)
            try simp only [Act.put, List.setIfInBounds_toArray, List.set_cons_zero, List.set_cons_succ]
            refine wpAnyK_take (i := 7) (v := ?_) (some 60) rfl rfl hdep (by kernel_rfl) (fun _ _ _ h => h) (Or.inl ⟨by rfl, ?_⟩) (by assumption) ?_
            rotate_left
            · (intro w hSw; obtain ⟨z0, z1, z2, z3⟩ := hSw; go_simp; all_goals with_reducible rfl)
            try simp only [Act.put, List.setIfInBounds_toArray, List.set_cons_zero, List.set_cons_succ]
            refine wpAnyK_take (i := 8) (v := ?_) (some 61) rfl rfl hdep (by kernel_rfl) (fun _ _ _ h => h) (Or.inl ⟨by rfl, ?_⟩) (by assumption) ?_
            rotate_left
            · (intro w hSw; go_simp; all_goals with_reducible rfl)
            try simp only [Act.put, List.setIfInBounds_toArray, List.set_cons_zero, List.set_cons_succ]
            refine wpAnyK_take (i := 9) (v := ?_) (some 62) rfl rfl hdep (by kernel_rfl) (fun _ _ _ h => h) (Or.inl ⟨by rfl, ?_⟩) (by assumption) ?_
            rotate_left
            · (intro w hSw; go_simp; all_goals with_reducible rfl)
            try simp only [Act.put, List.setIfInBounds_toArray, List.set_cons_zero, List.set_cons_succ]
            refine wpAnyK_take (i := 10) (v := ?_) (some 63) rfl rfl hdep (by kernel_rfl) (fun _ _ _ h => h) (Or.inl ⟨by rfl, ?_⟩) (by assumption) ?_
            rotate_left
            · (intro w hSw; go_simp; all_goals with_reducible rfl)
            try simp only [Act.put, List.setIfInBounds_toArray, List.set_cons_zero, List.set_cons_succ]
            refine wpAnyK_take (i := 11) (v := ?_) (some 64) rfl rfl hdep (by kernel_rfl) (fun _ _ _ h => h) (Or.inl ⟨by rfl, ?_⟩) (by assumption) ?_
            rotate_left
            · (intro w hSw; obtain ⟨z0, z1, z2, z3⟩ := hSw; go_simp; all_goals with_reducible rfl)
            try simp only [Act.put, List.setIfInBounds_toArray, List.set_cons_zero, List.set_cons_succ]
            refine wpAnyK_take (i := 12) (v := ?_) (some 65) rfl rfl hdep (by kernel_rfl) (fun _ _ _ h => h) (Or.inl ⟨by rfl, ?_⟩) (by assumption) ?_
            rotate_left
            · (intro w hSw; go_simp; all_goals with_reducible rfl)
            try simp only [Act.put, List.setIfInBounds_toArray, List.set_cons_zero, List.set_cons_succ]
            refine wpAnyK_take (i := 13) (v := ?_) (some 66) rfl rfl hdep (by kernel_rfl) (fun _ _ _ h => h) (Or.inl ⟨by rfl, ?_⟩) (by assumption) ?_
            rotate_left
            · (intro w hSw; go_simp; all_goals with_reducible rfl)
            try simp only [Act.put, List.setIfInBounds_toArray, List.set_cons_zero, List.set_cons_succ]
            refine wpAnyK_take (i := 14) (v := ?_) (some 67) rfl rfl hdep (by kernel_rfl) (fun _ _ _ h => h) (Or.inl ⟨by rfl, ?_⟩) (by assumption) ?_
            rotate_left
            · (intro w hSw; go_simp; all_goals with_reducible rfl)
            try simp only [Act.put, List.setIfInBounds_toArray, List.set_cons_zero, List.set_cons_succ]
            refine wpAnyK_one (i := 15) (by kernel_rfl) rfl (fun K hK => ?_)
            go_simp
            refine hK.out _ _ (fun h => absurd rfl h) ?_
            clear hK K
            try simp only [Act.put, List.setIfInBounds_toArray, List.set_cons_zero, List.set_cons_succ]
            refine wpAnyK_done (by kernel_rfl) ?_
            have hFin := hF3 V hRd
            have hBF : Hp.But [M, G] w (V.setCell ⟨G, i * 4 + 2, none⟩ (.int .i64 (ps - now))) := hBd.set (p := ⟨G, i * 4 + 2, none⟩) (by simp) _
            go_wp2_with fail
            go_roundw
            case rel => exact ⟨i + 1, by omega, by simp, hFin, hBF⟩
            case measure =>
              simp [intOf]
              omega
        · obtain rfl : i = j := by omega
          have n0 := hR.c0
          have fn := hR.fm 0
          have hZ := hR.nw 0
          dsimp only at n0 hZ
          have hBZ : Hp.But [M, G] w (wr.setCell ⟨M, 0, none⟩ (.int .i64 0)) := hBu.set (p := ⟨M, 0, none⟩) (by simp) _
          go_wp2_with fail
          go_ret
          exact ⟨by rw [hEN.out]; rfl, by rw [hES.out]; exact hZ, hBZ⟩
end
end Go.Proofs.YtlnfabjgcecebaaGreat.Rd
