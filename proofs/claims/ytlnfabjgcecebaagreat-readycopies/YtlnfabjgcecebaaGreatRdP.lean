/- The document's Pick, where now is not too great. -/
import Derived.Test.YtlnfabjgcecebaaGreatRdW
import Derived.Test.YtlnfabjgcecebaaGreatRdT
namespace Go.Proofs.YtlnfabjgcecebaaGreat.Rd
open Go Go.RowKit Go.Proofs.YtlnfabjgcecebaaGreat.Big Go.Proofs.YtlnfabjgcecebaaGreat.Str

def IsW (V W : World) : Prop := W = V
/-- Passes and picks that are small. -/
def Sml (L : List Rw) : Prop := ∀ i, i < L.length → (-2305843009213693952 ≤ (rw L i).2.2.1 ∧ (rw L i).2.2.1 ≤ 2305843009213693952) ∧ (-2305843009213693952 ≤ (rw L i).2.2.2 ∧ (rw L i).2.2.2 ≤ 2305843009213693952)
section
variable {w w' : World} {M G N : Nat} {σ : Qs}
set_option maxHeartbeats 4000000 in
set_option maxRecDepth 100000 in
theorem pick_any (h : RQ w M G N σ) (hn : σ.now ≤ 1152921504606846976) (hs : Sml σ.L) :
    Calls Tryz.prog 16 #[.pointer (some ⟨M, 0, none⟩)] w fun e w' => e = .returned (.tuple #[.int .i64 (pickI σ), .bool (pickB σ)]) ∧ RQ w' M G N (pickS σ) ∧ Hp.But [M, G] w w' := by
  have WA := waiting_any h
  have n0 := h.c0
  have hn' : ¬ 1152921504606846976 < σ.now := by omega
  cases hq : qL σ with
  | nil =>
    rw [show pickI σ = 0 by unfold pickI; rw [hq]; rfl, show pickB σ = false by unfold pickB; rw [hq]; rfl, show pickS σ = σ by unfold pickS; rw [hq]; rfl]
    rw [hq] at WA
    generalize σ.now = now at *
    go_enter Tryz.func16, Tryz.ntmps16
    go_upto_region 4 with (first | (go_at_call 41; (with_reducible refine WA.mono ?_); rintro e w1 ⟨v, rfl, hv, b1⟩))
    obtain ⟨va, vc, rfl⟩ := own_shape hv
    go_wp2_with fail
    go_ret2
    exact ⟨rfl, h.below b1, Hp.But.of_below b1⟩
  | cons p q =>
    obtain ⟨k, ps⟩ := p
    have hm := qN_mem (L := σ.L) (m := σ.L.length) (p := (k, ps)) (by show (k, ps) ∈ qL σ; rw [hq]; simp)
    obtain ⟨hk, hst, hps⟩ := hm
    dsimp only at hk hst hps
    have hkN : k < N := by rw [← h.len]; exact hk
    have hsk := hs k hk
    rw [← hps] at hsk
    replace hps := Hid.mk hps
    have hPS : pickS σ = ⟨if σ.now < ps then ps else σ.now, σ.L.set k (2, (rw σ.L k).2.1, ps + strI (rw σ.L k).2.1, (rw σ.L k).2.2.2 + 1)⟩ := by unfold pickS; rw [hq]; rfl
    obtain ⟨tk, htk⟩ : ∃ tk, Hid ((rw σ.L k).2.1 = tk) := ⟨_, rfl⟩
    obtain ⟨pk, hpk⟩ : ∃ pk, Hid ((rw σ.L k).2.2.2 = pk) := ⟨_, rfl⟩
    obtain ⟨now2, hn2⟩ : ∃ now2, Hid ((if σ.now < ps then ps else σ.now) = now2) := ⟨_, rfl⟩
    obtain ⟨s, hss⟩ : ∃ s, Hid (strI tk = s) := ⟨_, rfl⟩
    rw [show pickI σ = k by unfold pickI; rw [hq]; rfl, show pickB σ = true by unfold pickB; rw [hq]; rfl, hPS, hn2.out, htk.out, hpk.out, hss.out]
    rw [hq] at WA
    have hr0 : ∀ W, RQ W M G N σ → Calls Tryz.prog 49 #[.pointer (some ⟨M, 0, none⟩), .int .i64 (k : Int)] W fun e w' => e = .returned (.pointer (some ⟨G, k * 4, none⟩)) ∧ w' = W := fun W hW => by
      have := row_any hW (k : Int)
      rw [inB_of hk, if_pos rfl, show (k : Int).toNat = k by omega] at this
      exact this
    have HL : Hid (σ.L.length = N) := h.len
    go_enter Tryz.func16, Tryz.ntmps16
    go_upto_region 4 with (first | (go_at_call 41; (with_reducible refine WA.mono ?_); rintro e w1 ⟨v, rfl, hv, b1⟩))
    clear WA
    obtain ⟨va, vc, rfl⟩ := own_shape hv
    have hvl : (ids ((k, ps) :: q)).length = q.length + 1 := by rw [ids_len]; rfl
    rw [hvl] at hv ⊢
    obtain ⟨g, rfl⟩ : ∃ g, va = some ⟨g, 0, none⟩ := by
      rcases hv.2 with ⟨e, h0⟩ | ⟨g, cap, cur, e, _⟩
      · rw [hvl] at h0
        omega
      · simp only [Value.slice.injEq] at e
        exact ⟨g, e.1⟩
    have hv' : RowI w1 w.heap.size (.slice (some ⟨g, 0, none⟩) (q.length + 1) vc) (ids ((k, ps) :: q)) := hv
    obtain ⟨-, hbg, hcl, -⟩ := RowI.open2 hv'
    have cg := hcl 0 (k : Int) rfl
    have h1 := h.below b1
    have hMg : g ≠ M ∧ g ≠ G := ⟨fun e => by have := h.ltM; omega, fun e => by have := h.g.lt; omega⟩
    have hB1 : Hp.But [M, G] w w1 := Hp.But.of_below b1
    have HR := hr0 w1 h1
    have hlq : (0 : Int) < (q.length : Int) + 1 := by omega
    have hlz : ((q.length : Int) + 1 == 0) = false := by simp; omega
    have e2 := h1.r2 hkN
    have e0 := h1.c0
    have fM := h1.fm 0
    rw [← hps.out] at e2
    clear hcl hv hv' n0
    go_upto_region 7 with (first | (go_at_call 49; (with_reducible refine HR.mono ?_); rintro e w2 ⟨rfl, hw⟩; subst w2))
    obtain ⟨now, hnow⟩ : ∃ now, Hid (σ.now = now) := ⟨_, rfl⟩
    have h1' := h1
    rw [hnow.out] at e0
    go_quiet (fail)
    have h2 : ∀ n, RQ (w1.drewN n) M G N σ := fun n => h1.below (below_drN w1 n)
    have h3 : ∀ n, RQ ((w1.drewN n).setCell ⟨M, 0, none⟩ (.int .i64 ps)) M G N ⟨ps, σ.L⟩ := fun n => (h2 n).nw ps
    have hB2 : ∀ n, Hp.But [M, G] w (w1.drewN n) := fun n => hB1.drewN n
    have hB3 : ∀ n, Hp.But [M, G] w ((w1.drewN n).setCell ⟨M, 0, none⟩ (.int .i64 ps)) := fun n => (hB2 n).set (p := ⟨M, 0, none⟩) (by simp) _
    go_upto_if 31 with fail
    go_cut [5] from 32 to 38 (fun s5 wx => s5 = .pointer (some ⟨G, k * 4, none⟩) ∧ RQ wx M G N ⟨now2, σ.L⟩ ∧ Hp.But [M, G] w wx ∧ wx.cell? ⟨g, 0, none⟩ = some (.int .i64 (k : Int)))
    case first =>
      have cg2 : ∀ n, (w1.drewN n).cell? ⟨g, 0, none⟩ = some (.int .i64 (k : Int)) := fun n => ((below_drN w1 n).cell (World.block_lt_of_cell? w1 _ cg)).trans cg
      have cg3 : ∀ n x, ((w1.drewN n).setCell ⟨M, 0, none⟩ x).cell? ⟨g, 0, none⟩ = some (.int .i64 (k : Int)) := fun n x => (World.cell?_of_block (Below.heap_setCell _ _ _ _ hMg.1)).trans (cg2 n)
      have e2' := fun n => (h2 n).r2 hkN
      have fM' := fun n => (h2 n).fm 0
      have e0' := fun n => (h2 n).c0
      rw [← hps.out] at e2'
      by_cases hc : now < ps
      · have hz : ps = now2 := by rw [← hn2.out, if_pos (by rw [hnow.out]; exact hc)]
        replace hz := Hid.mk hz
        go_wp2_with fail
        go_meet
        case rel => exact ⟨rfl, by have := h3 nq; rw [hz.out] at this ⊢; exact this, hB3 _, cg3 _ _⟩
      · have hz : σ.now = now2 := by rw [← hn2.out, if_neg (by rw [hnow.out]; exact hc)]
        replace hz := Hid.mk hz
        go_wp2_with fail
        go_meet
        case rel => exact ⟨rfl, by rw [← hz.out]; exact h2 _, hB2 _, cg2 _⟩
    case rest =>
      obtain ⟨rfl, hR, hB, cgc⟩ := hcut
      have hk' : k < (⟨now2, σ.L⟩ : Qs).L.length := hk
      have d2 : wc.drew.cell? ⟨G, k * 4 + 2, none⟩ = some (.int .i64 ps) := by
        have := (hR.below (below_drN wc 1)).r2 hkN
        rw [hps.out]
        exact this
      have d1 : wc.drew.cell? ⟨G, k * 4 + 1, none⟩ = some (.int .i64 tk) := by
        rw [← htk.out]
        exact (hR.below (below_drN wc 1)).r1 hkN
      have HSt := fun W => rstride_any tk W
      have hsb := str_bd tk
      have hF : ∀ x : Int, RQ (wc.drew.setCell ⟨G, k * 4 + 2, none⟩ (.int .i64 x)) M G N ⟨now2, σ.L.set k (1, tk, x, pk)⟩ := fun x => by
        have := (hR.below (below_drN wc 1)).f2 hkN x
        rw [hst, htk.out, hpk.out] at this
        exact this
      have hBF : ∀ x : Int, Hp.But [M, G] w (wc.drew.setCell ⟨G, k * 4 + 2, none⟩ (.int .i64 x)) := fun x => (hB.drew).set (p := ⟨G, k * 4 + 2, none⟩) (by simp) _
      have fz : wc.drew.frozen? ⟨G, k * 4 + 2, none⟩ = false := hR.g.fz _
      have hw1 : IntKind.i64.wrap (ps + strI tk) = ps + strI tk := by simp only [IntKind.wrap, IntKind.bits, IntKind.signed]; simp; omega
      have hpk1 : IntKind.i64.wrap (pk + 1) = pk + 1 := by have := hsk.2; rw [hpk.out] at this; simp only [IntKind.wrap, IntKind.bits, IntKind.signed]; simp; omega
      rw [hss.out] at HSt hw1 hsb
      have HFin : ∀ W, RQ W M G N ⟨now2, σ.L.set k (1, tk, ps + s, pk)⟩ → W.cell? ⟨G, k * 4, none⟩ = some (.int .i64 1) ∧ W.frozen? ⟨G, k * 4, none⟩ = false ∧ RQ (W.setCell ⟨G, k * 4, none⟩ (.int .i64 2)) M G N ⟨now2, σ.L.set k (2, tk, ps + s, pk)⟩ := fun W hW => by
        have e1 : rw (σ.L.set k (1, tk, ps + s, pk)) k = (1, tk, ps + s, pk) := rw_set_same hk _
        have e2 := hW.r0 hkN
        rw [show (⟨now2, σ.L.set k (1, tk, ps + s, pk)⟩ : Qs).L = σ.L.set k (1, tk, ps + s, pk) from rfl, e1] at e2
        have e3 := hW.f0 hkN 2
        rw [show (⟨now2, σ.L.set k (1, tk, ps + s, pk)⟩ : Qs).L = σ.L.set k (1, tk, ps + s, pk) from rfl, e1, List.set_set] at e3
        exact ⟨e2, hW.g.fz _, e3⟩
      have HFin2 : ∀ W, RQ W M G N ⟨now2, σ.L.set k (2, tk, ps + s, pk)⟩ → W.cell? ⟨G, k * 4 + 3, none⟩ = some (.int .i64 pk) ∧ W.frozen? ⟨G, k * 4 + 3, none⟩ = false ∧ RQ (W.setCell ⟨G, k * 4 + 3, none⟩ (.int .i64 (pk + 1))) M G N ⟨now2, σ.L.set k (2, tk, ps + s, pk + 1)⟩ := fun W hW => by
        have e1 : rw (σ.L.set k (2, tk, ps + s, pk)) k = (2, tk, ps + s, pk) := rw_set_same hk _
        have e2 := hW.r3 hkN
        rw [show (⟨now2, σ.L.set k (2, tk, ps + s, pk)⟩ : Qs).L = σ.L.set k (2, tk, ps + s, pk) from rfl, e1] at e2
        have e3 := hW.f3 hkN (pk + 1)
        rw [show (⟨now2, σ.L.set k (2, tk, ps + s, pk)⟩ : Qs).L = σ.L.set k (2, tk, ps + s, pk) from rfl, e1, List.set_set] at e3
        exact ⟨e2, hW.g.fz _, e3⟩
      clear hR hsk hs hst hps htk hpk hk' hsb h1 h1' h2 h3 hB1 hB2 hB3 e2 e0 fM hr0 HR hPS hnow hn2 hss
      go_upto_region 9 with fail
      obtain ⟨V, hV⟩ : ∃ V, V = wc.drew := ⟨_, rfl⟩
      rw [← hV] at d2 d1 hF hBF fz
      replace cgc : V.cell? ⟨g, 0, none⟩ = some (.int .i64 (k : Int)) := hV ▸ cgc
      refine wp_region_K 12 (fun w' => w'.cell? ⟨G, k * 4 + 2, none⟩ = some (.int .i64 ps) ∧ w'.cell? ⟨G, k * 4 + 1, none⟩ = some (.int .i64 tk) ∧ IsW V w') (by kernel_rfl) (by kernel_rfl) ⟨hV ▸ d2, hV ▸ d1, hV.symm⟩ (fun hHeld hdep => ?_)
      rw [← hV]
      clear hV hHeld
      have hHeld : (fun w' => w'.cell? ⟨G, k * 4 + 2, none⟩ = some (.int .i64 ps) ∧ w'.cell? ⟨G, k * 4 + 1, none⟩ = some (.int .i64 tk) ∧ IsW V w') V := ⟨d2, d1, rfl⟩
      refine wpAnyK_take (i := 0) (v := ?_) (some 39) rfl rfl hdep (by kernel_rfl) (fun _ _ _ h => h) (Or.inl ⟨by rfl, ?_⟩) (by assumption) ?_
      rotate_left
      · (intro w hSw; go_simp; all_goals with_reducible rfl)
      try simp only [Act.put, List.setIfInBounds_toArray, List.set_cons_zero, List.set_cons_succ]
      refine wpAnyK_take (i := 1) (v := ?_) (some 40) rfl rfl hdep (by kernel_rfl) (fun _ _ _ h => h) (Or.inl ⟨by rfl, ?_⟩) (by assumption) ?_
      rotate_left
      · (intro w hSw; go_simp; all_goals with_reducible rfl)
      try simp only [Act.put, List.setIfInBounds_toArray, List.set_cons_zero, List.set_cons_succ]
      refine wpAnyK_take (i := 2) (v := ?_) (some 41) rfl rfl hdep (by kernel_rfl) (fun _ _ _ h => h) (Or.inl ⟨by rfl, ?_⟩) (by assumption) ?_
      rotate_left
      · (intro w hSw; go_simp; all_goals with_reducible rfl)
      try simp only [Act.put, List.setIfInBounds_toArray, List.set_cons_zero, List.set_cons_succ]
      refine wpAnyK_take (i := 3) (v := ?_) (some 42) rfl rfl hdep (by kernel_rfl) (fun _ _ _ h => h) (Or.inl ⟨by rfl, ?_⟩) (by assumption) ?_
      rotate_left
      · (intro w hSw; obtain ⟨z0, z1, z2⟩ := hSw; go_simp; all_goals with_reducible rfl)
      try simp only [Act.put, List.setIfInBounds_toArray, List.set_cons_zero, List.set_cons_succ]
      refine wpAnyK_take (i := 4) (v := ?_) (some 43) rfl rfl hdep (by kernel_rfl) (fun _ _ _ h => h) (Or.inl ⟨by rfl, ?_⟩) (by assumption) ?_
      rotate_left
      · (intro w hSw; go_simp; all_goals with_reducible rfl)
      try simp only [Act.put, List.setIfInBounds_toArray, List.set_cons_zero, List.set_cons_succ]
      refine wpAnyK_take (i := 5) (v := ?_) (some 44) rfl rfl hdep (by kernel_rfl) (fun _ _ _ h => h) (Or.inl ⟨by rfl, ?_⟩) (by assumption) ?_
      rotate_left
      · (intro w hSw; go_simp; all_goals with_reducible rfl)
      try simp only [Act.put, List.setIfInBounds_toArray, List.set_cons_zero, List.set_cons_succ]
      refine wpAnyK_take (i := 6) (v := ?_) (some 45) rfl rfl hdep (by kernel_rfl) (fun _ _ _ h => h) (Or.inl ⟨by rfl, ?_⟩) (by assumption) ?_
      rotate_left
      · (intro w hSw; go_simp; all_goals with_reducible rfl)
      try simp only [Act.put, List.setIfInBounds_toArray, List.set_cons_zero, List.set_cons_succ]
      refine wpAnyK_take (i := 7) (v := ?_) (some 46) rfl rfl hdep (by kernel_rfl) (fun _ _ _ h => h) (Or.inl ⟨by rfl, ?_⟩) (by assumption) ?_
      rotate_left
      · (intro w hSw; obtain ⟨z0, z1, z2⟩ := hSw; go_simp; all_goals with_reducible rfl)
      try simp only [Act.put, List.setIfInBounds_toArray, List.set_cons_zero, List.set_cons_succ]
      refine wpAnyK_one (i := 8) (by kernel_rfl) rfl (fun K hK => ?_)
      go_simp
      go_at_call 50
      (with_reducible refine (HSt _).mono ?_)
      rintro e w2 ⟨rfl, hw⟩
      subst w2
      refine hK.out _ _ (fun _ => hHeld) ?_
      clear hK K
      try simp only [Act.put, List.setIfInBounds_toArray, List.set_cons_zero, List.set_cons_succ]
      refine wpAnyK_take (i := 9) (v := ?_) (some 48) rfl rfl hdep (by kernel_rfl) (fun _ _ _ h => h) (Or.inl ⟨by rfl, ?_⟩) (by assumption) ?_
      rotate_left
      · (intro w hSw; go_simp; all_goals with_reducible rfl)
      try simp only [Act.put, List.setIfInBounds_toArray, List.set_cons_zero, List.set_cons_succ]
      refine wpAnyK_take (i := 10) (v := ?_) (some 49) rfl rfl hdep (by kernel_rfl) (fun _ _ _ h => h) (Or.inl ⟨by rfl, ?_⟩) (by assumption) ?_
      rotate_left
      · (intro w hSw; go_simp; all_goals with_reducible rfl)
      try simp only [Act.put, List.setIfInBounds_toArray, List.set_cons_zero, List.set_cons_succ]
      refine wpAnyK_take (i := 11) (v := ?_) (some 50) rfl rfl hdep (by kernel_rfl) (fun _ _ _ h => h) (Or.inl ⟨by rfl, ?_⟩) (by assumption) ?_
      rotate_left
      · (intro w hSw; go_simp; all_goals with_reducible rfl)
      try simp only [Act.put, List.setIfInBounds_toArray, List.set_cons_zero, List.set_cons_succ]
      refine wpAnyK_one (i := 12) (by kernel_rfl) rfl (fun K hK => ?_)
      go_simp
      refine hK.out _ _ (fun h => absurd rfl h) ?_
      clear hK K
      try simp only [Act.put, List.setIfInBounds_toArray, List.set_cons_zero, List.set_cons_succ]
      refine wpAnyK_done (by kernel_rfl) ?_
      have q1 := hF (ps + s)
      obtain ⟨a0, a1, q2⟩ := HFin _ q1
      have u1 := hBF (ps + s)
      have cg1 : (V.setCell ⟨G, k * 4 + 2, none⟩ (.int .i64 (ps + s))).cell? ⟨g, 0, none⟩ = some (.int .i64 (k : Int)) := (World.cell?_of_block (Below.heap_setCell _ _ _ _ hMg.2)).trans cgc
      generalize V.setCell ⟨G, k * 4 + 2, none⟩ (.int .i64 (ps + s)) = W1 at *
      obtain ⟨a2, a3, q3⟩ := HFin2 _ q2
      have u2 : Hp.But [M, G] w (W1.setCell ⟨G, k * 4, none⟩ (.int .i64 2)) := u1.set (p := ⟨G, k * 4, none⟩) (by simp) _
      have u3 : Hp.But [M, G] w ((W1.setCell ⟨G, k * 4, none⟩ (.int .i64 2)).setCell ⟨G, k * 4 + 3, none⟩ (.int .i64 (pk + 1))) := u2.set (p := ⟨G, k * 4 + 3, none⟩) (by simp) _
      have cg2 : ((W1.setCell ⟨G, k * 4, none⟩ (.int .i64 2)).setCell ⟨G, k * 4 + 3, none⟩ (.int .i64 (pk + 1))).cell? ⟨g, 0, none⟩ = some (.int .i64 (k : Int)) := (World.cell?_of_block (Below.heap_setCell _ _ _ _ hMg.2)).trans ((World.cell?_of_block (Below.heap_setCell _ _ _ _ hMg.2)).trans cg1)
      go_wp2_with fail
      go_ret2
      exact ⟨rfl, q3, u3⟩
end
end Go.Proofs.YtlnfabjgcecebaaGreat.Rd
