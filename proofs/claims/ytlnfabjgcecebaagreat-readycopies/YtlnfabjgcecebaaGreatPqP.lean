/- Pick of the program's. -/
import Derived.Test.YtlnfabjgcecebaaGreatPqJ
namespace Go.Proofs.YtlnfabjgcecebaaGreat.Pq
open Go Go.RowKit Go.Proofs.YtlnfabjgcecebaaGreat.Str Go.Proofs.YtlnfabjgcecebaaGreat.Rd
open Go.Proofs.YtlnfabjgcecebaaGreat.Hp (Step Disj HQ)

section
set_option maxRecDepth 100000
variable {w w' : World} {B G H N : Nat} {TH TH' : List Nat} {σ : Qs} {q q' : List Hp.Th}
/-- What a pick stores in the row: two fields, then the third. -/
theorem QM.picked (h : QM w B G H TH N σ q) {k : Nat} (hk : k < N) (x y : Int) : QM (((w.setCell ⟨G, k * 4, none⟩ (.int .i64 2)).setCell ⟨G, k * 4 + 2, none⟩ (.int .i64 x)).setCell ⟨G, k * 4 + 3, none⟩ (.int .i64 y)) B G H TH N ⟨σ.now, σ.L.set k (2, (rw σ.L k).2.1, x, y)⟩ q := by
  have hl : k < σ.L.length := by rw [h.len]; exact hk
  have h1 := h.f0 hk 2
  have h2 := h1.f2 hk x
  rw [rw_set_same hl, List.set_set] at h2
  have h3 := h2.f3 hk y
  rw [rw_set_same hl, List.set_set] at h3
  exact h3
set_option maxHeartbeats 2000000 in
theorem pick_any (h : QM w B G H TH N σ (qL σ)) {K : Nat} (hF : Few K σ) (hK : K ≤ 1000) :
    Calls Tryz.prog 13 #[.pointer (some ⟨B, 0, none⟩)] w fun e w' => e = .returned (.tuple #[.int .i64 (pickI σ), .bool (pickB σ)]) ∧ ∃ TH', QM w' B G H TH' N (pickS σ) (qL (pickS σ)) ∧ Step (B :: G :: TH) w (B :: G :: TH') w' := by
  have M := made_any h
  have P := Hp.pop_any h.h
  have c1 := h.c1
  have c2 := h.c2
  obtain ⟨n0, n1, -, -⟩ := hF.sml hK
  rw [qL_pick]
  cases e : qL σ with
  | nil =>
    have hI : pickI σ = 0 := by unfold pickI; rw [e]; rfl
    have hB : pickB σ = false := by unfold pickB; rw [e]; rfl
    rw [hI, hB, pickS_nil e]
    rw [e] at P h
    rw [show Hp.fstI [] = 0 from rfl, show Hp.fstK [] = 0 from rfl, show Hp.fstB [] = false from rfl] at P
    generalize σ.now = now at *
    go_enter Tryz.func13, Tryz.ntmps13
    go_wp2_with (first
      | (go_at_call 30; (with_reducible refine M.mono ?_); rintro e w1 ⟨rfl, hw⟩; subst w1)
      | (go_at_call 46; (with_reducible refine P.mono ?_); rintro e w2 ⟨rfl, TH2, q2, s2⟩))
    go_ret2
    exact ⟨rfl, TH2, h.heap q2 s2, wide2 B G s2⟩
  | cons p r =>
    obtain ⟨k, ps⟩ := p
    have hI : pickI σ = (k : Int) := by unfold pickI; rw [e]; rfl
    have hB : pickB σ = true := by unfold pickB; rw [e]; rfl
    obtain ⟨hk, hst, hps, -⟩ := pick_out e
    dsimp only at hk hst hps
    have hkN : k < N := by rw [← h.len]; exact hk
    have hk' : (k : Int) < (N : Int) := by omega
    obtain ⟨A, hg⟩ := hF
    obtain ⟨hf0, -⟩ := hg.found (show (k, ps) ∈ qL σ by rw [e]; simp)
    obtain ⟨b1, b2, b3, b4⟩ := hg.small hK k
    have hs := str_bd (rw σ.L k).2.1
    dsimp only at hf0
    rw [hI, hB, pickS_cons e]
    dsimp only
    have hmx : (if σ.now < ps then ps else σ.now) = ps := by split <;> omega
    rw [hmx]
    rw [e] at P
    rw [show Hp.fstI ((k, ps) :: r) = (k : Int) from rfl, show Hp.fstK ((k, ps) :: r) = ps from rfl, show Hp.fstB ((k, ps) :: r) = true from rfl, List.tail_cons] at P
    rw [List.tail_cons]
    have HQ2 : ∀ W TH2, HQ W H TH2 N r → Step TH w TH2 W → QM W B G H TH2 N σ r := fun W TH2 a b => h.heap a b
    have CH : ∀ W TH2, QM W B G H TH2 N ⟨ps, σ.L⟩ r → Calls Tryz.prog 47 #[.pointer (some ⟨G, k * 4, none⟩)] W fun e w' => e = .returned (.int .i64 (ps + strI (rw σ.L k).2.1)) ∧ Hp.Drawn W w' := fun W TH2 hW => by
      have d1 := hW.r1 hkN
      have d2 := hW.r2 hkN
      dsimp only at d1 d2
      rw [← hps] at d2
      exact charged_any d1 d2 (by omega) (by omega) (by omega) (by omega) (by unfold Big.fitsB; simp; omega)
    have HP : ∀ W TH2, QM W B G H TH2 N ⟨ps, σ.L⟩ r → QM (((W.setCell ⟨G, k * 4, none⟩ (.int .i64 2)).setCell ⟨G, k * 4 + 2, none⟩ (.int .i64 (ps + strI (rw σ.L k).2.1))).setCell ⟨G, k * 4 + 3, none⟩ (.int .i64 ((rw σ.L k).2.2.2 + 1))) B G H TH2 N ⟨ps, σ.L.set k (2, (rw σ.L k).2.1, ps + strI (rw σ.L k).2.1, (rw σ.L k).2.2.2 + 1)⟩ r := fun W TH2 hW => hW.picked hkN _ _
    have C0 : ∀ W TH2, QM W B G H TH2 N ⟨ps, σ.L⟩ r → W.cell? ⟨G, k * 4 + 3, none⟩ = some (.int .i64 (rw σ.L k).2.2.2) := fun W TH2 hW => hW.r3 hkN
    generalize ps + strI (rw σ.L k).2.1 = y at *
    generalize (rw σ.L k).2.2.2 = pk at *
    have C2 : ∀ W TH2, QM W B G H TH2 N σ r → W.cell? ⟨B, 2, none⟩ = some (.int .i64 σ.now) := fun W TH2 hW => hW.c2
    clear hst hB hI hps hmx
    generalize σ.now = now at *
    go_enter Tryz.func13, Tryz.ntmps13
    go_upto_region 9 with (first
      | (go_at_call 30; (with_reducible refine M.mono ?_); rintro e w1 ⟨rfl, hw⟩; subst w1)
      | (go_at_call 46; (with_reducible refine P.mono ?_); rintro e w2 ⟨rfl, TH2, q2, s2⟩; have h2 := HQ2 _ _ q2 s2; obtain ⟨c, -, -, c0⟩ := h2.c0; have d2 := C2 _ _ h2; have fb := h2.fb 2; have h3 := h2.nw ps))
    rcases Int.lt_or_eq_of_le hf0 with hl | hl
    rotate_left
    · subst hl
      go_wp2_with (first
        | (go_at_call 47; (with_reducible refine (CH _ _ h3).mono ?_); rintro e w4 ⟨rfl, d4⟩; have h4 := h3.keep d4.but; have g0 : w4.cell? ⟨G, k * 4, none⟩ = some (.int .i64 (rw σ.L k).1) := h4.r0 hkN; have g2 : w4.cell? ⟨G, k * 4 + 2, none⟩ = some (.int .i64 (rw σ.L k).2.2.1) := h4.r2 hkN; have g3 := C0 _ _ h4; have f0 := h4.fg (k * 4); have f2 := h4.fg (k * 4 + 2); have f3 := h4.fg (k * 4 + 3)))
      go_ret2
      exact ⟨rfl, TH2, HP _ _ h4, (wide2 B G s2).trans (Step.same ((((butB w2 G TH2 2 _).trans d4.but).trans (butG _ B TH2 _ _)).trans ((butG _ B TH2 _ _).trans (butG _ B TH2 _ _))))⟩
    · go_wp2_with (first
        | (go_at_call 47; (with_reducible refine (CH _ _ h3).mono ?_); rintro e w4 ⟨rfl, d4⟩; have h4 := h3.keep d4.but; have g0 : w4.cell? ⟨G, k * 4, none⟩ = some (.int .i64 (rw σ.L k).1) := h4.r0 hkN; have g2 : w4.cell? ⟨G, k * 4 + 2, none⟩ = some (.int .i64 (rw σ.L k).2.2.1) := h4.r2 hkN; have g3 := C0 _ _ h4; have f0 := h4.fg (k * 4); have f2 := h4.fg (k * 4 + 2); have f3 := h4.fg (k * 4 + 3)))
      go_ret2
      exact ⟨rfl, TH2, HP _ _ h4, (wide2 B G s2).trans (Step.same ((((butB w2 G TH2 2 (.int .i64 ps)).trans d4.but).trans (butG _ B TH2 _ _)).trans ((butG _ B TH2 _ _).trans (butG _ B TH2 _ _))))⟩
end
end Go.Proofs.YtlnfabjgcecebaaGreat.Pq
