/- Join and Drop of the program's. -/
import Derived.Test.YtlnfabjgcecebaaGreatPqT
namespace Go.Proofs.YtlnfabjgcecebaaGreat.Pq
open Go Go.RowKit Go.Proofs.YtlnfabjgcecebaaGreat.Str Go.Proofs.YtlnfabjgcecebaaGreat.Rd
open Go.Proofs.YtlnfabjgcecebaaGreat.Hp (Step Disj HQ)

theorem but4 (w : World) (B : Nat) (TH : List Nat) (G i : Nat) (a b c d : Value) : Hp.But (B :: G :: TH) w ((((w.setCell ⟨G, i * 4, none⟩ a).setCell ⟨G, i * 4 + 1, none⟩ b).setCell ⟨G, i * 4 + 2, none⟩ c).setCell ⟨G, i * 4 + 3, none⟩ d) :=
  (((butG w B TH _ _).trans (butG _ B TH _ _)).trans (butG _ B TH _ _)).trans (butG _ B TH _ _)
theorem joinE_no {σ : Qs} {id t : Int} (h : inB σ id = false) : joinE σ id t = 8 := by unfold joinE; rw [if_pos h]
theorem joinE_arg {σ : Qs} {k : Nat} {t : Int} (hk : k < σ.L.length) (h : strI t = 0) : joinE σ (k : Int) t = 2 := by unfold joinE; rw [if_neg (by rw [inB_of hk]; simp), if_pos h]
theorem joinE_here {σ : Qs} {k : Nat} {t : Int} (hk : k < σ.L.length) (h : ¬ strI t = 0) (h1 : (rw σ.L k).1 ≠ 0) : joinE σ (k : Int) t = 5 := by unfold joinE; rw [if_neg (by rw [inB_of hk]; simp), if_neg h, rwI_of hk, if_pos h1]
theorem joinE_ok {σ : Qs} {k : Nat} {t : Int} (hk : k < σ.L.length) (h : ¬ strI t = 0) (h1 : (rw σ.L k).1 = 0) : joinE σ (k : Int) t = 0 := by unfold joinE; rw [if_neg (by rw [inB_of hk]; simp), if_neg h, rwI_of hk, if_neg (by simpa using h1)]
theorem joinS_self {σ : Qs} {id t : Int} (h : joinE σ id t ≠ 0) : joinS σ id t = σ := by unfold joinS; rw [if_neg h]
theorem joinS_ok {σ : Qs} {k : Nat} {t : Int} (h : joinE σ (k : Int) t = 0) : joinS σ (k : Int) t = ⟨σ.now, σ.L.set k (1, t, σ.now, 0)⟩ := by unfold joinS; rw [if_pos h, Int.toNat_natCast]
theorem dropE_no {σ : Qs} {id : Int} (h : inB σ id = false) : dropE σ id = 8 := by unfold dropE; rw [if_pos h]
theorem dropE_none {σ : Qs} {k : Nat} (hk : k < σ.L.length) (h : (rw σ.L k).1 = 0) : dropE σ (k : Int) = 4 := by unfold dropE; rw [if_neg (by rw [inB_of hk]; simp), rwI_of hk, if_pos h]
theorem dropE_ok {σ : Qs} {k : Nat} (hk : k < σ.L.length) (h : ¬ (rw σ.L k).1 = 0) : dropE σ (k : Int) = 0 := by unfold dropE; rw [if_neg (by rw [inB_of hk]; simp), rwI_of hk, if_neg h]
theorem dropS_self {σ : Qs} {id : Int} (h : dropE σ id ≠ 0) : dropS σ id = σ := by unfold dropS; rw [if_neg h]
theorem dropS_ok {σ : Qs} {k : Nat} (h : dropE σ (k : Int) = 0) : dropS σ (k : Int) = ⟨σ.now, σ.L.set k z4⟩ := by unfold dropS; rw [if_pos h, Int.toNat_natCast]

section
set_option maxRecDepth 100000
variable {w w' : World} {B G H N : Nat} {TH TH' : List Nat} {σ : Qs} {q q' : List Hp.Th}
set_option maxHeartbeats 1000000 in
theorem join_any (h : QM w B G H TH N σ (qL σ)) (id t : Int) :
    Calls Tryz.prog 12 #[.pointer (some ⟨B, 0, none⟩), .int .i64 id, .int .i64 t] w fun e w' => e = .returned (.int .i64 (joinE σ id t)) ∧ ∃ TH', QM w' B G H TH' N (joinS σ id t) (qL (joinS σ id t)) ∧ Step (B :: G :: TH) w (B :: G :: TH') w' := by
  have A := ask_any h id
  have S := fun W => stride_any t W
  cases hi : inB σ id
  · have hE := joinE_no (t := t) hi
    rw [joinS_self (by rw [hE]; decide), hE]
    rw [hi, if_neg (by simp)] at A
    go_enter Tryz.func12, Tryz.ntmps12
    go_wp2_with (first | (go_at_call 42; (with_reducible refine A.mono ?_); rintro e w1 ⟨rfl, hw⟩; subst w1))
    go_ret
    exact ⟨rfl, TH, h, Step.refl _ _⟩
  obtain ⟨k, rfl, hk⟩ := inB_out hi
  rw [hi, if_pos rfl] at A
  have hkN : k < N := by rw [← h.len]; exact hk
  by_cases hs : strI t = 0
  · have hE := joinE_arg hk hs
    rw [joinS_self (by rw [hE]; decide), hE]
    rw [hs] at S
    go_enter Tryz.func12, Tryz.ntmps12
    go_wp2_with (first
      | (go_at_call 42; (with_reducible refine A.mono ?_); rintro e w1 ⟨rfl, hw⟩; subst w1)
      | (go_at_call 43; (with_reducible refine (S _).mono ?_); rintro e w1 ⟨rfl, hw⟩; subst w1))
    go_ret
    exact ⟨rfl, TH, h, Step.refl _ _⟩
  have hs' : (strI t == 0) = false := by simpa using hs
  have hk' : (k : Int) < (N : Int) := by omega
  obtain ⟨c, -, -, c0⟩ := h.c0
  have g0 := h.r0 hkN
  by_cases h1 : (rw σ.L k).1 = 0
  · have hE := joinE_ok hk hs h1
    rw [joinS_ok hE, hE, qL_in hk (by rw [h1]; decide) rfl]
    have hq := hasq hk (by rw [h1]; decide)
    have g1 := h.r1 hkN
    have g2 := h.r2 hkN
    have g3 := h.r3 hkN
    have f0 := h.fg (k * 4)
    have f1 := h.fg (k * 4 + 1)
    have f2 := h.fg (k * 4 + 2)
    have f3 := h.fg (k * 4 + 3)
    have hR : QM ((((w.setCell ⟨G, k * 4, none⟩ (.int .i64 0)).setCell ⟨G, k * 4 + 1, none⟩ (.int .i64 (strI t))).setCell ⟨G, k * 4 + 2, none⟩ (.int .i64 0)).setCell ⟨G, k * 4 + 3, none⟩ (.int .i64 0)) B G H TH N ⟨σ.now, σ.L.set k (0, t, 0, 0)⟩ (qL σ) := h.row hkN (0, t, 0, 0)
    have hB := but4 w B TH G k (.int .i64 0) (.int .i64 (strI t)) (.int .i64 0) (.int .i64 0)
    have WF : ∀ W, QM W B G H TH N ⟨σ.now, σ.L.set k (0, t, 0, 0)⟩ (qL σ) → Calls Tryz.prog 44 #[.pointer (some ⟨B, 0, none⟩), .int .i64 k, .func (.func 45) #[] #[]] W fun e w' => e = .returned (.tuple #[]) ∧ ∃ TH', QM w' B G H TH' N ⟨σ.now, σ.L.set k (1, t, σ.now, 0)⟩ (Hp.insq (k, σ.now) (qL σ)) ∧ Step (B :: G :: TH) W (B :: G :: TH') w' := fun W hW => by
      have := waitF_any hW hkN hq
      unfold inS at this
      rw [rw_set_same hk, List.set_set] at this
      exact this
    rw [h1] at g0
    generalize strI t = s at *
    generalize σ.now = now at *
    clear hs h h1 hE hq hi
    go_enter Tryz.func12, Tryz.ntmps12
    go_wp2_with (first
      | (go_at_call 42; (with_reducible refine A.mono ?_); rintro e w1 ⟨rfl, hw⟩; subst w1)
      | (go_at_call 43; (with_reducible refine (S _).mono ?_); rintro e w1 ⟨rfl, hw⟩; subst w1)
      | (go_at_call 44; (with_reducible refine (WF _ hR).mono ?_); rintro e w2 ⟨rfl, TH2, h2, s2⟩))
    go_ret
    exact ⟨rfl, TH2, h2, (Step.same hB).trans s2⟩
  · have hE := joinE_here hk hs h1
    rw [joinS_self (by rw [hE]; decide), hE]
    have h1' : ((rw σ.L k).1 == 0) = false := by simpa using h1
    clear hE hs h1 hi
    generalize strI t = s at *
    generalize (rw σ.L k).1 = x at *
    go_enter Tryz.func12, Tryz.ntmps12
    go_wp2_with (first
      | (go_at_call 42; (with_reducible refine A.mono ?_); rintro e w1 ⟨rfl, hw⟩; subst w1)
      | (go_at_call 43; (with_reducible refine (S _).mono ?_); rintro e w1 ⟨rfl, hw⟩; subst w1))
    go_ret
    exact ⟨rfl, TH, h, Step.refl _ _⟩
theorem QM.gone (h : QM w B G H TH N σ q) {k : Nat} (hk : k < N) : QM ((((w.setCell ⟨G, k * 4, none⟩ (.int .i64 0)).setCell ⟨G, k * 4 + 1, none⟩ (.int .i64 0)).setCell ⟨G, k * 4 + 2, none⟩ (.int .i64 0)).setCell ⟨G, k * 4 + 3, none⟩ (.int .i64 0)) B G H TH N ⟨σ.now, σ.L.set k z4⟩ q := by
  have := h.row hk z4
  rw [show strI z4.2.1 = 0 from str_z] at this
  exact this
set_option maxHeartbeats 1000000 in
theorem drop_any (h : QM w B G H TH N σ (qL σ)) (id : Int) :
    Calls Tryz.prog 26 #[.pointer (some ⟨B, 0, none⟩), .int .i64 id] w fun e w' => e = .returned (.int .i64 (dropE σ id)) ∧ ∃ TH', QM w' B G H TH' N (dropS σ id) (qL (dropS σ id)) ∧ Step (B :: G :: TH) w (B :: G :: TH') w' := by
  have A := ask_any h id
  cases hi : inB σ id
  · have hE := dropE_no hi
    rw [dropS_self (by rw [hE]; decide), hE]
    rw [hi, if_neg (by simp)] at A
    go_enter Tryz.func26, Tryz.ntmps26
    go_wp2_with (first | (go_at_call 42; (with_reducible refine A.mono ?_); rintro e w1 ⟨rfl, hw⟩; subst w1))
    go_ret
    exact ⟨rfl, TH, h, Step.refl _ _⟩
  obtain ⟨k, rfl, hk⟩ := inB_out hi
  rw [hi, if_pos rfl] at A
  have hkN : k < N := by rw [← h.len]; exact hk
  have hk' : (k : Int) < (N : Int) := by omega
  obtain ⟨c, -, -, c0⟩ := h.c0
  have g0 := h.r0 hkN
  by_cases h0 : (rw σ.L k).1 = 0
  · have hE := dropE_none hk h0
    rw [dropS_self (by rw [hE]; decide), hE]
    rw [h0] at g0
    go_enter Tryz.func26, Tryz.ntmps26
    go_wp2_with (first | (go_at_call 42; (with_reducible refine A.mono ?_); rintro e w1 ⟨rfl, hw⟩; subst w1))
    go_ret
    exact ⟨rfl, TH, h, Step.refl _ _⟩
  have hE := dropE_ok hk h0
  rw [dropS_ok hE, hE]
  clear hE hi
  by_cases h1 : (rw σ.L k).1 = 1
  · rw [qL_out hk (by decide)]
    obtain ⟨e1, e2⟩ := rem_in hkN (hasq1 hk h1)
    have R := Hp.remove_any h.h (k : Int)
    rw [e1, e2] at R
    have c1 := h.c1
    rw [h1] at g0
    clear h0 h1 e1 e2
    go_enter Tryz.func26, Tryz.ntmps26
    go_wp2_with (first
      | (go_at_call 42; (with_reducible refine A.mono ?_); rintro e w1 ⟨rfl, hw⟩; subst w1)
      | (go_at_call 53; (with_reducible refine R.mono ?_); rintro e w2 ⟨rfl, TH2, q2, s2⟩; have h2 := h.heap q2 s2; obtain ⟨c2, -, -, d0⟩ := h2.c0; have g0 := h2.r0 hkN; have g1 := h2.r1 hkN; have g2 := h2.r2 hkN; have g3 := h2.r3 hkN; have f0 := h2.fg (k * 4); have f1 := h2.fg (k * 4 + 1); have f2 := h2.fg (k * 4 + 2); have f3 := h2.fg (k * 4 + 3)))
    go_ret
    exact ⟨rfl, TH2, h2.gone hkN, (wide2 B G s2).trans (Step.same (but4 _ B TH2 G k _ _ _ _))⟩
  · rw [qL_same hk h1 (by decide)]
    have g1 := h.r1 hkN
    have g2 := h.r2 hkN
    have g3 := h.r3 hkN
    have f0 := h.fg (k * 4)
    have f1 := h.fg (k * 4 + 1)
    have f2 := h.fg (k * 4 + 2)
    have f3 := h.fg (k * 4 + 3)
    have hR := h.gone hkN
    have h0' : ((rw σ.L k).1 == 0) = false := by simpa using h0
    have h1' : ((rw σ.L k).1 == 1) = false := by simpa using h1
    clear h0 h1
    generalize (rw σ.L k).1 = x0 at *
    go_enter Tryz.func26, Tryz.ntmps26
    go_wp2_with (first
      | (go_at_call 42; (with_reducible refine A.mono ?_); rintro e w1 ⟨rfl, hw⟩; subst w1))
    go_ret
    exact ⟨rfl, TH, hR, Step.same (but4 _ B TH G k _ _ _ _)⟩
end
end Go.Proofs.YtlnfabjgcecebaaGreat.Pq
