/- The document's Join, Drop; one field of a row is stored. -/
import Derived.Test.YtlnfabjgcecebaaGreatRdR
namespace Go.Proofs.YtlnfabjgcecebaaGreat.Rd
open Go Go.RowKit Go.Proofs.YtlnfabjgcecebaaGreat.Big Go.Proofs.YtlnfabjgcecebaaGreat.Str Go.Proofs.YtlnfabjgcecebaaGreat.Hp

theorem set_same {α : Type} {l : List α} {j : Nat} {v : α} (h : l[j]? = some v) : l.set j v = l := by
  apply List.ext_getElem?
  intro k
  by_cases e : j = k
  · subst e
    rw [List.getElem?_set_self (List.getElem?_eq_some_iff.1 h).1, h]
  · rw [List.getElem?_set_ne e]
theorem set_set {α : Type} {l : List α} {i j : Nat} {u v : α} (hij : i ≠ j) : (l.set i u).set j v = (l.set j v).set i u := List.set_comm u v hij
section
variable {w w' : World} {M G N : Nat} {σ : Qs}
theorem flat4_f0 {xs : List Rw} {i : Nat} (h : i < xs.length) (x : Int) : flat4 (xs.set i (x, (rw xs i).2)) = (flat4 xs).set (i * 4) (.int .i64 x) := by
  have e1 := flat4_get (k := 1) h (by omega)
  have e2 := flat4_get (k := 2) h (by omega)
  have e3 := flat4_get (k := 3) h (by omega)
  rw [flat4_set h, set_same (by rw [List.getElem?_set_ne (by omega), List.getElem?_set_ne (by omega), List.getElem?_set_ne (by omega)]; exact e3), set_same (by rw [List.getElem?_set_ne (by omega), List.getElem?_set_ne (by omega)]; exact e2), set_same (by rw [List.getElem?_set_ne (by omega)]; exact e1)]
theorem flat4_f2 {xs : List Rw} {i : Nat} (h : i < xs.length) (x : Int) : flat4 (xs.set i ((rw xs i).1, (rw xs i).2.1, x, (rw xs i).2.2.2)) = (flat4 xs).set (i * 4 + 2) (.int .i64 x) := by
  have e0 := flat4_get (k := 0) h (by omega)
  have e1 := flat4_get (k := 1) h (by omega)
  have e3 := flat4_get (k := 3) h (by omega)
  rw [flat4_set h, set_same (l := flat4 xs) (j := i * 4) e0, set_same (l := flat4 xs) (j := i * 4 + 1) e1, set_same (by rw [List.getElem?_set_ne (by omega)]; exact e3)]
theorem flat4_f3 {xs : List Rw} {i : Nat} (h : i < xs.length) (x : Int) : flat4 (xs.set i ((rw xs i).1, (rw xs i).2.1, (rw xs i).2.2.1, x)) = (flat4 xs).set (i * 4 + 3) (.int .i64 x) := by
  have e0 := flat4_get (k := 0) h (by omega)
  have e1 := flat4_get (k := 1) h (by omega)
  have e2 := flat4_get (k := 2) h (by omega)
  rw [flat4_set h, set_same (l := flat4 xs) (j := i * 4) e0, set_same (l := flat4 xs) (j := i * 4 + 1) e1, set_same (l := flat4 xs) (j := i * 4 + 2) e2]
theorem RQ.fld (h : RQ w M G N σ) {L : List Rw} (hl : L.length = σ.L.length) (j : Nat) (v : Value) (e : flat4 L = (flat4 σ.L).set j v) : RQ (w.setCell ⟨G, j, none⟩ v) M G N ⟨σ.now, L⟩ := by
  obtain ⟨c, h1, h2, hb⟩ := h.b
  have hu : But [G] w (w.setCell ⟨G, j, none⟩ v) := (But.refl [G] w).set (p := ⟨G, j, none⟩) (by simp) _
  exact ⟨⟨c, h1, h2, (hu.block _ h.ltM (by simpa using h.ne)).trans hb⟩, by show Row _ _ _ (flat4 L); rw [e]; exact h.g.set _ _, h.ne, by show L.length = N; rw [hl]; exact h.len, h.n1, h.n2⟩
theorem RQ.f0 (h : RQ w M G N σ) {i : Nat} (hi : i < N) (x : Int) : RQ (w.setCell ⟨G, i * 4, none⟩ (.int .i64 x)) M G N ⟨σ.now, σ.L.set i (x, (rw σ.L i).2)⟩ := h.fld (by simp) _ _ (flat4_f0 (by rw [h.len]; exact hi) x)
theorem RQ.f2 (h : RQ w M G N σ) {i : Nat} (hi : i < N) (x : Int) : RQ (w.setCell ⟨G, i * 4 + 2, none⟩ (.int .i64 x)) M G N ⟨σ.now, σ.L.set i ((rw σ.L i).1, (rw σ.L i).2.1, x, (rw σ.L i).2.2.2)⟩ := h.fld (by simp) _ _ (flat4_f2 (by rw [h.len]; exact hi) x)
theorem RQ.f3 (h : RQ w M G N σ) {i : Nat} (hi : i < N) (x : Int) : RQ (w.setCell ⟨G, i * 4 + 3, none⟩ (.int .i64 x)) M G N ⟨σ.now, σ.L.set i ((rw σ.L i).1, (rw σ.L i).2.1, (rw σ.L i).2.2.1, x)⟩ := h.fld (by simp) _ _ (flat4_f3 (by rw [h.len]; exact hi) x)
theorem but_row (w : World) (M G i : Nat) (a b c d : Value) : But [M, G] w ((((w.setCell ⟨G, i * 4, none⟩ a).setCell ⟨G, i * 4 + 1, none⟩ b).setCell ⟨G, i * 4 + 2, none⟩ c).setCell ⟨G, i * 4 + 3, none⟩ d) :=
  ((((But.refl [M, G] w).set (p := ⟨G, i * 4, none⟩) (by simp) _).set (p := ⟨G, i * 4 + 1, none⟩) (by simp) _).set (p := ⟨G, i * 4 + 2, none⟩) (by simp) _).set (p := ⟨G, i * 4 + 3, none⟩) (by simp) _
set_option maxHeartbeats 1000000 in
theorem join_any (h : RQ w M G N σ) (id t : Int) :
    Calls Tryz.prog 15 #[.pointer (some ⟨M, 0, none⟩), .int .i64 id, .int .i64 t] w fun e w' => e = .returned (.int .i64 (joinE σ id t)) ∧ RQ w' M G N (joinS σ id t) ∧ But [M, G] w w' := by
  have R := row_any h id
  have S := fun W => rstride_any t W
  cases hi : inB σ id
  · have hE : joinE σ id t = 8 := by unfold joinE; rw [hi]; rfl
    have hS : joinS σ id t = σ := by unfold joinS; rw [hE]; rfl
    rw [hE, hS]
    rw [hi] at R
    go_enter Tryz.func15, Tryz.ntmps15
    go_wp2_with (first | (go_at_call 49; (with_reducible refine R.mono ?_); rintro e w1 ⟨rfl, rfl⟩))
    go_ret
    exact ⟨rfl, h, But.refl _ _⟩
  · obtain ⟨k, rfl, hk⟩ := inB_out hi
    have hkN : k < N := by rw [← h.len]; exact hk
    have c0 := h.r0 hkN
    have n0 := h.c0
    have f0 := h.g.fz (k * 4)
    have f1 := h.g.fz (k * 4 + 1)
    have f2 := h.g.fz (k * 4 + 2)
    have f3 := h.g.fz (k * 4 + 3)
    have c1 := h.r1 hkN
    have c2 := h.r2 hkN
    have c3 := h.r3 hkN
    rw [hi] at R
    rw [if_pos rfl, show (k : Int).toNat = k by omega] at R
    by_cases hs : strI t = 0
    · have hE : joinE σ (k : Int) t = 2 := by unfold joinE; rw [hi, if_neg (by simp), if_pos hs]
      have hS : joinS σ (k : Int) t = σ := by unfold joinS; rw [hE]; rfl
      rw [hE, hS]
      rw [hs] at S
      go_enter Tryz.func15, Tryz.ntmps15
      go_wp2_with (first
        | (go_at_call 49; (with_reducible refine R.mono ?_); rintro e w1 ⟨rfl, rfl⟩)
        | (go_at_call 50; (with_reducible refine (S _).mono ?_); rintro e w1 ⟨rfl, rfl⟩))
      go_ret
      exact ⟨rfl, h, But.refl _ _⟩
    · have hs' : (strI t == 0) = false := by simpa using hs
      by_cases h0 : (rw σ.L k).1 = 0
      · have hE : joinE σ (k : Int) t = 0 := by unfold joinE; rw [hi, if_neg (by simp), if_neg hs, rwI_of hk, if_neg (by simpa using h0)]
        have hS : joinS σ (k : Int) t = ⟨σ.now, σ.L.set k (1, t, σ.now, 0)⟩ := by unfold joinS; rw [hE]; rfl
        rw [hE, hS]
        have hR := h.row hkN (1, t, σ.now, 0)
        have hB := but_row w M G k (.int .i64 1) (.int .i64 t) (.int .i64 σ.now) (.int .i64 0)
        rw [h0] at c0
        generalize σ.now = now at *
        generalize strI t = s at *
        clear hs h0
        go_enter Tryz.func15, Tryz.ntmps15
        go_wp2_with (first
          | (go_at_call 49; (with_reducible refine R.mono ?_); rintro e w1 ⟨rfl, rfl⟩)
          | (go_at_call 50; (with_reducible refine (S _).mono ?_); rintro e w1 ⟨rfl, rfl⟩))
        go_ret
        exact ⟨rfl, hR, hB⟩
      · have hE : joinE σ (k : Int) t = 5 := by unfold joinE; rw [hi, if_neg (by simp), if_neg hs, rwI_of hk, if_pos (by simpa using h0)]
        have hS : joinS σ (k : Int) t = σ := by unfold joinS; rw [hE]; rfl
        rw [hE, hS]
        have h0' : ((rw σ.L k).1 == 0) = false := by simpa using h0
        generalize (rw σ.L k).1 = st at *
        generalize strI t = s at *
        clear hs h0
        go_enter Tryz.func15, Tryz.ntmps15
        go_wp2_with (first
          | (go_at_call 49; (with_reducible refine R.mono ?_); rintro e w1 ⟨rfl, rfl⟩)
          | (go_at_call 50; (with_reducible refine (S _).mono ?_); rintro e w1 ⟨rfl, rfl⟩))
        go_ret
        exact ⟨rfl, h, But.refl _ _⟩
set_option maxHeartbeats 1000000 in
theorem drop_any (h : RQ w M G N σ) (id : Int) :
    Calls Tryz.prog 27 #[.pointer (some ⟨M, 0, none⟩), .int .i64 id] w fun e w' => e = .returned (.int .i64 (dropE σ id)) ∧ RQ w' M G N (dropS σ id) ∧ But [M, G] w w' := by
  have R := row_any h id
  cases hi : inB σ id
  · have hE : dropE σ id = 8 := by unfold dropE; rw [hi]; rfl
    have hS : dropS σ id = σ := by unfold dropS; rw [hE]; rfl
    rw [hE, hS]
    rw [hi] at R
    go_enter Tryz.func27, Tryz.ntmps27
    go_wp2_with (first | (go_at_call 49; (with_reducible refine R.mono ?_); rintro e w1 ⟨rfl, rfl⟩))
    go_ret
    exact ⟨rfl, h, But.refl _ _⟩
  · obtain ⟨k, rfl, hk⟩ := inB_out hi
    have hkN : k < N := by rw [← h.len]; exact hk
    have c0 := h.r0 hkN
    have f0 := h.g.fz (k * 4)
    have f1 := h.g.fz (k * 4 + 1)
    have f2 := h.g.fz (k * 4 + 2)
    have f3 := h.g.fz (k * 4 + 3)
    have c1 := h.r1 hkN
    have c2 := h.r2 hkN
    have c3 := h.r3 hkN
    rw [hi] at R
    rw [if_pos rfl, show (k : Int).toNat = k by omega] at R
    by_cases h0 : (rw σ.L k).1 = 0
    · have hE : dropE σ (k : Int) = 4 := by unfold dropE; rw [hi, if_neg (by simp), rwI_of hk, if_pos h0]
      have hS : dropS σ (k : Int) = σ := by unfold dropS; rw [hE]; rfl
      rw [hE, hS]
      rw [h0] at c0
      go_enter Tryz.func27, Tryz.ntmps27
      go_wp2_with (first | (go_at_call 49; (with_reducible refine R.mono ?_); rintro e w1 ⟨rfl, rfl⟩))
      go_ret
      exact ⟨rfl, h, But.refl _ _⟩
    · have hE : dropE σ (k : Int) = 0 := by unfold dropE; rw [hi, if_neg (by simp), rwI_of hk, if_neg h0]
      have hS : dropS σ (k : Int) = ⟨σ.now, σ.L.set k z4⟩ := by unfold dropS; rw [hE]; rfl
      rw [hE, hS]
      have hR := h.row hkN z4
      have hB := but_row w M G k (.int .i64 0) (.int .i64 0) (.int .i64 0) (.int .i64 0)
      have h0' : ((rw σ.L k).1 == 0) = false := by simpa using h0
      generalize (rw σ.L k).1 = st at *
      clear h0
      go_enter Tryz.func27, Tryz.ntmps27
      go_wp2_with (first | (go_at_call 49; (with_reducible refine R.mono ?_); rintro e w1 ⟨rfl, rfl⟩))
      go_ret
      exact ⟨rfl, hR, hB⟩
end
end Go.Proofs.YtlnfabjgcecebaaGreat.Rd
