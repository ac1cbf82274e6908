/- Two threads that wait or run all the time, with one running at a time: their shares. -/
import Derived.Test.YtlnfabjgcecebaaRdG
import Derived.Test.YtlnfabjgcecebaaStTnM
namespace Go.Proofs.Ytlnfabjgcecebaa.Rd
open Go Go.RowKit Go.Proofs.Ytlnfabjgcecebaa.Big Go.Proofs.Ytlnfabjgcecebaa.Str

/-- A thread that has waited or run from the begin on. -/
def Sta (t : Int) (r : Rw) : Prop := (r.1 = 1 ∨ r.1 = 2) ∧ r.2.1 = t ∧ r.2.2.1 = r.2.2.2 * strI t
structure Run (K : Nat) (t u on : Int) (σ : Qs) : Prop where
  g : Gen K 0 σ
  n : 2 ≤ σ.L.length
  w : ∀ i, i < σ.L.length → (rw σ.L i).1 = 2 → on = (i : Int) ∧ σ.now ≤ (rw σ.L i).2.2.1
  o : on = -1 ∨ ∃ i : Nat, on = (i : Int) ∧ i < σ.L.length ∧ (rw σ.L i).1 = 2
  a : Sta t (rw σ.L 0)
  b : Sta u (rw σ.L 1)
section
variable {K : Nat} {t u on : Int} {σ : Qs}
theorem Run.up (h : Run K t u on σ) : Run (K + 1) t u on σ := ⟨h.g.up, h.n, h.w, h.o, h.a, h.b⟩
/-- A row is another one. -/
theorem Run.set (h : Run K t u on σ) {i : Nat} {r : Rw} {on' : Int} (hg : Gen K 0 ⟨σ.now, σ.L.set i r⟩) (hi : i < σ.L.length)
    (hw : ∀ j, j < σ.L.length → (rw (σ.L.set i r) j).1 = 2 → on' = (j : Int) ∧ σ.now ≤ (rw (σ.L.set i r) j).2.2.1) (ho : on' = -1 ∨ ∃ j : Nat, on' = (j : Int) ∧ j < σ.L.length ∧ (rw (σ.L.set i r) j).1 = 2)
    (ha : i = 0 → Sta t r) (hb : i = 1 → Sta u r) : Run K t u on' ⟨σ.now, σ.L.set i r⟩ :=
  ⟨hg, by simpa using h.n, fun j hj h2 => hw j (by simpa using hj) h2, ho.imp id (fun ⟨j, h1, h2, h3⟩ => ⟨j, h1, by simpa using h2, h3⟩), by
    show Sta t (rw (σ.L.set i r) 0)
    by_cases e : 0 = i
    · subst e
      rw [rw_set_same hi]
      exact ha rfl
    · rw [rw_set_other e]
      exact h.a, by
    show Sta u (rw (σ.L.set i r) 1)
    by_cases e : 1 = i
    · subst e
      rw [rw_set_same hi]
      exact hb rfl
    · rw [rw_set_other e]
      exact h.b⟩
/-- Another one's row, that neither ran nor will. -/
theorem Run.other (h : Run K t u on σ) {i : Nat} {r : Rw} (hg : Gen K 0 ⟨σ.now, σ.L.set i r⟩) (hi : i < σ.L.length) (h2 : 2 ≤ i) (hn : (rw σ.L i).1 ≠ 2) (hr : r.1 ≠ 2) : Run K t u on ⟨σ.now, σ.L.set i r⟩ := by
  refine h.set hg hi (fun j hj e => ?_) ?_ (fun e => by omega) (fun e => by omega)
  · by_cases ej : j = i
    · subst ej
      rw [rw_set_same hi] at e
      exact absurd e hr
    · rw [rw_set_other ej] at e ⊢
      exact h.w j hj e
  · refine h.o.imp id (fun ⟨j, e1, e2, e3⟩ => ⟨j, e1, e2, ?_⟩)
    rw [rw_set_other (fun ej => hn (by rw [← ej]; exact e3))]
    exact e3
theorem Run.start {N : Nat} (hN : 2 ≤ N) (ht : goodB t = true) (hu : goodB u = true) : joinE ⟨0, List.replicate N z4⟩ 0 t = 0 ∧ joinE (joinS ⟨0, List.replicate N z4⟩ 0 t) 1 u = 0 ∧ Run 0 t u (-1) (joinS (joinS ⟨0, List.replicate N z4⟩ 0 t) 1 u) := by
  have z : ∀ i, rw (List.replicate N z4) i = z4 := fun i => by
    unfold rw
    rw [List.getD_eq_getElem?_getD, List.getElem?_replicate]
    split <;> rfl
  have hst := (str_pos ht).1
  have hsu := (str_pos hu).1
  have l0 : (List.replicate N z4).length = N := by simp
  have e1 : joinE ⟨0, List.replicate N z4⟩ 0 t = 0 := by
    unfold joinE
    rw [show inB ⟨0, List.replicate N z4⟩ 0 = true from inB_of (k := 0) (by show 0 < (List.replicate N z4).length; omega), if_neg (by simp), if_neg (by omega), show rwI ⟨0, List.replicate N z4⟩ 0 = z4 from (rwI_of (k := 0) (by show 0 < (List.replicate N z4).length; omega)).trans (z 0)]
    rfl
  have s1 : joinS ⟨0, List.replicate N z4⟩ 0 t = ⟨0, (List.replicate N z4).set 0 (1, t, 0, 0)⟩ := by unfold joinS; rw [if_pos e1]; rfl
  rw [s1]
  have l1 : ((List.replicate N z4).set 0 (1, t, 0, 0)).length = N := by simp
  have r1 : rw ((List.replicate N z4).set 0 (1, t, 0, 0)) 1 = z4 := (rw_set_other (by omega) _).trans (z 1)
  have r0 : rw ((List.replicate N z4).set 0 (1, t, 0, 0)) 0 = (1, t, 0, 0) := rw_set_same (by omega) _
  have e2 : joinE ⟨0, (List.replicate N z4).set 0 (1, t, 0, 0)⟩ 1 u = 0 := by
    unfold joinE
    rw [show inB ⟨0, (List.replicate N z4).set 0 (1, t, 0, 0)⟩ 1 = true from inB_of (k := 1) (by show 1 < ((List.replicate N z4).set 0 (1, t, 0, 0)).length; omega), if_neg (by simp), if_neg (by omega), show rwI ⟨0, (List.replicate N z4).set 0 (1, t, 0, 0)⟩ 1 = z4 from (rwI_of (k := 1) (by show 1 < ((List.replicate N z4).set 0 (1, t, 0, 0)).length; omega)).trans r1]
    rfl
  have G := ((Gen.new N).join 0 t).join 1 u
  rw [s1] at G
  have s2 : joinS ⟨0, (List.replicate N z4).set 0 (1, t, 0, 0)⟩ 1 u = ⟨0, ((List.replicate N z4).set 0 (1, t, 0, 0)).set 1 (1, u, 0, 0)⟩ := by unfold joinS; rw [if_pos e2]; rfl
  rw [s2] at G ⊢
  have q1 : rw (((List.replicate N z4).set 0 (1, t, 0, 0)).set 1 (1, u, 0, 0)) 1 = (1, u, 0, 0) := rw_set_same (by omega) _
  have q0 : rw (((List.replicate N z4).set 0 (1, t, 0, 0)).set 1 (1, u, 0, 0)) 0 = (1, t, 0, 0) := (rw_set_other (by omega) _).trans r0
  refine ⟨e1, e2, G, by show 2 ≤ (List.set _ _ _).length; simp; omega, fun i hi h2 => ?_, .inl rfl, ?_, ?_⟩
  · exfalso
    have h2' : (rw (((List.replicate N z4).set 0 (1, t, 0, 0)).set 1 (1, u, 0, 0)) i).1 = 2 := h2
    by_cases i1 : i = 1
    · rw [i1, q1] at h2'
      cases h2'
    · rw [rw_set_other i1] at h2'
      by_cases i0 : i = 0
      · rw [i0, r0] at h2'
        cases h2'
      · rw [rw_set_other i0, z] at h2'
        cases h2'
  · show Sta t (rw _ 0)
    rw [q0]
    exact ⟨.inl rfl, rfl, by show (0 : Int) = 0 * _; omega⟩
  · show Sta u (rw _ 1)
    rw [q1]
    exact ⟨.inl rfl, rfl, by show (0 : Int) = 0 * _; omega⟩
theorem Run.join (h : Run K t u on σ) {id : Int} (hid : 2 ≤ id) (x : Int) : Run K t u on (joinS σ id x) := by
  have G := h.g.join id x
  unfold joinS at G ⊢
  split
  · rename_i e
    rw [if_pos e] at G
    cases hi : inB σ id
    · unfold joinE at e
      rw [hi] at e
      cases e
    · obtain ⟨k, rfl, hk⟩ := inB_out hi
      refine h.other (i := k) G hk (by omega) (fun e2 => ?_) (by show (1 : Int) ≠ 2; omega)
      unfold joinE at e
      rw [hi, if_neg (by simp), rwI_of hk, e2] at e
      split at e
      · cases e
      · simp at e
  · exact h
theorem Run.wake (h : Run K t u on σ) (hK : K ≤ 1000) {id : Int} (hid : 2 ≤ id) : Run K t u on (turnS σ id 3 1 true) := by
  have G := h.g.turn hK id 3 1 true (by omega) (.inr (.inr ⟨rfl, rfl⟩))
  unfold turnS at G ⊢
  split
  · rename_i e
    rw [if_pos e] at G
    obtain ⟨k, rfl, hk, hst⟩ := turn_out e
    exact h.other (i := k) G hk (by omega) (fun e2 => by omega) (by show (1 : Int) ≠ 2; omega)
  · exact h
theorem Run.drop (h : Run K t u on σ) {id : Int} (hid : 2 ≤ id) (hn : (rwI σ id).1 ≠ 2) : Run K t u on (dropS σ id) := by
  have G := h.g.drop id
  unfold dropS at G ⊢
  split
  · rename_i e
    rw [if_pos e] at G
    cases hi : inB σ id
    · unfold dropE at e
      rw [hi] at e
      cases e
    · obtain ⟨k, rfl, hk⟩ := inB_out hi
      rw [rwI_of hk] at hn
      exact h.other (i := k) G hk (by omega) hn (by show (0 : Int) ≠ 2; omega)
  · exact h
/-- The one that runs goes: nobody runs. -/
theorem Run.away (h : Run K t u on σ) {i : Nat} {r : Rw} (ho : on = (i : Int)) (hi : i < σ.L.length) (hg : Gen K 0 ⟨σ.now, σ.L.set i r⟩) (hr : r.1 ≠ 2) (ha : i = 0 → Sta t r) (hb : i = 1 → Sta u r) : Run K t u (-1) ⟨σ.now, σ.L.set i r⟩ := by
  refine h.set hg hi (fun j hj e => ?_) (.inl rfl) ha hb
  exfalso
  by_cases ej : j = i
  · subst ej
    rw [rw_set_same hi] at e
    exact hr e
  · rw [rw_set_other ej] at e
    have := (h.w j hj e).1
    omega
theorem Run.back (h : Run K t u on σ) (hK : K ≤ 1000) (ho : 0 ≤ on) : Run K t u (-1) (turnS σ on 2 1 true) := by
  have G := h.g.turn hK on 2 1 true (by omega) (.inr (.inr ⟨rfl, rfl⟩))
  obtain ⟨i, e1, hi, h2⟩ : ∃ i : Nat, on = (i : Int) ∧ i < σ.L.length ∧ (rw σ.L i).1 = 2 := h.o.resolve_left (by omega)
  subst e1
  have e : turnE σ (i : Int) 2 = 0 := by unfold turnE; rw [inB_of hi, if_neg (by simp), rwI_of hi, if_neg (by simpa using h2)]
  unfold turnS at G ⊢
  rw [if_pos e, if_pos rfl, rwI_of hi] at *
  have hw := (h.w i hi h2).2
  have n0 := h.g.n0
  have n1 := h.g.n1
  have n2 : (K : Int) * 1099511627776 ≤ 1000 * 1099511627776 := by omega
  have hs := str_bd (rw σ.L i).2.1
  have hent : entI (rw σ.L i).2.2.1 σ.now (strI (rw σ.L i).2.1) = (rw σ.L i).2.2.1 := by
    rcases h.g.r i hi with hz | ⟨g1, g2, g3, g4, _⟩
    · rw [hz] at h2
      cases h2
    · exact (ent_bd n0 (by omega) hs.1 hs.2).2.2 hw g4
  rw [hent] at G ⊢
  refine h.away rfl hi G (by show (1 : Int) ≠ 2; omega) (fun e => ?_) (fun e => ?_)
  · subst e
    exact ⟨.inl rfl, h.a.2.1, h.a.2.2⟩
  · subst e
    exact ⟨.inl rfl, h.b.2.1, h.b.2.2⟩
theorem Run.block (h : Run K t u on σ) (hK : K ≤ 1000) (ho : 2 ≤ on) : Run K t u (-1) (turnS σ on 2 3 false) := by
  have G := h.g.turn hK on 2 3 false (by omega) (.inr (.inl rfl))
  obtain ⟨i, e1, hi, h2⟩ : ∃ i : Nat, on = (i : Int) ∧ i < σ.L.length ∧ (rw σ.L i).1 = 2 := h.o.resolve_left (by omega)
  subst e1
  have e : turnE σ (i : Int) 2 = 0 := by unfold turnE; rw [inB_of hi, if_neg (by simp), rwI_of hi, if_neg (by simpa using h2)]
  unfold turnS at G ⊢
  rw [if_pos e] at *
  exact h.away rfl hi G (by show (3 : Int) ≠ 2; omega) (fun e => by omega) (fun e => by omega)
theorem Run.pick (h : Run K t u (-1) σ) : Run (K + 1) t u (if pickB σ = true then pickI σ else -1) (pickS σ) := by
  have G := h.g.pick
  cases e : qL σ with
  | nil =>
    rw [pickS_nil e, show pickB σ = false by unfold pickB; rw [e]; rfl, if_neg (by simp)]
    exact h.up
  | cons p q =>
    obtain ⟨hk, hst, hps, hle⟩ := pick_out e
    rw [show pickB σ = true by unfold pickB; rw [e]; rfl, if_pos rfl, show pickI σ = (p.1 : Int) by unfold pickI; rw [e]; rfl]
    rw [pickS_cons e] at G ⊢
    have hs := str_bd (rw σ.L p.1).2.1
    have hno : ∀ i, i < σ.L.length → (rw σ.L i).1 ≠ 2 := fun i hi h2 => by
      have := (h.w i hi h2).1
      omega
    have hnow : (if σ.now < p.2 then p.2 else σ.now) = p.2 := by
      rcases h.g.r p.1 hk with hz | ⟨g1, g2, g3, g4, g5, _⟩
      · rw [hz] at hst
        cases hst
      · have := g5 hst
        rw [← hps] at this
        split <;> omega
    rw [hnow] at G ⊢
    have hsta : ∀ {x : Int}, Sta x (rw σ.L p.1) → Sta x (2, (rw σ.L p.1).2.1, p.2 + strI (rw σ.L p.1).2.1, (rw σ.L p.1).2.2.2 + 1) := fun hx => ⟨.inr rfl, hx.2.1, by
      show p.2 + strI (rw σ.L p.1).2.1 = ((rw σ.L p.1).2.2.2 + 1) * strI _
      rw [hps, hx.2.1, hx.2.2, Int.add_mul, Int.one_mul]⟩
    refine ⟨G, by show 2 ≤ (σ.L.set _ _).length; rw [List.length_set]; exact h.n, fun i hi h2 => ?_, .inr ⟨p.1, rfl, by show p.1 < (σ.L.set _ _).length; rw [List.length_set]; exact hk, by show (rw (σ.L.set _ _) p.1).1 = 2; rw [rw_set_same hk]⟩, ?_, ?_⟩
    · have hi' : i < σ.L.length := by simpa using hi
      have h2' : (rw (σ.L.set p.1 (2, (rw σ.L p.1).2.1, p.2 + strI (rw σ.L p.1).2.1, (rw σ.L p.1).2.2.2 + 1)) i).1 = 2 := h2
      show (p.1 : Int) = (i : Int) ∧ p.2 ≤ (rw (σ.L.set p.1 (2, (rw σ.L p.1).2.1, p.2 + strI (rw σ.L p.1).2.1, (rw σ.L p.1).2.2.2 + 1)) i).2.2.1
      by_cases ei : i = p.1
      · subst ei
        rw [rw_set_same hk]
        exact ⟨rfl, by show p.2 ≤ p.2 + strI _; omega⟩
      · rw [rw_set_other ei] at h2'
        exact absurd h2' (hno i hi')
    · show Sta t (rw (σ.L.set p.1 _) 0)
      by_cases e0 : 0 = p.1
      · rw [e0, rw_set_same hk]
        exact hsta (e0 ▸ h.a)
      · rw [rw_set_other e0]
        exact h.a
    · show Sta u (rw (σ.L.set p.1 _) 1)
      by_cases e0 : 1 = p.1
      · rw [e0, rw_set_same hk]
        exact hsta (e0 ▸ h.b)
      · rw [rw_set_other e0]
        exact h.b
/-- Their picks are as their tickets say. -/
theorem Run.near (h : Run K t u on σ) (hK : K ≤ 300) (ht : goodB t = true) (hu : goodB u = true) : withB (rw σ.L 0).2.2.2 t (rw σ.L 1).2.2.2 u 1 = true := by
  have wi : ∀ i, i < σ.L.length → ((rw σ.L i).1 = 1 ∨ (rw σ.L i).1 = 2) → σ.now ≤ (rw σ.L i).2.2.1 ∧ (rw σ.L i).2.2.1 ≤ σ.now + strI (rw σ.L i).2.1 ∧ 0 ≤ (rw σ.L i).2.2.2 ∧ (rw σ.L i).2.2.2 ≤ (K : Int) := fun i hi hs => by
    rcases h.g.r i hi with hz | ⟨g1, g2, g3, g4, g5, g6, g7⟩
    · rw [hz] at hs
      simp [z4] at hs
    · refine ⟨?_, g4, g6, g7⟩
      rcases hs with e | e
      · exact g5 e
      · exact (h.w i hi e).2
  have hn := h.n
  have A := wi 0 (by omega) h.a.1
  have B := wi 1 (by omega) h.b.1
  rw [h.a.2.1, h.a.2.2] at A
  rw [h.b.2.1, h.b.2.2] at B
  obtain ⟨a, ha⟩ : ∃ a : Nat, (rw σ.L 0).2.2.2 = a := ⟨(rw σ.L 0).2.2.2.toNat, by omega⟩
  obtain ⟨b, hb⟩ : ∃ b : Nat, (rw σ.L 1).2.2.2 = b := ⟨(rw σ.L 1).2.2.2.toNat, by omega⟩
  rw [ha] at A ⊢
  rw [hb] at B ⊢
  have hg : allB [t, u] = true := by simp [allB, ht, hu]
  have s0 := (sN_eq hg (i := 0) (by simp)).1
  have s1 := (sN_eq hg (i := 1) (by simp)).1
  have x0 : ix [t, u] 0 = t := rfl
  have x1 : ix [t, u] 1 = u := rfl
  rw [x0] at s0
  rw [x1] at s1
  rw [s0] at A
  rw [s1] at B
  have A1 : (a : Int) * (sN [t, u] 0 : Int) ≤ (b : Int) * (sN [t, u] 1 : Int) + (sN [t, u] 0 : Int) := by omega
  have B1 : (b : Int) * (sN [t, u] 1 : Int) ≤ (a : Int) * (sN [t, u] 0 : Int) + (sN [t, u] 1 : Int) := by omega
  have A2 : a * sN [t, u] 0 ≤ b * sN [t, u] 1 + sN [t, u] 0 := by
    rw [← Int.natCast_mul, ← Int.natCast_mul] at A1
    omega
  have B2 : b * sN [t, u] 1 ≤ a * sN [t, u] 0 + sN [t, u] 1 := by
    rw [← Int.natCast_mul, ← Int.natCast_mul] at B1
    omega
  have T : Turns [t, u].length (sN [t, u]) (fun i => (if i = 0 then a else b) * sN [t, u] i) (fun i => if i = 0 then a else b) (fun _ => 0) := by
    have key : ∀ i j, i < 2 → j < 2 → (if i = 0 then a else b) * sN [t, u] i ≤ (if j = 0 then a else b) * sN [t, u] j + sN [t, u] i := fun i j hi hj => by
      have e1 : i = 0 ∨ i = 1 := by omega
      have e2 : j = 0 ∨ j = 1 := by omega
      rcases e1 with rfl | rfl <;> rcases e2 with rfl | rfl <;> simp <;> omega
    refine ⟨fun i _ => rfl, fun i j hi hj => key i j hi hj, fun i hi => ⟨fun _ => 0, sm_zero _, fun j hj => ?_⟩⟩
    have := key i j hi hj
    show 0 * _ + _ ≤ _
    omega
  exact T.near (i := 0) (j := 1) hg (by simp) (by simp) (by show (if (0 : Nat) = 0 then a else b) ≤ 300; rw [if_pos rfl]; omega) (by show (if (1 : Nat) = 0 then a else b) ≤ 300; rw [if_neg (by omega)]; omega)
end
end Go.Proofs.Ytlnfabjgcecebaa.Rd
