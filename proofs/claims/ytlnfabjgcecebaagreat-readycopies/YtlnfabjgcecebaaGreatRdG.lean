/- Queues of threads: what holds of them behind any acts. -/
import Derived.Test.YtlnfabjgcecebaaGreatRdM
namespace Go.Proofs.YtlnfabjgcecebaaGreat.Rd
open Go Go.RowKit Go.Proofs.YtlnfabjgcecebaaGreat.Big Go.Proofs.YtlnfabjgcecebaaGreat.Str

/-- What holds of a row, where all that was lowered is A. -/
def Good (K : Nat) (A now : Int) (r : Rw) : Prop :=
  r = z4 ∨ ((r.1 = 1 ∨ r.1 = 2 ∨ r.1 = 3) ∧ goodB r.2.1 = true ∧ -A ≤ r.2.2.1 ∧ r.2.2.1 ≤ now + strI r.2.1 ∧ (r.1 = 1 → now ≤ r.2.2.1) ∧ 0 ≤ r.2.2.2 ∧ r.2.2.2 ≤ (K : Int))
structure Gen (K : Nat) (A : Int) (σ : Qs) : Prop where
  a0 : 0 ≤ A
  n0 : 0 ≤ σ.now
  n1 : A + σ.now ≤ (K : Int) * 1099511627776
  r : ∀ i, i < σ.L.length → Good K A σ.now (rw σ.L i)
section
variable {K : Nat} {A : Int} {σ : Qs}
theorem Good.up {now : Int} {r : Rw} (h : Good K A now r) : Good (K + 1) A now r :=
  h.imp id (fun ⟨h1, h2, h3, h4, h5, h6, h7⟩ => ⟨h1, h2, h3, h4, h5, h6, by omega⟩)
theorem Gen.up (h : Gen K A σ) : Gen (K + 1) A σ := ⟨h.a0, h.n0, by have := h.n1; omega, fun i hi => (h.r i hi).up⟩
theorem Gen.any (h : Gen K A σ) (i : Nat) : Good K A σ.now (rw σ.L i) := by
  by_cases hi : i < σ.L.length
  · exact h.r i hi
  · rw [rw_past (by omega)]
    exact .inl rfl
theorem Gen.set (h : Gen K A σ) {i : Nat} {r : Rw} (hr : Good K A σ.now r) : Gen K A ⟨σ.now, σ.L.set i r⟩ :=
  ⟨h.a0, h.n0, h.n1, fun j hj => by
    have hj' : j < σ.L.length := by simpa using hj
    by_cases e : j = i
    · subst e
      show Good K A σ.now (rw (σ.L.set j r) j)
      rw [rw_set_same hj']
      exact hr
    · show Good K A σ.now (rw (σ.L.set i r) j)
      rw [rw_set_other e]
      exact h.r j hj'⟩
theorem Gen.new (N : Nat) : Gen 0 0 ⟨0, List.replicate N z4⟩ := ⟨by omega, by show (0 : Int) ≤ 0; omega, by simp, fun i hi => .inl (by
  have hi' : i < N := by simpa using hi
  show rw (List.replicate N z4) i = z4
  unfold rw
  rw [List.getD_eq_getElem?_getD, List.getElem?_replicate, if_pos hi']
  rfl)⟩
theorem Gen.small (h : Gen K A σ) (hK : K ≤ 1000) (i : Nat) : -1099511627776000 ≤ (rw σ.L i).2.2.1 ∧ (rw σ.L i).2.2.1 ≤ 1100611139403776 ∧ 0 ≤ (rw σ.L i).2.2.2 ∧ (rw σ.L i).2.2.2 ≤ 1000 := by
  have h1 := h.n1
  have h2 := h.a0
  have h3 := h.n0
  have h4 : (K : Int) * 1099511627776 ≤ 1000 * 1099511627776 := by omega
  rcases h.any i with e | ⟨_, hg, g1, g2, _, g3, g4⟩
  · rw [e]
    simp [z4]
  · have := str_bd (rw σ.L i).2.1
    omega
theorem str_zero {t : Int} : strI t = 0 ↔ goodB t = false := by
  cases h : goodB t
  · simp [str_bad h]
  · have := str_pos h
    simp
    omega
theorem Gen.join (h : Gen K A σ) (id t : Int) : Gen K A (joinS σ id t) := by
  unfold joinS
  split
  · rename_i e
    refine h.set (.inr ⟨.inl rfl, ?_, ?_, ?_, fun _ => Int.le_refl _, Int.le_refl _, by show (0 : Int) ≤ (K : Int); omega⟩)
    · cases hg : goodB t
      · unfold joinE at e
        rw [str_bad hg] at e
        split at e
        · cases e
        · rw [if_pos rfl] at e
          cases e
      · exact rfl
    · show -A ≤ σ.now
      have := h.a0
      have := h.n0
      omega
    · show σ.now ≤ σ.now + strI t
      have := str_bd t
      omega
  · exact h
theorem ent_bd {ps now s : Int} (h0 : 0 ≤ now) (h1 : now ≤ 1099511627776000) (hs0 : 0 ≤ s) (hs1 : s ≤ 1099511627776) : now ≤ entI ps now s ∧ entI ps now s ≤ now + s ∧ (now ≤ ps → ps ≤ now + s → entI ps now s = ps) := by
  have e : nearI now s = now + s := by unfold nearI; rw [if_pos (by unfold fitsB; simp; omega)]
  unfold entI
  rw [e]
  unfold clampI
  refine ⟨?_, ?_, fun _ _ => ?_⟩
  · repeat (first | omega | split)
  · repeat (first | omega | split)
  · repeat (first | omega | split)
theorem turn_out {id fr : Int} (e : turnE σ id fr = 0) : ∃ k : Nat, id = k ∧ k < σ.L.length ∧ (rw σ.L k).1 = fr := by
  unfold turnE at e
  cases hi : inB σ id
  · rw [hi] at e
    cases e
  · obtain ⟨k, rfl, hk⟩ := inB_out hi
    refine ⟨k, rfl, hk, ?_⟩
    rw [hi, if_neg (by simp), rwI_of hk] at e
    by_cases h : (rw σ.L k).1 = fr
    · exact h
    · rw [if_pos h] at e
      cases e
theorem Gen.turn (h : Gen K A σ) (hK : K ≤ 1000) (id fr tt : Int) (b : Bool) (hf : fr ≠ 0) (ht : tt = 2 ∨ tt = 3 ∨ (tt = 1 ∧ b = true)) : Gen K A (turnS σ id fr tt b) := by
  unfold turnS
  split
  · rename_i e
    obtain ⟨k, rfl, hk, hst⟩ := turn_out e
    rw [rwI_of hk, show (k : Int).toNat = k by omega]
    have n0 := h.n0
    have n1 := h.n1
    have a0 := h.a0
    have n2 : (K : Int) * 1099511627776 ≤ 1000 * 1099511627776 := by omega
    rcases h.r k hk with hz | ⟨g1, g2, g3, g4, g5, g6, g7⟩
    · rw [hz] at hst
      exact absurd hst.symm hf
    · have hs := str_bd (rw σ.L k).2.1
      refine h.set (.inr ⟨?_, g2, ?_, ?_, ?_, g6, g7⟩)
      · show tt = 1 ∨ tt = 2 ∨ tt = 3
        rcases ht with h | h | ⟨h, _⟩ <;> omega
      · show -A ≤ (if b = true then _ else _)
        split
        · have := ent_bd (ps := (rw σ.L k).2.2.1) n0 (by omega) hs.1 hs.2
          omega
        · exact g3
      · show (if b = true then _ else _) ≤ _
        split
        · exact (ent_bd (ps := (rw σ.L k).2.2.1) n0 (by omega) hs.1 hs.2).2.1
        · exact g4
      · intro h1
        show _ ≤ (if b = true then _ else _)
        have h1' : tt = 1 := h1
        have hb : b = true := by rcases ht with h | h | ⟨_, h⟩ <;> first | exact h | omega
        rw [if_pos hb]
        exact (ent_bd (ps := (rw σ.L k).2.2.1) n0 (by omega) hs.1 hs.2).1
  · exact h
theorem Gen.drop (h : Gen K A σ) (id : Int) : Gen K A (dropS σ id) := by
  unfold dropS
  split
  · exact h.set (.inl rfl)
  · exact h
theorem Gen.lowB (h : Gen K A σ) (hK : K ≤ 1000) : lowB σ = true := by
  unfold Rd.lowB
  refine List.all_eq_true.2 (fun r hr => ?_)
  obtain ⟨i, hi, rfl⟩ := List.mem_iff_getElem.1 hr
  have e := rw_get hi
  rw [List.getElem?_eq_getElem hi] at e
  rw [Option.some.inj e]
  have := h.small hK i
  have n0 := h.n0
  have n1 := h.n1
  have a0 := h.a0
  have n2 : (K : Int) * 1099511627776 ≤ 1000 * 1099511627776 := by omega
  unfold fitsB
  simp
  omega
theorem rw_map {L : List Rw} {f : Rw → Rw} (hf : f z4 = z4) (i : Nat) : rw (L.map f) i = f (rw L i) := by
  unfold rw
  rw [List.getD_eq_getElem?_getD, List.getD_eq_getElem?_getD, List.getElem?_map]
  cases L[i]? with
  | none => exact hf.symm
  | some r => rfl
theorem Gen.low (h : Gen K A σ) : Gen K (A + σ.now) (lowS σ) ∨ lowS σ = σ := by
  unfold lowS
  split
  · refine .inl ⟨by have := h.a0; have := h.n0; omega, by show (0 : Int) ≤ 0; omega, by have := h.n1; show A + σ.now + 0 ≤ _; omega, fun i hi => ?_⟩
    show Good K (A + σ.now) 0 (rw (σ.L.map (lowR σ.now)) i)
    rw [rw_map (f := lowR σ.now) (if_pos rfl)]
    unfold lowR
    have n0 := h.n0
    rcases h.any i with e | ⟨g1, g2, g3, g4, g5, g6, g7⟩
    · rw [if_pos (by rw [e]; rfl), e]
      exact .inl rfl
    · rw [if_neg (by omega)]
      refine .inr ⟨g1, g2, ?_, ?_, fun h1 => ?_, g6, g7⟩
      · show -(A + σ.now) ≤ (rw σ.L i).2.2.1 - σ.now
        omega
      · show (rw σ.L i).2.2.1 - σ.now ≤ 0 + strI (rw σ.L i).2.1
        omega
      · show 0 ≤ (rw σ.L i).2.2.1 - σ.now
        have := g5 h1
        omega
  · exact .inr rfl
/-- Who is picked: one that waits, of the least pass. -/
theorem pick_out {p : Hp.Th} {q : List Hp.Th} (e : qL σ = p :: q) : p.1 < σ.L.length ∧ (rw σ.L p.1).1 = 1 ∧ p.2 = (rw σ.L p.1).2.2.1 ∧ ∀ i, i < σ.L.length → (rw σ.L i).1 = 1 → p.2 ≤ (rw σ.L i).2.2.1 := by
  have hm := qN_mem (L := σ.L) (m := σ.L.length) (p := p) (by show p ∈ qL σ; rw [e]; simp)
  refine ⟨hm.1, hm.2.1, hm.2.2, fun i hi h1 => ?_⟩
  have h2 := qN_has (L := σ.L) hi h1
  have h3 : (i, (rw σ.L i).2.2.1) ∈ p :: q := by rw [← e]; exact h2
  rcases List.mem_cons.1 h3 with h4 | h4
  · rw [← h4]
    exact Int.le_refl _
  · have hs : Hp.Srt (p :: q) := by rw [← e]; exact qN_srt _
    have := (List.pairwise_cons.1 hs).1 _ h4
    rw [Hp.befB_iff] at this
    dsimp only at this
    omega
theorem pickS_nil (e : qL σ = []) : pickS σ = σ := by unfold pickS; rw [e]; rfl
theorem pickS_cons {p : Hp.Th} {q : List Hp.Th} (e : qL σ = p :: q) : pickS σ = ⟨if σ.now < p.2 then p.2 else σ.now, σ.L.set p.1 (2, (rw σ.L p.1).2.1, p.2 + strI (rw σ.L p.1).2.1, (rw σ.L p.1).2.2.2 + 1)⟩ := by unfold pickS; rw [e]; rfl
theorem Gen.pick (h : Gen K A σ) : Gen (K + 1) A (pickS σ) := by
  cases e : qL σ with
  | nil => rw [pickS_nil e]; exact h.up
  | cons p q =>
    obtain ⟨hk, hst, hps, hle⟩ := pick_out e
    rw [pickS_cons e]
    have n0 := h.n0
    have n1 := h.n1
    rcases h.r p.1 hk with hz | ⟨g1, g2, g3, g4, g5, g6, g7⟩
    · rw [hz] at hst
      exact absurd hst (by simp [z4])
    · have g5' := g5 hst
      rw [← hps] at g5' g4 g3
      have hs := str_bd (rw σ.L p.1).2.1
      have hnow : (if σ.now < p.2 then p.2 else σ.now) = p.2 := by split <;> omega
      rw [hnow]
      refine ⟨h.a0, by show 0 ≤ p.2; omega, by show A + p.2 ≤ _; omega, fun i hi => ?_⟩
      have hi' : i < σ.L.length := by simpa using hi
      show Good (K + 1) A p.2 (rw (σ.L.set p.1 _) i)
      by_cases ei : i = p.1
      · subst ei
        rw [rw_set_same hk]
        refine .inr ⟨.inr (.inl rfl), g2, ?_, Int.le_refl _, fun h1 => absurd h1 (by show ¬ (2 : Int) = 1; omega), ?_, ?_⟩
        · show -A ≤ p.2 + strI _
          omega
        · show 0 ≤ _ + (1 : Int)
          omega
        · show _ + (1 : Int) ≤ _
          omega
      · rw [rw_set_other ei]
        rcases h.r i hi' with hz | ⟨f1, f2, f3, f4, f5, f6, f7⟩
        · rw [hz]
          exact .inl rfl
        · refine .inr ⟨f1, f2, f3, by omega, fun h1 => hle i hi' h1, f6, by omega⟩
end
end Go.Proofs.YtlnfabjgcecebaaGreat.Rd
