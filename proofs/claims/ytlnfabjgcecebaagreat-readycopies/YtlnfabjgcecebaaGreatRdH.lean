/- Who waits, as chapter 6's heap has it, behind each call. -/
import Derived.Test.YtlnfabjgcecebaaGreatRdG
import Derived.Test.YtlnfabjgcecebaaGreatJ9
namespace Go.Proofs.YtlnfabjgcecebaaGreat.Rd
open Go Go.RowKit Go.Proofs.YtlnfabjgcecebaaGreat.Str

theorem qL_mem {σ : Qs} {p : Hp.Th} : p ∈ qL σ ↔ p.1 < σ.L.length ∧ (rw σ.L p.1).1 = 1 ∧ p.2 = (rw σ.L p.1).2.2.1 :=
  ⟨fun h => qN_mem h, fun h => by
    obtain ⟨k, x⟩ := p
    obtain ⟨h1, h2, h3⟩ := h
    dsimp only at h1 h2 h3
    rw [h3]
    exact qN_has h1 h2⟩
theorem qL_srt (σ : Qs) : Hp.Srt (qL σ) := qN_srt _
theorem qL_nd (σ : Qs) : ((qL σ).map (·.1)).Nodup := qN_nd _
theorem nd_of {q : List Hp.Th} (h : (q.map (·.1)).Nodup) : q.Nodup := (List.pairwise_map.1 h).imp (fun hne e => hne (congrArg _ e))
theorem qL_ext {σ : Qs} {q : List Hp.Th} (hs : Hp.Srt q) (hn : (q.map (·.1)).Nodup) (hm : ∀ p, p ∈ q ↔ p.1 < σ.L.length ∧ (rw σ.L p.1).1 = 1 ∧ p.2 = (rw σ.L p.1).2.2.1) : qL σ = q :=
  (qL_srt σ).uniq hs ((List.perm_ext_iff_of_nodup (nd_of (qL_nd σ)) (nd_of hn)).2 (fun p => qL_mem.trans (hm p).symm))
theorem qL_now (n : Int) (σ : Qs) : qL ⟨n, σ.L⟩ = qL σ := rfl
theorem qL_new (n : Int) (N : Nat) : qL ⟨n, List.replicate N z4⟩ = [] :=
  qL_ext List.Pairwise.nil List.nodup_nil (fun p => ⟨fun h => by simp at h, fun ⟨h1, h2, _⟩ => by
    have e : rw (List.replicate N z4) p.1 = z4 := by
      unfold rw
      rw [List.getD_eq_getElem?_getD, List.getElem?_replicate]
      split <;> rfl
    rw [e] at h2
    cases h2⟩)
theorem hasB_qL (σ : Qs) (id : Int) : Hp.hasB (qL σ) id = decide ((rwI σ id).1 = 1) := by
  rw [Bool.eq_iff_iff, Hp.hasB_iff, decide_eq_true_iff]
  constructor
  · rintro ⟨p, hp, rfl⟩
    obtain ⟨h1, h2, _⟩ := qL_mem.1 hp
    rw [rwI_of h1]
    exact h2
  · intro h
    cases hi : inB σ id
    · rw [rwI_no hi] at h
      cases h
    · obtain ⟨k, rfl, hk⟩ := inB_out hi
      rw [rwI_of hk] at h
      exact ⟨_, qN_has hk h, rfl⟩
theorem keyV_qL {σ : Qs} {id : Int} (h : (rwI σ id).1 = 1) : Hp.keyV (qL σ) id = (rwI σ id).2.2.1 := by
  cases hi : inB σ id
  · rw [rwI_no hi] at h
    cases h
  · obtain ⟨k, rfl, hk⟩ := inB_out hi
    rw [rwI_of hk] at h ⊢
    exact Hp.keyV_some (qL_nd σ) (qN_has hk h)
theorem remq_nd {q : List Hp.Th} (h : (q.map (·.1)).Nodup) (t : Int) : ((Hp.remq q t).map (·.1)).Nodup := h.sublist (List.filter_sublist.map _)
theorem remq_mem {q : List Hp.Th} {t : Int} {a : Hp.Th} : a ∈ Hp.remq q t ↔ a ∈ q ∧ (a.1 : Int) ≠ t := ⟨Hp.remq_not, fun ⟨h1, h2⟩ => by
  unfold Hp.remq
  exact List.mem_filter.2 ⟨h1, by simpa using h2⟩⟩
theorem insq_nd {q : List Hp.Th} {p : Hp.Th} (h : (q.map (·.1)).Nodup) (hp : ∀ a ∈ q, a.1 ≠ p.1) : ((Hp.insq p q).map (·.1)).Nodup := by
  rw [((Hp.insq_perm p q).map _).nodup_iff, List.map_cons, List.nodup_cons]
  refine ⟨fun hm => ?_, h⟩
  obtain ⟨a, ha, e⟩ := List.mem_map.1 hm
  exact hp a ha e
/-- A row that does not wait, in the place of any. -/
theorem qL_out {σ : Qs} {n : Int} {k : Nat} {r : Rw} (hk : k < σ.L.length) (hr : r.1 ≠ 1) : qL ⟨n, σ.L.set k r⟩ = Hp.remq (qL σ) (k : Int) :=
  qL_ext (Hp.remq_srt (qL_srt σ) _) (remq_nd (qL_nd σ) _) (fun p => by
    show _ ↔ p.1 < (σ.L.set k r).length ∧ (rw (σ.L.set k r) p.1).1 = 1 ∧ p.2 = (rw (σ.L.set k r) p.1).2.2.1
    rw [remq_mem, qL_mem, List.length_set]
    by_cases e : p.1 = k
    · rw [e, rw_set_same hk]
      exact ⟨fun h => absurd rfl h.2, fun h => absurd h.2.1 hr⟩
    · rw [rw_set_other e]
      exact ⟨fun h => h.1, fun h => ⟨h, by omega⟩⟩)
/-- A row that waits, in the place of any. -/
theorem qL_move {σ : Qs} {n : Int} {k : Nat} {r : Rw} (hk : k < σ.L.length) (hr : r.1 = 1) : qL ⟨n, σ.L.set k r⟩ = Hp.insq (k, r.2.2.1) (Hp.remq (qL σ) (k : Int)) := by
  have hn : ∀ a ∈ Hp.remq (qL σ) (k : Int), a.1 ≠ (k, r.2.2.1).1 := fun a ha e => by
    have := (remq_mem.1 ha).2
    have e' : a.1 = k := e
    omega
  refine qL_ext (Hp.insq_srt _ (Hp.remq_srt (qL_srt σ) _) hn) (insq_nd (remq_nd (qL_nd σ) _) hn) (fun p => ?_)
  show _ ↔ p.1 < (σ.L.set k r).length ∧ (rw (σ.L.set k r) p.1).1 = 1 ∧ p.2 = (rw (σ.L.set k r) p.1).2.2.1
  rw [(Hp.insq_perm _ _).mem_iff, List.mem_cons, remq_mem, qL_mem, List.length_set]
  by_cases e : p.1 = k
  · rw [e, rw_set_same hk]
    obtain ⟨i, x⟩ := p
    dsimp only at e ⊢
    subst e
    exact ⟨fun h => h.elim (fun h => ⟨hk, hr, (Prod.mk.inj h).2⟩) (fun h => absurd rfl h.2), fun h => .inl (by rw [h.2.2])⟩
  · rw [rw_set_other e]
    exact ⟨fun h => h.elim (fun h => absurd (congrArg Prod.fst h) e) (fun h => h.1), fun h => .inr ⟨h, by omega⟩⟩
/-- One that did not wait. -/
theorem remq_no {σ : Qs} {k : Nat} (h : (rw σ.L k).1 ≠ 1) : Hp.remq (qL σ) (k : Int) = qL σ := Hp.remq_self (fun a ha e => by
  obtain ⟨_, h2, _⟩ := qL_mem.1 ha
  rw [show a.1 = k by omega] at h2
  exact h h2)
theorem qL_same {σ : Qs} {n : Int} {k : Nat} {r : Rw} (hk : k < σ.L.length) (h : (rw σ.L k).1 ≠ 1) (hr : r.1 ≠ 1) : qL ⟨n, σ.L.set k r⟩ = qL σ := (qL_out hk hr).trans (remq_no h)
theorem qL_in {σ : Qs} {n : Int} {k : Nat} {r : Rw} (hk : k < σ.L.length) (h : (rw σ.L k).1 ≠ 1) (hr : r.1 = 1) : qL ⟨n, σ.L.set k r⟩ = Hp.insq (k, r.2.2.1) (qL σ) := by rw [qL_move hk hr, remq_no h]
/-- The first is taken out. -/
theorem qL_tail {σ : Qs} {p : Hp.Th} {q : List Hp.Th} (e : qL σ = p :: q) : Hp.remq (qL σ) (p.1 : Int) = q := by
  have hn := qL_nd σ
  rw [e] at hn ⊢
  rw [List.map_cons, List.nodup_cons] at hn
  unfold Hp.remq
  rw [List.filter_cons_of_neg (by simp)]
  exact Hp.remq_self (fun a ha e => hn.1 (List.mem_map.2 ⟨a, ha, by omega⟩))
theorem qL_pick (σ : Qs) : qL (pickS σ) = (qL σ).tail := by
  cases e : qL σ with
  | nil => rw [pickS_nil e, e]; rfl
  | cons p q =>
    have hk := (qL_mem.1 (show p ∈ qL σ by rw [e]; simp)).1
    rw [pickS_cons e, qL_out hk (by show (2 : Int) ≠ 1; omega), qL_tail e]
    rfl
/-- All passes are less by as much. -/
theorem qL_low (σ : Qs) (n c : Int) : qL ⟨n, σ.L.map (lowR c)⟩ = Hp.lowL (qL σ) c := by
  have hz : lowR c z4 = z4 := rfl
  refine qL_ext ?_ ?_ (fun p => ?_)
  · unfold Hp.lowL Hp.Srt
    rw [List.pairwise_map]
    exact (qL_srt σ).imp (fun h => by rw [Hp.befB_low]; exact h)
  · have e : (Hp.lowL (qL σ) c).map (·.1) = (qL σ).map (·.1) := by
      unfold Hp.lowL
      rw [List.map_map]
      rfl
    rw [e]
    exact qL_nd σ
  · show _ ↔ p.1 < (σ.L.map (lowR c)).length ∧ (rw (σ.L.map (lowR c)) p.1).1 = 1 ∧ p.2 = (rw (σ.L.map (lowR c)) p.1).2.2.1
    rw [rw_map hz, List.length_map]
    unfold Hp.lowL
    rw [List.mem_map]
    constructor
    · rintro ⟨a, ha, rfl⟩
      obtain ⟨h1, h2, h3⟩ := qL_mem.1 ha
      have h0 : (rw σ.L a.1).1 ≠ 0 := by omega
      show a.1 < σ.L.length ∧ (lowR c (rw σ.L a.1)).1 = 1 ∧ a.2 - c = (lowR c (rw σ.L a.1)).2.2.1
      unfold lowR
      rw [if_neg h0]
      exact ⟨h1, h2, by rw [h3]⟩
    · rintro ⟨h1, h2, h3⟩
      have h0 : (rw σ.L p.1).1 ≠ 0 := fun h0 => by
        unfold lowR at h2
        rw [if_pos h0] at h2
        omega
      unfold lowR at h2 h3
      rw [if_neg h0] at h2 h3
      obtain ⟨i, x⟩ := p
      dsimp only at h1 h2 h3 ⊢
      exact ⟨(i, (rw σ.L i).2.2.1), qL_mem.2 ⟨h1, h2, rfl⟩, by dsimp only; rw [h3]⟩
/-- Lower changes the order of nobody. -/
theorem ids_low (q : List Hp.Th) (c : Int) : (Hp.lowL q c).map (fun p => (p.1 : Int)) = q.map (fun p => (p.1 : Int)) := by
  unfold Hp.lowL
  rw [List.map_map]
  rfl
/-- Of each that waits the key is its pass, from now to now and a Stride; nobody else is found. -/
theorem Gen.found {K : Nat} {A : Int} {σ : Qs} (h : Gen K A σ) {p : Hp.Th} (hp : p ∈ qL σ) : σ.now ≤ p.2 ∧ p.2 ≤ σ.now + strI (rw σ.L p.1).2.1 := by
  obtain ⟨h1, h2, h3⟩ := qL_mem.1 hp
  rcases h.r p.1 h1 with hz | ⟨_, _, _, g4, g5, _⟩
  · rw [hz] at h2
    cases h2
  · rw [h3]
    exact ⟨g5 h2, g4⟩
theorem ask_in {σ : Qs} {N : Nat} (hN : σ.L.length = N) (id : Int) (b : Bool) (l : Int) : Hp.askE N (qL σ) id b l = if inB σ id = true then (if decide ((rwI σ id).1 = 1) = b then 0 else l) else 8 := by
  unfold Hp.askE
  rw [hasB_qL, show Hp.inN N id = inB σ id by unfold Hp.inN inB; rw [hN]]
end Go.Proofs.YtlnfabjgcecebaaGreat.Rd
