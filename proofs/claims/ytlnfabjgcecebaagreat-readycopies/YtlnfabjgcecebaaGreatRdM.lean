/- Queues of threads, plain: what is known of each, and what calls make of it. -/
import Derived.Test.YtlnfabjgcecebaaGreatJ6
import Derived.Test.YtlnfabjgcecebaaGreatStFns
namespace Go.Proofs.YtlnfabjgcecebaaGreat.Rd
open Go Go.RowKit Go.Proofs.YtlnfabjgcecebaaGreat.Big Go.Proofs.YtlnfabjgcecebaaGreat.Str Go.Proofs.YtlnfabjgcecebaaGreat.Hp

/-- What is known of a thread: its state, tickets, pass, picks. -/
abbrev Rw := Int × Int × Int × Int
def z4 : Rw := (0, 0, 0, 0)
def rw (L : List Rw) (i : Nat) : Rw := L.getD i z4
theorem rw_get {L : List Rw} {i : Nat} (h : i < L.length) : L[i]? = some (rw L i) := by
  unfold rw
  rw [List.getD_eq_getElem?_getD, List.getElem?_eq_getElem h, Option.getD_some]
theorem rw_set_same {L : List Rw} {i : Nat} (h : i < L.length) (r : Rw) : rw (L.set i r) i = r := by
  unfold rw
  rw [List.getD_eq_getElem?_getD, List.getElem?_set_self h, Option.getD_some]
theorem rw_set_other {L : List Rw} {i j : Nat} (h : j ≠ i) (r : Rw) : rw (L.set i r) j = rw L j := by
  unfold rw
  rw [List.getD_eq_getElem?_getD, List.getD_eq_getElem?_getD, List.getElem?_set_ne (fun e => h e.symm)]
theorem rw_past {L : List Rw} {i : Nat} (h : L.length ≤ i) : rw L i = z4 := by
  unfold rw
  rw [List.getD_eq_getElem?_getD, List.getElem?_eq_none h]
  rfl
/-- A queue: now, and all that is known. -/
structure Qs where
  now : Int
  L : List Rw
/-- Is there such an id; what is told of it. -/
def inB (σ : Qs) (id : Int) : Bool := decide (0 ≤ id ∧ id < (σ.L.length : Int))
def rwI (σ : Qs) (id : Int) : Rw := if inB σ id = true then rw σ.L id.toNat else z4
theorem inB_out {σ : Qs} {id : Int} (h : inB σ id = true) : ∃ k : Nat, id = k ∧ k < σ.L.length := by
  unfold inB at h
  simp at h
  exact ⟨id.toNat, by omega, by omega⟩
theorem inB_of {σ : Qs} {k : Nat} (h : k < σ.L.length) : inB σ (k : Int) = true := by
  unfold inB
  simp
  exact h
theorem rwI_of {σ : Qs} {k : Nat} (h : k < σ.L.length) : rwI σ (k : Int) = rw σ.L k := by
  unfold rwI
  rw [if_pos (inB_of h)]
  rfl
theorem rwI_no {σ : Qs} {id : Int} (h : inB σ id = false) : rwI σ id = z4 := by
  unfold rwI
  rw [h]
  rfl
def joinE (σ : Qs) (id t : Int) : Int := if inB σ id = false then 8 else if strI t = 0 then 2 else if (rwI σ id).1 ≠ 0 then 5 else 0
def joinS (σ : Qs) (id t : Int) : Qs := if joinE σ id t = 0 then ⟨σ.now, σ.L.set id.toNat (1, t, σ.now, 0)⟩ else σ
def turnE (σ : Qs) (id fr : Int) : Int := if inB σ id = false then 8 else if (rwI σ id).1 ≠ fr then 5 else 0
def turnS (σ : Qs) (id fr to_ : Int) (enter : Bool) : Qs := if turnE σ id fr = 0 then ⟨σ.now, σ.L.set id.toNat (to_, (rwI σ id).2.1, (if enter = true then entI (rwI σ id).2.2.1 σ.now (strI (rwI σ id).2.1) else (rwI σ id).2.2.1), (rwI σ id).2.2.2)⟩ else σ
def dropE (σ : Qs) (id : Int) : Int := if inB σ id = false then 8 else if (rwI σ id).1 = 0 then 4 else 0
def dropS (σ : Qs) (id : Int) : Qs := if dropE σ id = 0 then ⟨σ.now, σ.L.set id.toNat z4⟩ else σ
/-- Lower. -/
def lowB (σ : Qs) : Bool := σ.L.all (fun r => decide (r.1 = 0) || fitsB (r.2.2.1 - σ.now))
def lowR (c : Int) (r : Rw) : Rw := if r.1 = 0 then r else (r.1, r.2.1, r.2.2.1 - c, r.2.2.2)
def lowN (σ : Qs) : Int := if lowB σ = true then σ.now else 0
def lowS (σ : Qs) : Qs := if lowB σ = true then ⟨0, σ.L.map (lowR σ.now)⟩ else σ
/-- Those that wait, in their order, with their passes. -/
def qN (L : List Rw) : Nat → List Th
  | 0 => []
  | m + 1 => if (rw L m).1 = 1 then insq (m, (rw L m).2.2.1) (qN L m) else qN L m
def qL (σ : Qs) : List Th := qN σ.L σ.L.length
/-- Pick, where now is not too great. -/
def pickI (σ : Qs) : Int := ((qL σ).head?.map (fun p => (p.1 : Int))).getD 0
def pickB (σ : Qs) : Bool := (qL σ).head?.isSome
def pickS (σ : Qs) : Qs := match (qL σ).head? with
  | none => σ
  | some p => ⟨if σ.now < p.2 then p.2 else σ.now, σ.L.set p.1 (2, (rw σ.L p.1).2.1, p.2 + strI (rw σ.L p.1).2.1, (rw σ.L p.1).2.2.2 + 1)⟩
theorem qN_mem {L : List Rw} : ∀ {m : Nat} {p : Th}, p ∈ qN L m → p.1 < m ∧ (rw L p.1).1 = 1 ∧ p.2 = (rw L p.1).2.2.1
  | 0, p, h => by simp [qN] at h
  | m + 1, p, h => by
    unfold qN at h
    split at h
    · rename_i h1
      rcases List.mem_cons.1 ((insq_perm _ _).mem_iff.1 h) with rfl | h
      · exact ⟨Nat.lt_succ_self m, h1, rfl⟩
      · have := qN_mem h
        exact ⟨by omega, this.2⟩
    · have := qN_mem h
      exact ⟨by omega, this.2⟩
theorem qN_has {L : List Rw} : ∀ {m k : Nat}, k < m → (rw L k).1 = 1 → (k, (rw L k).2.2.1) ∈ qN L m
  | m + 1, k, hk, h1 => by
    unfold qN
    by_cases e : k = m
    · subst e
      rw [if_pos h1]
      exact (insq_perm _ _).mem_iff.2 (by simp)
    · have := qN_has (m := m) (by omega) h1
      split
      · exact (insq_perm _ _).mem_iff.2 (by simp [this])
      · exact this
theorem qN_srt {L : List Rw} : ∀ m : Nat, Srt (qN L m)
  | 0 => List.Pairwise.nil
  | m + 1 => by
    unfold qN
    split
    · exact insq_srt _ (qN_srt m) (fun a ha e => by have := (qN_mem ha).1; have e' : a.1 = m := e; omega)
    · exact qN_srt m
theorem qN_nd {L : List Rw} : ∀ m : Nat, ((qN L m).map (·.1)).Nodup
  | 0 => by simp [qN]
  | m + 1 => by
    unfold qN
    split
    · rw [((insq_perm _ _).map _).nodup_iff, List.map_cons, List.nodup_cons]
      refine ⟨fun h => ?_, qN_nd m⟩
      obtain ⟨a, ha, e⟩ := List.mem_map.1 h
      have := (qN_mem ha).1
      have e' : a.1 = m := e
      omega
    · exact qN_nd m
theorem qN_len {L : List Rw} : ∀ m : Nat, (qN L m).length ≤ m
  | 0 => Nat.le_refl _
  | m + 1 => by
    have := qN_len (L := L) m
    unfold qN
    split
    · rw [(insq_perm _ _).length_eq, List.length_cons]
      omega
    · omega
theorem qN_congr {L L' : List Rw} : ∀ {m : Nat}, (∀ k, k < m → (rw L k).1 = (rw L' k).1 ∧ ((rw L k).1 = 1 → (rw L k).2.2.1 = (rw L' k).2.2.1)) → qN L m = qN L' m
  | 0, _ => rfl
  | m + 1, h => by
    have ih := qN_congr (L := L) (L' := L') (m := m) (fun k hk => h k (by omega))
    obtain ⟨h1, h2⟩ := h m (by omega)
    unfold qN
    rw [ih, ← h1]
    split
    · rename_i e
      rw [h2 e]
    · rfl
end Go.Proofs.YtlnfabjgcecebaaGreat.Rd
