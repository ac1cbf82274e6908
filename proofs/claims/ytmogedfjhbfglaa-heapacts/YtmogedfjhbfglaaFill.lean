/- Keys put one by one: the list with each key by its number. -/
import Derived.Test.YtmogedfjhbfglaaNew
namespace Go.Proofs.Ytmogedfjhbfglaa
open Go.RowKit

/-- Each key with its number. -/
def prs (ks : List Int) : List Th := ks.mapIdx (fun i k => (i, k))
theorem prs_len (ks : List Int) : (prs ks).length = ks.length := by simp [prs]
theorem prs_get {ks : List Int} {i : Nat} {p : Th} : (prs ks)[i]? = some p ↔ p.1 = i ∧ ks[i]? = some p.2 := by
  unfold prs
  rw [List.getElem?_mapIdx]
  constructor
  · intro h
    obtain ⟨k, hk, e⟩ := Option.map_eq_some_iff.1 h
    subst e
    exact ⟨rfl, hk⟩
  · rintro ⟨h1, h2⟩
    rw [h2, Option.map_some, ← h1]
theorem prs_mem {ks : List Int} {p : Th} : p ∈ prs ks ↔ ks[p.1]? = some p.2 := by
  constructor
  · intro h
    obtain ⟨i, hi⟩ := List.getElem?_of_mem h
    obtain ⟨h1, h2⟩ := prs_get.1 hi
    rw [h1]
    exact h2
  · intro h
    exact List.mem_of_getElem? (i := p.1) (prs_get.2 ⟨rfl, h⟩)
theorem prs_snoc {ks : List Int} {j : Nat} {k : Int} (h : ks[j]? = some k) : prs (ks.take (j + 1)) = prs (ks.take j) ++ [(j, k)] := by
  obtain ⟨hj, e⟩ := List.getElem?_eq_some_iff.1 h
  have : ks.take (j + 1) = ks.take j ++ [k] := by rw [List.take_add_one, h]; rfl
  rw [this]
  unfold prs
  rw [List.mapIdx_concat, List.length_take, Nat.min_eq_left (by omega)]
theorem prs_nil (ks : List Int) : prs (ks.take 0) = [] := rfl

/-- One that isn't there yet is put. -/
theorem put_new {N : Nat} {q : List Th} {j : Nat} (k : Int) (hj : j < N) (hn : ∀ p ∈ q, p.1 ≠ j) : askE N q (j : Int) false 5 = 0 ∧ putS N q (j : Int) k = insq (j, k) q := by
  have hb : hasB q (j : Int) = false := hasB_not.2 (fun p hp e => hn p hp (by omega))
  have h0 : askE N q (j : Int) false 5 = 0 := by
    unfold askE
    rw [inN_of hj, if_pos rfl, if_pos hb]
  refine ⟨h0, ?_⟩
  unfold putS
  rw [if_pos h0, Int.toNat_natCast]
theorem put_next {N : Nat} {q : List Th} {ks : List Int} {j : Nat} {k : Int} (hq : q.Perm (prs (ks.take j))) (hk : ks[j]? = some k) (hj : j < N) :
    askE N q (j : Int) false 5 = 0 ∧ (putS N q (j : Int) k).Perm (prs (ks.take (j + 1))) := by
  obtain ⟨h1, h2⟩ := put_new (N := N) (q := q) (j := j) k hj (fun p hp e => by
    have := prs_mem.1 (hq.subset hp)
    rw [e, List.getElem?_take] at this
    split at this
    · omega
    · cases this)
  refine ⟨h1, ?_⟩
  rw [h2, prs_snoc hk]
  exact (insq_perm _ _).trans ((hq.cons _).trans (List.perm_append_comm (l₁ := [(j, k)])))
end Go.Proofs.Ytmogedfjhbfglaa
