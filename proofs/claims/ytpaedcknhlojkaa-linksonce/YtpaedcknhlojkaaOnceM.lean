/- How often things come, list by list; how many they are in all. -/
import Derived.Test.YtpaedcknhlojkaaPut
namespace Go.Proofs.Ytpaedcknhlojkaa

/-- How often thing t came in the lists below i, and in a piece of list i. -/
def tm (ls : List (List Nat)) (i : Nat) (p : List Nat) (t : Nat) : Nat := if 0 ≤ whI ls t ∧ whI ls t < (i : Int) then 1 else if t ∈ p then 1 else 0
def tmL (ls : List (List Nat)) (i : Nat) (p : List Nat) : List Nat := (List.range 8).map (tm ls i p)

theorem tmL_zero (ls : List (List Nat)) : tmL ls 0 [] = List.replicate 8 0 := by
  apply List.ext_getElem?
  intro k
  by_cases hk : k < 8
  · rw [List.getElem?_replicate_of_lt hk]
    have : tm ls 0 [] k = 0 := by
      unfold tm
      rw [if_neg (by omega), if_neg (by simp)]
    simp [tmL, hk, this]
  · rw [List.getElem?_eq_none (by simp [tmL]; omega), List.getElem?_eq_none (by simp; omega)]
theorem tmL_next {N L : Nat} {ls : List (List Nat)} (h : Ok N L ls) {i : Nat} {q : List Nat} (hq : ls[i]? = some q) : tmL ls i q = tmL ls (i + 1) [] := by
  unfold tmL
  apply List.map_congr_left
  intro t _
  unfold tm
  rcases whI_cases h.len t with ⟨e, hn⟩ | ⟨j, r, hr, ht, e, _⟩
  · have hnq := hn i q hq
    rw [e]
    simp [hnq]
  · by_cases hji : j = i
    · subst hji
      rw [hq] at hr
      cases hr
      rw [e, if_neg (by omega), if_pos ht, if_pos (by omega)]
    · have hnq : t ∉ q := h.dj j i r q hr hq hji t ht
      rw [e, if_neg (by simp : t ∉ [])]
      by_cases hlt : j < i
      · rw [if_pos (by omega), if_pos (by omega)]
      · rw [if_neg (by omega), if_neg hnq, if_neg (by omega)]
theorem tm_now {N L : Nat} {ls : List (List Nat)} (h : Ok N L ls) {i : Nat} {q : List Nat} (hq : ls[i]? = some q) {j : Nat} (hj : j < q.length) : tm ls i (q.take j) q[j] = 0 := by
  have e := whI_some h hq (List.getElem_mem hj)
  unfold tm
  rw [e, if_neg (by omega), if_neg]
  intro hm
  have hnd := h.nd i q hq
  obtain ⟨k, hk, ek⟩ := List.mem_iff_getElem.1 hm
  rw [List.length_take] at hk
  rw [List.getElem_take] at ek
  have := (List.getElem_inj hnd).1 ek
  omega
theorem tmL_set {ls : List (List Nat)} {i : Nat} {q : List Nat} {j : Nat} (hj : j < q.length) : (tmL ls i (q.take j)).set q[j] 1 = tmL ls i (q.take (j + 1)) := by
  have ht : q.take (j + 1) = q.take j ++ [q[j]] := by rw [List.take_add_one, List.getElem?_eq_getElem hj]; rfl
  apply List.ext_getElem?
  intro k
  by_cases hk : k < 8
  · by_cases e : k = q[j]
    · rw [e] at hk
      subst e
      rw [List.getElem?_set_self (by simpa [tmL] using hk)]
      have hmem : q[j] ∈ q.take (j + 1) := by rw [ht]; exact List.mem_append_right _ (List.mem_singleton_self _)
      have : tm ls i (q.take (j + 1)) q[j] = 1 := by
        unfold tm
        rw [if_pos hmem]
        split <;> rfl
      simp [tmL, hk, this]
    · rw [List.getElem?_set_ne (Ne.symm e)]
      have hiff : k ∈ q.take (j + 1) ↔ k ∈ q.take j := by
        rw [ht, List.mem_append]
        exact ⟨fun h => h.elim id (fun h => absurd (List.mem_singleton.1 h) e), .inl⟩
      have : tm ls i (q.take (j + 1)) k = tm ls i (q.take j) k := by
        unfold tm
        simp only [hiff]
      simp [tmL, hk, this]
  · rw [List.getElem?_eq_none (by simp [tmL]; omega), List.getElem?_eq_none (by simp [tmL]; omega)]
theorem tm_last {N : Nat} {ls : List (List Nat)} (h : Ok N 4 ls) (t : Nat) : (tm ls 4 [] t = 1 ∧ 0 ≤ whI ls t) ∨ (tm ls 4 [] t = 0 ∧ whI ls t = -1) := by
  unfold tm
  rcases whI_cases h.len t with ⟨e, _⟩ | ⟨j, r, _, _, e, hj⟩
  · right
    rw [e, if_neg (by omega), if_neg (by simp)]
    exact ⟨rfl, rfl⟩
  · left
    rw [e, if_pos (by omega)]
    exact ⟨rfl, by omega⟩

/-- How many stand in the lists below i. -/
def sumL (ls : List (List Nat)) (i : Nat) : Nat := (ls.take i).flatten.length
theorem sumL_next {ls : List (List Nat)} {i : Nat} {q : List Nat} (hq : ls[i]? = some q) : sumL ls (i + 1) = sumL ls i + q.length := by
  unfold sumL
  rw [List.take_add_one, hq]
  simp
theorem flat_ok {N L : Nat} {ls : List (List Nat)} (h : Ok N L ls) : ∀ i, i ≤ L → (ls.take i).flatten.Nodup ∧ (∀ t ∈ (ls.take i).flatten, t < N) ∧ ∀ t ∈ (ls.take i).flatten, ∃ (j : Nat) (q : List Nat), j < i ∧ ls[j]? = some q ∧ t ∈ q
  | 0, _ => by simp
  | i + 1, hi => by
    obtain ⟨h1, h2, h3⟩ := flat_ok h i (by omega)
    have hlt : i < ls.length := by rw [h.len]; omega
    have hq : ls[i]? = some ls[i] := List.getElem?_eq_getElem hlt
    have e : (ls.take (i + 1)).flatten = (ls.take i).flatten ++ ls[i] := by
      rw [List.take_add_one, hq, List.flatten_append]
      show _ ++ (ls[i] ++ []) = _
      rw [List.append_nil]
    rw [e]
    refine ⟨?_, ?_, ?_⟩
    · rw [List.nodup_append]
      refine ⟨h1, h.nd i _ hq, fun a ha b hb hab => ?_⟩
      subst hab
      obtain ⟨j, q, hj, hjq, hm⟩ := h3 a ha
      exact h.dj j i q _ hjq hq (by omega) a hm hb
    · intro t ht
      rcases List.mem_append.1 ht with ht | ht
      · exact h2 t ht
      · exact h.lt i _ hq t ht
    · intro t ht
      rcases List.mem_append.1 ht with ht | ht
      · obtain ⟨j, q, hj, r⟩ := h3 t ht
        exact ⟨j, q, by omega, r⟩
      · exact ⟨i, _, by omega, hq, ht⟩
theorem sumL_le {N L : Nat} {ls : List (List Nat)} (h : Ok N L ls) {i : Nat} (hi : i ≤ L) : sumL ls i ≤ N := by
  obtain ⟨h1, h2, _⟩ := flat_ok h i hi
  exact nodup_short h1 h2

end Go.Proofs.Ytpaedcknhlojkaa
