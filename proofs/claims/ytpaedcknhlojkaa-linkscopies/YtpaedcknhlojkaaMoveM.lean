/- What Move makes of lists, thing by thing. -/
import Derived.Test.YtpaedcknhlojkaaRem
namespace Go.Proofs.Ytpaedcknhlojkaa

/-- A thing out of its list, behind those of list b. -/
def outL (ls : List (List Nat)) (x : Nat) : List (List Nat) := ls.map (fun q => q.filter (fun y => !(y == x)))
def stepM (b : Nat) (ls : List (List Nat)) (x : Nat) : List (List Nat) := (outL ls x).set b (lsI (outL ls x) (b : Int) ++ [x])

theorem outL_at {N L : Nat} {ls : List (List Nat)} (h : Ok N L ls) {i x : Nat} {p1 p2 : List Nat} (hq : ls[i]? = some (p1 ++ x :: p2)) : outL ls x = ls.set i (p1 ++ p2) := by
  apply List.ext_getElem?
  intro j
  unfold outL
  rw [List.getElem?_map]
  by_cases e : i = j
  · subst e
    rw [hq, List.getElem?_set_self (List.getElem?_eq_some_iff.1 hq).1]
    simp only [Option.map_some]
    rw [filter_mid (h.nd i _ hq)]
  · rw [List.getElem?_set_ne e]
    cases hj : ls[j]? with
    | none => rfl
    | some r =>
      simp only [Option.map_some]
      rw [List.filter_eq_self.2]
      intro y hy
      have : y ≠ x := by
        rintro rfl
        exact h.dj i j _ r hq hj e y (by simp) hy
      simpa using this

/-- Each of these stands in some list. -/
def Stand (q : List Nat) (ls : List (List Nat)) : Prop := ∀ x ∈ q, ∃ (i : Nat) (r : List Nat), ls[i]? = some r ∧ x ∈ r

theorem stepM_len (b : Nat) (ls : List (List Nat)) (x : Nat) : (stepM b ls x).length = ls.length := by simp [stepM, outL]
theorem stepM_stand {q : List Nat} {b : Nat} {ls : List (List Nat)} (hb : b < ls.length) (x : Nat) (h : Stand q ls) : Stand q (stepM b ls x) := by
  intro y hy
  have hb' : b < (outL ls x).length := by simpa [outL] using hb
  by_cases e : y = x
  · subst e
    exact ⟨b, _, List.getElem?_set_self hb', by simp⟩
  · obtain ⟨i, r, hr, hm⟩ := h y hy
    have h1 : (outL ls x)[i]? = some (r.filter (fun z => !(z == x))) := by simp [outL, hr]
    have h2 : y ∈ r.filter (fun z => !(z == x)) := by simp [hm, e]
    by_cases ib : b = i
    · subst ib
      refine ⟨b, _, List.getElem?_set_self hb', ?_⟩
      rw [lsI_get h1]
      exact List.mem_append_left _ h2
    · exact ⟨i, _, by unfold stepM; rw [List.getElem?_set_ne ib]; exact h1, h2⟩
theorem foldM_len (b : Nat) : ∀ (t : List Nat) (ls : List (List Nat)), (t.foldl (stepM b) ls).length = ls.length
  | [], _ => rfl
  | x :: t, ls => by rw [List.foldl_cons, foldM_len b t, stepM_len]
theorem foldM_stand {q : List Nat} {b : Nat} : ∀ (t : List Nat) (ls : List (List Nat)), b < ls.length → Stand q ls → Stand q (t.foldl (stepM b) ls)
  | [], _, _, h => h
  | x :: t, ls, hb, h => foldM_stand t _ (by rw [stepM_len]; exact hb) (stepM_stand hb x h)

theorem set_set_ne {ls : List (List Nat)} {a b : Nat} (h : a ≠ b) (p q : List Nat) : (ls.set a p).set b q = (ls.set b q).set a p := List.set_comm p q h

/-- All of a list, one by one, behind those of another one. -/
theorem foldM_all {N L : Nat} {a b : Nat} (hab : a ≠ b) : ∀ (t r : List Nat) (ls : List (List Nat)), Ok N L ls → ls[a]? = some t → ls[b]? = some r → t.foldl (stepM b) ls = (ls.set a []).set b (r ++ t)
  | [], r, ls, _, ha, hb => by
    rw [List.foldl_nil, List.append_nil, set_same ha, set_same hb]
  | x :: t, r, ls, h, ha, hb => by
    have e1 : outL ls x = ls.set a t := outL_at (p1 := []) h ha
    have hal := (List.getElem?_eq_some_iff.1 ha).1
    have hbl := (List.getElem?_eq_some_iff.1 hb).1
    have h1 : (ls.set a t)[b]? = some r := by rw [List.getElem?_set_ne hab]; exact hb
    have e2 : stepM b ls x = (ls.set a t).set b (r ++ [x]) := by
      unfold stepM
      rw [e1, lsI_get h1]
    have hx := h.nd a _ ha
    have ho1 : Ok N L (ls.set a t) := h.set (fun y hy => h.lt a _ ha y (by simp [hy])) (List.nodup_cons.1 hx).2 (fun j q hj hja y hy => h.dj a j _ q ha hj (Ne.symm hja) y (by simp [hy]))
    have ho2 : Ok N L ((ls.set a t).set b (r ++ [x])) := by
      refine ho1.set ?_ ?_ ?_
      · intro y hy
        rcases List.mem_append.1 hy with hy | hy
        · exact h.lt b r hb y hy
        · simp at hy; subst hy; exact h.lt a _ ha y (by simp)
      · rw [List.nodup_append]
        refine ⟨h.nd b r hb, by simp, fun y hy z hz => ?_⟩
        simp at hz
        subst hz
        rintro rfl
        exact h.dj b a r _ hb ha (Ne.symm hab) y hy (by simp)
      · intro j q hj hjb y hy hm
        rcases get_set hj with ⟨rfl, rfl⟩ | ⟨hja, hj'⟩
        · rcases List.mem_append.1 hy with hy | hy
          · exact h.dj b j r _ hb ha (Ne.symm hab) y hy (by simp [hm])
          · simp at hy; subst hy; exact (List.nodup_cons.1 hx).1 hm
        · rcases List.mem_append.1 hy with hy | hy
          · exact h.dj b j r q hb hj' (Ne.symm hjb) y hy hm
          · simp at hy; subst hy; exact h.dj a j _ q ha hj' (Ne.symm hja) y (by simp) hm
    rw [List.foldl_cons, e2, foldM_all hab t (r ++ [x]) _ ho2]
    · rw [set_set_ne (Ne.symm hab), List.set_set, List.set_set, List.append_assoc]
      rfl
    · rw [List.getElem?_set_ne (Ne.symm hab), List.getElem?_set_self hal]
    · rw [List.getElem?_set_self (by simpa using hbl)]

/-- What Move tells, and makes of lists. -/
def moveE (L : Nat) (a b : Int) : Int := if inN L a && inN L b then (if a = b then 2 else 0) else 8
def moveV (L : Nat) (ls : List (List Nat)) (a b : Int) : Int := if moveE L a b = 0 then ((lsI ls a).length : Nat) else 0
def moveS (L : Nat) (ls : List (List Nat)) (a b : Int) : List (List Nat) := if moveE L a b = 0 then (ls.set a.toNat []).set b.toNat (lsI ls b ++ lsI ls a) else ls

theorem moveE_zero {L : Nat} {a b : Int} (h : moveE L a b = 0) : ∃ i j : Nat, a = i ∧ b = j ∧ i < L ∧ j < L ∧ i ≠ j := by
  unfold moveE at h
  split at h
  · rename_i hb
    simp at hb
    obtain ⟨i, rfl, hi⟩ := inN_out hb.1
    obtain ⟨j, rfl, hj⟩ := inN_out hb.2
    split at h
    · simp at h
    · rename_i hne
      exact ⟨i, j, rfl, rfl, hi, hj, fun e => hne (by rw [e])⟩
  · simp at h

end Go.Proofs.Ytpaedcknhlojkaa
