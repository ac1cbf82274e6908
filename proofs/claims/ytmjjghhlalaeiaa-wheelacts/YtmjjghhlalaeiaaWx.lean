/- Who waits until when, as a wheel has it; put and empty of such a wheel. -/
import Derived.Test.YtmjjghhlalaeiaaEmpty
namespace Go.Proofs.Ytmjjghhlalaeiaa
open Go.RowKit

/-- The lists and times of a wheel: wh says who waits until when; R where one that waits may stand; those of D stand nowhere, for the while. -/
structure WP (N n : Nat) (wh : List Nat) (us : List Int) (ls : List (List Nat)) (R : Nat → Nat → Prop) (D : List Nat) : Prop where
  len : wh.length = N
  us : ∀ t, t < N → wt wh t ≠ 0 → us[t]? = some (wt wh t : Int)
  inn : ∀ (i : Nat) (q : List Nat), ls[i]? = some q → ∀ t ∈ q, t ∉ D ∧ wt wh t ≠ 0 ∧ R (wt wh t) i
  out : ∀ t, wt wh t ≠ 0 → t ∉ D → ∃ (i : Nat) (q : List Nat), ls[i]? = some q ∧ t ∈ q
  near : ∀ t, wt wh t ≠ 0 → wt wh t ≤ n + 65535
def WX (w : World) (T : Wp) (N n : Nat) (wh : List Nat) (R : Nat → Nat → Prop) (D : List Nat) : Prop := ∃ us ls, WM w T N n us ls ∧ WP N n wh us ls R D
/-- A time that a wheel may come to. -/
def Tm (n : Nat) : Prop := n < 4000000000000000000
theorem Tm.lt {n : Nat} (h : Tm n) : n < 4611686018427387904 := by unfold Tm at h; omega

section
variable {w w' : World} {T : Wp} {N n : Nat} {wh : List Nat} {R R' : Nat → Nat → Prop} {D : List Nat}
theorem WX.mono (h : WX w T N n wh R D) (hR : ∀ t i, t < N → wt wh t ≠ 0 → R (wt wh t) i → R' (wt wh t) i) : WX w T N n wh R' D := by
  obtain ⟨us, ls, hm, hp⟩ := h
  refine ⟨us, ls, hm, hp.len, hp.us, fun i q hq t ht => ?_, hp.out, hp.near⟩
  obtain ⟨h1, h2, h3⟩ := hp.inn i q hq t ht
  exact ⟨h1, h2, hR t i (hm.l.ok.lt i q hq t ht) h2 h3⟩
theorem WX.keep (h : WX w T N n wh R D) (hb : But [] w w') : WX w' T N n wh R D := by
  obtain ⟨us, ls, hm, hp⟩ := h
  exact ⟨us, ls, hm.keep hb, hp⟩
theorem WX.below (h : WX w T N n wh R D) (hb : Below w.heap.size w w') : WX w' T N n wh R D := h.keep (.of_below hb)
theorem WX.but {S : List Nat} (h : WX w T N n wh R D) (hb : But S w w') (hS : ∀ k ∈ T.S, k ∉ S) : WX w' T N n wh R D := by
  obtain ⟨us, ls, hm, hp⟩ := h
  exact ⟨us, ls, hm.but hb hS, hp⟩
theorem WX.len (h : WX w T N n wh R D) : wh.length = N := by
  obtain ⟨us, ls, hm, hp⟩ := h
  exact hp.len
theorem WX.lt (h : WX w T N n wh R D) {k : Nat} (hk : k ∈ T.S) : k < w.heap.size := by
  obtain ⟨us, ls, hm, hp⟩ := h
  exact hm.lt hk
theorem WX.tlt (h : WX w T N n wh R D) {t : Nat} (ht : wt wh t ≠ 0) : t < N := by
  rcases Nat.lt_or_ge t N with h1 | h1
  · exact h1
  · exact absurd (wt_out (by rw [h.len]; exact h1)) ht

theorem xput_any {t : Nat} (h : WX w T N n wh R (t :: D)) (hT : Tm n) (ht : t ∉ D) (h0 : wt wh t ≠ 0) (hR : R (wt wh t) (rowN n (wt wh t))) :
    Calls Try.prog 40 #[.pointer (some ⟨T.B, 0, none⟩), .int .i64 t] w fun e w' => e = .returned (.tuple #[]) ∧ WX w' T N n wh R D ∧ But T.P.S w w' := by
  have htN := h.tlt h0
  obtain ⟨us, ls, hm, hp⟩ := h
  have hnear := hp.near t h0
  have hno : ∀ (j : Nat) (q : List Nat), ls[j]? = some q → t ∉ q := fun j q hq hmem => (hp.inn j q hq t hmem).1 (by simp)
  refine (wput_any hm t (wt wh t) htN (hp.us t htN h0) hT.lt (by unfold Tm at hT; omega) hno).mono ?_
  rintro e w' ⟨rfl, hm', hb⟩
  refine ⟨rfl, ⟨us, _, hm', hp.len, hp.us, ?_, ?_, hp.near⟩, hb⟩
  · intro i q hq s hs
    rcases get_set hq with ⟨rfl, rfl⟩ | ⟨hne, hq'⟩
    · rw [List.mem_append] at hs
      rcases hs with hs | hs
      · have hl : rowN n (wt wh t) < ls.length := by rw [hm.l.ok.len]; exact rowN_lt _ _
        obtain ⟨h1, h2⟩ := hp.inn _ _ (getD_at hl) s hs
        exact ⟨fun hd => h1 (by simp [hd]), h2⟩
      · simp at hs
        subst hs
        exact ⟨ht, h0, hR⟩
    · obtain ⟨h1, h2⟩ := hp.inn _ _ hq' s hs
      exact ⟨fun hd => h1 (by simp [hd]), h2⟩
  · intro s hs hd
    have hl : rowN n (wt wh t) < ls.length := by rw [hm.l.ok.len]; exact rowN_lt _ _
    by_cases hst : s = t
    · subst hst
      exact ⟨rowN n (wt wh s), _, List.getElem?_set_self hl, by simp⟩
    · obtain ⟨i, q, hq, hm⟩ := hp.out s hs (by simp [hst, hd])
      by_cases hi : i = rowN n (wt wh t)
      · subst hi
        refine ⟨_, _, List.getElem?_set_self hl, ?_⟩
        rw [List.getD_eq_getElem?_getD, hq]
        simp [hm]
      · exact ⟨i, q, (List.getElem?_set_ne (Ne.symm hi)).trans hq, hm⟩

theorem xempty_any (h : WX w T N n wh R D) (i : Nat) (hi : i < 64) :
    Calls Try.prog 42 #[.pointer (some ⟨T.B, 0, none⟩), .int .i64 i] w fun e w' => ∃ v q, e = .returned v ∧ RowI w' w.heap.size v (ints q) ∧ q.Nodup ∧ q.length ≤ 4096 ∧ (∀ t ∈ q, t ∉ D ∧ wt wh t ≠ 0 ∧ R (wt wh t) i) ∧ WX w' T N n wh (fun u j => R u j ∧ j ≠ i) (q ++ D) ∧ But T.P.S w w' := by
  obtain ⟨us, ls, hm, hp⟩ := h
  have hli : i < ls.length := by rw [hm.l.ok.len]; exact hi
  have hq := getD_at hli
  refine (empty_any hm i hi).mono ?_
  rintro e w' ⟨v, rfl, hr, hm', hb⟩
  refine ⟨v, ls.getD i [], rfl, hr, hm.l.ok.nd i _ hq, Nat.le_trans (hm.l.ok.short hq) hm.sizes.2, hp.inn i _ hq, ⟨us, _, hm', hp.len, hp.us, ?_, ?_, hp.near⟩, hb⟩
  · intro j q hj s hs
    rcases get_set hj with ⟨rfl, rfl⟩ | ⟨hne, hj'⟩
    · simp at hs
    · obtain ⟨h1, h2, h3⟩ := hp.inn j q hj' s hs
      refine ⟨fun hd => ?_, h2, h3, hne⟩
      rw [List.mem_append] at hd
      rcases hd with hd | hd
      · exact hm.l.ok.dj i j _ q hq hj' (Ne.symm hne) s hd hs
      · exact h1 hd
  · intro s hs hd
    rw [List.mem_append] at hd
    obtain ⟨j, q, hj, hmem⟩ := hp.out s hs (fun e => hd (.inr e))
    have hne : i ≠ j := by
      rintro rfl
      rw [hq] at hj
      cases hj
      exact hd (.inl hmem)
    exact ⟨j, q, (List.getElem?_set_ne hne).trans hj, hmem⟩
end
end Go.Proofs.Ytmjjghhlalaeiaa
