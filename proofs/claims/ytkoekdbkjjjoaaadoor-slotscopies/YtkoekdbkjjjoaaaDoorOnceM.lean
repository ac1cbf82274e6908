/- What Take and Free make of ids: no id is told twice. -/
import Derived.Test.YtkoekdbkjjjoaaaDoorLen
import Derived.Test.YtkoekdbkjjjoaaaDoorAll
namespace Go.Proofs.YtkoekdbkjjjoaaaDoor
open Go.RowKit

theorem filter_count_t (tk : List Bool) : ∀ m, ((List.range m).filter (fun i => tk[i]? == some true)).length = (tk.take m).count true
  | 0 => by simp
  | m + 1 => by
    rw [List.range_succ, List.filter_append, List.length_append, filter_count_t tk m, List.take_add_one, List.count_append]
    congr 1
    cases h : tk[m]? with
    | none => simp [h]
    | some b => cases b <;> simp [h]
theorem allL_count (ag : List Nat) (tk : List Bool) : (allL ag tk).length = tk.count true := by
  rw [allL_length]
  unfold idsK
  rw [List.length_map, filter_count_t, List.take_length]

theorem count_set_t {tk : List Bool} : ∀ {i : Nat}, tk[i]? = some false → (tk.set i true).count true = tk.count true + 1 := by
  induction tk with
  | nil => intro i h; simp at h
  | cons b l ih =>
    intro i h
    cases i with
    | zero =>
      simp at h
      subst h
      simp
    | succ j =>
      have := ih (i := j) (by simpa using h)
      cases b <;> simp [this]
theorem count_set_f {tk : List Bool} : ∀ {i : Nat}, tk[i]? = some true → (tk.set i false).count true + 1 = tk.count true := by
  induction tk with
  | nil => intro i h; simp at h
  | cons b l ih =>
    intro i h
    cases i with
    | zero =>
      simp at h
      subst h
      simp
    | succ j =>
      have := ih (i := j) (by simpa using h)
      cases b <;> simp <;> omega
theorem count_lt {tk : List Bool} {i : Nat} (h : tk[i]? = some false) : tk.count true < tk.length := by
  have h1 := count_both tk
  have : 0 < tk.count false := List.count_pos_iff.2 (List.mem_of_getElem? h)
  omega
theorem count_all {tk : List Bool} (h : ∀ i : Nat, tk[i]? ≠ some false) : tk.count true = tk.length := by
  have h1 := count_both tk
  have : tk.count false = 0 := by
    rw [List.count_eq_zero]
    intro hm
    obtain ⟨i, hi⟩ := List.mem_iff_getElem?.1 hm
    exact h i hi
  omega

/-- An id's parts. -/
theorem idI_parts {i a : Nat} (hi : i < 65536) (h1 : 1 ≤ a) (h2 : a ≤ 2147483647) : right (idI i a) ∧ ix (idI i a) = i ∧ idI i a / 65536 = (a : Int) := by
  have e : idI (i : Int) (a : Int) = (a : Int) * 65536 + i := by unfold idI; rw [if_pos (by omega)]
  rw [e]
  refine ⟨by omega, ?_, by omega⟩
  unfold ix
  omega

theorem known_of {ag : List Nat} {x : Int} {a : Nat} (hr : right x) (ha : ag[ix x]? = some a) (hl : x / 65536 ≤ (a : Int)) : knownB ag x = true := by
  unfold knownB
  rw [decide_eq_true hr, ha]
  simpa using hl
theorem live_of {ag : List Nat} {tk : List Bool} {x : Int} {a : Nat} (hr : right x) (ht : tk[ix x]? = some true) (ha : ag[ix x]? = some a) (hl : x / 65536 = (a : Int)) : liveB ag tk x = true := by
  unfold liveB
  rw [decide_eq_true hr, ha, ht]
  simpa using hl
theorem live_iff {ag : List Nat} {tk : List Bool} {x : Int} (h : liveB ag tk x = true) : right x ∧ tk[ix x]? = some true ∧ ∃ a, ag[ix x]? = some a ∧ x / 65536 = (a : Int) := by
  have hk := live_known h
  obtain ⟨hr, a, ha, _⟩ := known_iff hk
  unfold liveB at h
  rw [ha] at h
  simp only [Bool.and_eq_true, beq_iff_eq] at h
  exact ⟨hr, h.1.2, a, ha, h.2⟩

/-- What is kept: K is how often ids were taken at most. -/
structure Cmb (n K : Nat) (ag : List Nat) (tk : List Bool) (told live : List Int) : Prop where
  al : ag.length = n
  tl : tk.length = n
  n4 : n ≤ 4096
  ages : ∀ a ∈ ag, a ≤ K
  mt : ∀ x ∈ told, knownB ag x = true
  ml : ∀ x ∈ live, liveB ag tk x = true
  uniq : live.Pairwise (fun x y => ix x ≠ ix y)
  cnt : live.length = tk.count true

section
variable {n K : Nat} {ag : List Nat} {tk : List Bool} {told live : List Int}

theorem Cmb.full (h : Cmb n K ag tk told live) (hK : K < 2147483647) (ho : leastO ag tk = none) : ¬ live.length < n := by
  have : tk.count true = tk.length := count_all fun i hi => by
    have h1 : okB ag tk i = false := by
      cases hk : okB ag tk i
      · rfl
      · exfalso
        have := okB_lt hk
        unfold leastO at ho
        rw [List.find?_eq_none] at ho
        exact ho i (List.mem_range.2 this) hk
    unfold okB at h1
    rw [hi] at h1
    have hlt := (List.getElem?_eq_some_iff.1 hi).1
    have hil : i < ag.length := by rw [h.al, ← h.tl]; exact hlt
    have ha := h.ages _ (List.getElem_mem hil)
    rw [List.getD_eq_getElem?_getD, List.getElem?_eq_getElem hil] at h1
    simp at h1
    omega
  rw [h.cnt, this, h.tl]
  omega

theorem Cmb.free (h : Cmb n K ag tk told live) {i : Nat} (ho : leastO ag tk = some i) : live.length < n := by
  obtain ⟨h1, _⟩ := leastO_iff ho
  unfold okB at h1
  simp only [Bool.and_eq_true, beq_iff_eq] at h1
  have := count_lt h1.1
  rw [h.cnt, ← h.tl]
  exact this

theorem Cmb.skip (h : Cmb n K ag tk told live) : Cmb n (K + 1) ag tk told live :=
  ⟨h.al, h.tl, h.n4, fun a ha => Nat.le_succ_of_le (h.ages a ha), h.mt, h.ml, h.uniq, h.cnt⟩

/-- Behind a Take that tells an id. -/
theorem Cmb.take (h : Cmb n K ag tk told live) {i : Nat} (ho : leastO ag tk = some i) :
    (∀ x ∈ told, x ≠ takeI ag tk) ∧ (∀ x ∈ live, indexI x ≠ indexI (takeI ag tk)) ∧ Cmb n (K + 1) (takeA ag tk) (takeT ag tk) (told ++ [takeI ag tk]) (live ++ [takeI ag tk]) := by
  obtain ⟨h1, _⟩ := leastO_iff ho
  unfold okB at h1
  simp only [Bool.and_eq_true, beq_iff_eq, decide_eq_true_eq] at h1
  obtain ⟨ht, ha⟩ := h1
  have hlt : i < n := by rw [← h.tl]; exact (List.getElem?_eq_some_iff.1 ht).1
  have hn := h.n4
  have hil : i < ag.length := by rw [h.al]; exact hlt
  have hx : ag[i]? = some (ag.getD i 0) := by simp [List.getD_eq_getElem?_getD, hil]
  have hK' : ag.getD i 0 ≤ K := h.ages _ (List.mem_of_getElem? hx)
  unfold takeI takeA takeT
  rw [ho]
  dsimp only
  generalize ag.getD i 0 = a at ha hx hK'
  obtain ⟨p1, p2, p3⟩ := idI_parts (i := i) (a := a + 1) (by omega) (by omega) (by omega)
  generalize idI (i : Int) ((a + 1 : Nat) : Int) = id at p1 p2 p3
  have hset : (ag.set i (a + 1))[i]? = some (a + 1) := by rw [List.getElem?_set_self hil]
  have hsetT : (tk.set i true)[i]? = some true := by rw [List.getElem?_set_self (by rw [h.tl]; exact hlt)]
  have hlive : ∀ x ∈ live, ix x ≠ i := fun x hx e => by
    obtain ⟨_, q2, _⟩ := live_iff (h.ml x hx)
    rw [e, ht] at q2
    cases q2
  have hknown : ∀ x ∈ told, x ≠ id ∧ knownB (ag.set i (a + 1)) x = true := fun x hxm => by
    obtain ⟨q1, b, q2, q3⟩ := known_iff (h.mt x hxm)
    by_cases e : ix x = i
    · rw [e, hx] at q2
      cases q2
      exact ⟨fun e2 => by subst e2; omega, known_of q1 (by rw [e]; exact hset) (by omega)⟩
    · exact ⟨fun e2 => by subst e2; exact e p2, known_of q1 (by rw [List.getElem?_set_ne (Ne.symm e)]; exact q2) q3⟩
  refine ⟨fun x hx => (hknown x hx).1, fun x hx => ?_, by simpa using h.al, by simpa using h.tl, h.n4, ?_, ?_, ?_, ?_, ?_⟩
  · obtain ⟨q1, _, _⟩ := live_iff (h.ml x hx)
    have := hlive x hx
    unfold indexI
    rw [if_pos q1, if_pos p1, ← ix_eq, ← ix_eq, p2]
    omega
  · intro b hb
    rcases List.mem_or_eq_of_mem_set hb with hb | rfl
    · exact Nat.le_succ_of_le (h.ages b hb)
    · omega
  · intro x hx
    rcases List.mem_append.1 hx with hx | hx
    · exact (hknown x hx).2
    · rw [List.mem_singleton.1 hx]
      exact known_of p1 (by rw [p2]; exact hset) (by omega)
  · intro x hx
    rcases List.mem_append.1 hx with hx | hx
    · obtain ⟨q1, q2, b, q3, q4⟩ := live_iff (h.ml x hx)
      have e := Ne.symm (hlive x hx)
      exact live_of q1 (by rw [List.getElem?_set_ne e]; exact q2) (by rw [List.getElem?_set_ne e]; exact q3) q4
    · rw [List.mem_singleton.1 hx]
      exact live_of p1 (by rw [p2]; exact hsetT) (by rw [p2]; exact hset) p3
  · rw [List.pairwise_append]
    refine ⟨h.uniq, by simp, fun x hx y hy => ?_⟩
    rw [List.mem_singleton.1 hy, p2]
    exact hlive x hx
  · rw [List.length_append, h.cnt, count_set_t ht]
    rfl

/-- Behind a Free of one that lives. -/
theorem Cmb.gone (h : Cmb n K ag tk told live) {j : Nat} {x : Int} (hx : live[j]? = some x) :
    freeE ag tk x = 0 ∧ liveB ag (freeT ag tk x) x = false ∧ freeE ag (freeT ag tk x) x = 7 ∧ freeT ag (freeT ag tk x) x = freeT ag tk x ∧ right x ∧ Cmb n K ag (freeT ag tk x) told (live.eraseIdx j) := by
  have hv := h.ml x (List.mem_of_getElem? hx)
  have hk := live_known hv
  obtain ⟨q1, q2, b, q3, q4⟩ := live_iff hv
  have hlt := (List.getElem?_eq_some_iff.1 q2).1
  have eT : freeT ag tk x = tk.set (ix x) false := by unfold freeT; rw [hv]; rfl
  have hv2 : liveB ag (tk.set (ix x) false) x = false := by
    unfold liveB
    rw [List.getElem?_set_self hlt]
    simp
  rw [eT]
  refine ⟨?_, hv2, ?_, ?_, q1, h.al, by simpa using h.tl, h.n4, h.ages, h.mt, ?_, ?_, ?_⟩
  · unfold freeE; rw [hk, hv]; rfl
  · unfold freeE; rw [hk, hv2]; rfl
  · unfold freeT; rw [hv2]; rfl
  · intro y hy
    rw [List.mem_eraseIdx_iff_getElem?] at hy
    obtain ⟨k, hne, hy⟩ := hy
    obtain ⟨r1, r2, c, r3, r4⟩ := live_iff (h.ml y (List.mem_of_getElem? hy))
    have hu := List.pairwise_iff_getElem.1 h.uniq
    obtain ⟨l1, e1⟩ := List.getElem?_eq_some_iff.1 hx
    obtain ⟨l2, e2⟩ := List.getElem?_eq_some_iff.1 hy
    have e : ix x ≠ ix y := by
      rcases Nat.lt_or_gt_of_ne hne with hlt | hgt
      · have := hu k j l2 l1 hlt
        rw [e1, e2] at this
        exact Ne.symm this
      · have := hu j k l1 l2 hgt
        rw [e1, e2] at this
        exact this
    exact live_of r1 (by rw [List.getElem?_set_ne e]; exact r2) r3 r4
  · exact List.Pairwise.sublist (List.eraseIdx_sublist _ _) h.uniq
  · have hj := (List.getElem?_eq_some_iff.1 hx).1
    have := count_set_f q2
    rw [List.length_eraseIdx, if_pos hj, h.cnt]
    omega
end

end Go.Proofs.YtkoekdbkjjjoaaaDoor
