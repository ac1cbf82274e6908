/- The sorted list that a heap stands for: what is put in, taken out, asked. -/
import Derived.Test.YtmogedfjhbfglaaHps
namespace Go.Proofs.Ytmogedfjhbfglaa

/-- Each comes ahead of those behind it. -/
def Srt (q : List Th) : Prop := q.Pairwise (fun a b => befB a b = true)
theorem Srt.uniq : ∀ {a b : List Th}, Srt a → Srt b → a.Perm b → a = b
  | [], b, _, _, h => by simpa using h.symm.eq_nil.symm
  | x :: a, [], _, _, h => by simpa using h.eq_nil
  | x :: a, y :: b, ha, hb, h => by
    obtain ⟨ha1, ha2⟩ := List.pairwise_cons.1 ha
    obtain ⟨hb1, hb2⟩ := List.pairwise_cons.1 hb
    have e : x = y := by
      have h1 : x ∈ y :: b := h.subset (by simp)
      have h2 : y ∈ x :: a := h.symm.subset (by simp)
      rcases List.mem_cons.1 h1 with e | h1
      · exact e
      · rcases List.mem_cons.1 h2 with e | h2
        · exact e.symm
        · exact le_anti (befB_le (ha1 y h2)) (befB_le (hb1 x h1))
    subst e
    rw [Srt.uniq ha2 hb2 (List.Perm.cons_inv h)]

/-- Put where it belongs. -/
def insq (p : Th) : List Th → List Th
  | [] => [p]
  | a :: r => if befB a p then a :: insq p r else p :: a :: r
theorem insq_perm (p : Th) : ∀ q : List Th, (insq p q).Perm (p :: q)
  | [] => List.Perm.refl _
  | a :: r => by
    unfold insq
    split
    · exact ((insq_perm p r).cons a).trans (List.Perm.swap p a r)
    · exact List.Perm.refl _
theorem insq_srt (p : Th) : ∀ {q : List Th}, Srt q → (∀ a ∈ q, a.1 ≠ p.1) → Srt (insq p q)
  | [], _, _ => List.pairwise_singleton _ _
  | a :: r, h, hn => by
    obtain ⟨h1, h2⟩ := List.pairwise_cons.1 h
    unfold insq
    split
    · rename_i hb
      refine List.pairwise_cons.2 ⟨fun x hx => ?_, insq_srt p h2 (fun x hx => hn x (by simp [hx]))⟩
      rcases List.mem_cons.1 ((insq_perm p r).subset hx) with rfl | hx
      · exact hb
      · exact h1 x hx
    · rename_i hb
      have hpa : befB p a = true := befB_of (by simpa [le] using hb) (fun e => hn a (by simp) (by rw [e]))
      refine List.pairwise_cons.2 ⟨fun x hx => ?_, h⟩
      rcases List.mem_cons.1 hx with rfl | hx
      · exact hpa
      · exact befB_tr hpa (h1 x hx)
/-- Where it belongs, by places. -/
theorem insq_at {p : Th} : ∀ {q : List Th} {i : Nat}, (∀ j a, j < i → q[j]? = some a → befB a p = true) → (∀ a, q[i]? = some a → befB a p = false) → i ≤ q.length → insq p q = q.take i ++ p :: q.drop i
  | [], i, _, _, hi => by
    obtain rfl : i = 0 := by simpa using hi
    rfl
  | a :: r, 0, _, h2, _ => by
    have := h2 a rfl
    unfold insq
    rw [if_neg (by simp [this])]
    rfl
  | a :: r, i + 1, h1, h2, hi => by
    have := h1 0 a (by omega) rfl
    unfold insq
    rw [if_pos this, insq_at (i := i) (fun j b hj hb => h1 (j + 1) b (by omega) (by simpa using hb)) (fun b hb => h2 b (by simpa using hb)) (by simpa using hi)]
    rfl

/-- Without the id. -/
def remq (q : List Th) (t : Int) : List Th := q.filter (fun p => !((p.1 : Int) == t))
theorem remq_srt {q : List Th} (h : Srt q) (t : Int) : Srt (remq q t) := List.Pairwise.sublist List.filter_sublist h
theorem remq_not {q : List Th} {t : Int} {a : Th} (h : a ∈ remq q t) : a ∈ q ∧ (a.1 : Int) ≠ t := by
  unfold remq at h
  rw [List.mem_filter] at h
  exact ⟨h.1, by simpa using h.2⟩
theorem remq_self {q : List Th} {t : Int} (h : ∀ a ∈ q, (a.1 : Int) ≠ t) : remq q t = q := by
  unfold remq
  rw [List.filter_eq_self]
  intro a ha
  simpa using h a ha
/-- Whether the id is there, and its key. -/
def hasB (q : List Th) (t : Int) : Bool := q.any (fun p => (p.1 : Int) == t)
def keyV (q : List Th) (t : Int) : Int := ((q.find? (fun p => (p.1 : Int) == t)).map (·.2)).getD 0
theorem hasB_iff {q : List Th} {t : Int} : hasB q t = true ↔ ∃ p ∈ q, (p.1 : Int) = t := by
  unfold hasB
  rw [List.any_eq_true]
  simp
theorem hasB_not {q : List Th} {t : Int} : hasB q t = false ↔ ∀ p ∈ q, (p.1 : Int) ≠ t := by
  rw [← Bool.not_eq_true, hasB_iff]
  simp
theorem keyV_none {q : List Th} {t : Int} (h : hasB q t = false) : keyV q t = 0 := by
  unfold keyV
  rw [List.find?_eq_none.2]
  · rfl
  · intro p hp
    simpa using hasB_not.1 h p hp
theorem keyV_some {q : List Th} (hn : (q.map (·.1)).Nodup) {id : Nat} {k : Int} (h : (id, k) ∈ q) : keyV q (id : Int) = k := by
  unfold keyV
  cases e : q.find? (fun p => (p.1 : Int) == (id : Int)) with
  | none =>
    have := List.find?_eq_none.1 e (id, k) h
    simp at this
  | some r =>
    have h1 := List.mem_of_find?_eq_some e
    have h2 := List.find?_some e
    simp at h2
    have h3 : r.1 = id := by omega
    obtain ⟨i, hi, e1⟩ := List.getElem_of_mem h
    obtain ⟨j, hj, e2⟩ := List.getElem_of_mem h1
    have : i = j := by
      have hp := hn
      rw [List.nodup_iff_pairwise_ne, List.pairwise_map, List.pairwise_iff_getElem] at hp
      rcases Nat.lt_trichotomy i j with hlt | rfl | hgt
      · exact absurd (by rw [e1, e2, h3]) (hp i j hi hj hlt)
      · rfl
      · exact absurd (by rw [e1, e2, h3]) (hp j i hj hi hgt)
    subst this
    rw [e1] at e2
    rw [← e2]
    rfl

/-- A thing and those beside it. -/
theorem mid_of {xs : List Th} {i : Nat} {a : Th} (h : xs[i]? = some a) : ∃ u v, xs = u ++ a :: v ∧ u.length = i ∧ ∀ b, xs.set i b = u ++ b :: v := by
  obtain ⟨hi, e⟩ := List.getElem?_eq_some_iff.1 h
  have e0 : xs = xs.take i ++ a :: xs.drop (i + 1) := by
    rw [← e, ← List.drop_eq_getElem_cons hi, List.take_append_drop]
  have hl : (xs.take i).length = i := by rw [List.length_take]; omega
  refine ⟨xs.take i, xs.drop (i + 1), e0, hl, fun b => ?_⟩
  exact List.set_eq_take_append_cons_drop.trans (by rw [if_pos hi])

/-- A heap of the ids below N: its things, their places, the list that it stands for. -/
structure Rep (N : Nat) (xs : List Th) (pl : List Int) (q : List Th) : Prop where
  pls : Pls N xs pl
  hp : Hp le (gx xs) xs.length
  pm : xs.Perm q
  srt : Srt q

section
variable {N : Nat} {xs : List Th} {pl : List Int} {q : List Th}
theorem Rep.len (h : Rep N xs pl q) : xs.length = q.length := h.pm.length_eq
theorem Rep.short (h : Rep N xs pl q) : q.length ≤ N := h.len ▸ h.pls.short
theorem Rep.nd (h : Rep N xs pl q) : (q.map (·.1)).Nodup := (h.pm.map _).nodup_iff.1 h.pls.nodup
theorem Rep.lt (h : Rep N xs pl q) {p : Th} (hp : p ∈ q) : p.1 < N := by
  obtain ⟨i, hi⟩ := List.getElem?_of_mem (h.pm.symm.subset hp)
  exact h.pls.lt hi
/-- An id that is there has a place. -/
theorem Rep.at' (h : Rep N xs pl q) {t : Int} (ht : hasB q t = true) : ∃ (id i : Nat) (k : Int), t = id ∧ id < N ∧ xs[i]? = some (id, k) ∧ pl[id]? = some (i : Int) ∧ keyV q t = k := by
  obtain ⟨p, hp, rfl⟩ := hasB_iff.1 ht
  obtain ⟨i, hi⟩ := List.getElem?_of_mem (h.pm.symm.subset hp)
  exact ⟨p.1, i, p.2, rfl, h.lt hp, hi, h.pls.at' i p hi, keyV_some h.nd hp⟩
/-- One that isn't has none. -/
theorem Rep.no (h : Rep N xs pl q) {id : Nat} (hid : id < N) (ht : hasB q (id : Int) = false) : pl[id]? = some (-1) := by
  have e : pl[id]? = some (pl[id]'(by rw [h.pls.len]; exact hid)) := List.getElem?_eq_getElem _
  rcases h.pls.no id _ e with h' | ⟨i, k, _, hi⟩
  · rw [e, h']
  · have := hasB_not.1 ht (id, k) (h.pm.subset (List.mem_of_getElem? hi))
    simp at this
theorem Rep.first (h : Rep N xs pl q) {p : Th} {r : List Th} (e : q = p :: r) : xs[0]? = some p := by
  have hl : 0 < xs.length := by rw [h.len, e]; simp
  have hle := h.hp.least le_rf le_tr
  have hs := h.srt
  rw [e] at hs
  obtain ⟨h1, -⟩ := List.pairwise_cons.1 hs
  have h0 := gx_get hl
  obtain ⟨i, hi⟩ := List.getElem?_of_mem (h.pm.symm.subset (by rw [e]; simp : p ∈ q))
  have h2 := hle i (List.getElem?_eq_some_iff.1 hi).1
  rw [gx_of hi] at h2
  have h3 : gx xs 0 ∈ p :: r := by rw [← e]; exact h.pm.subset (List.mem_of_getElem? h0)
  rcases List.mem_cons.1 h3 with h3 | h3
  · rw [h0, h3]
  · rw [h0, le_anti h2 (befB_le (h1 _ h3))]
theorem Rep.insq {ys : List Th} {pl' : List Int} {id : Nat} {key : Int} (h : Rep N xs pl q) (hb : hasB q (id : Int) = false) (h1 : Pls N ys pl') (h2 : Hp le (gx ys) ys.length) (h3 : ys.Perm (xs ++ [(id, key)])) : Rep N ys pl' (insq (id, key) q) := by
  refine ⟨h1, h2, ?_, insq_srt _ h.srt (fun a ha e => hasB_not.1 hb a ha (by simp [e]))⟩
  exact h3.trans ((List.perm_append_comm.trans (h.pm.cons (id, key))).trans (insq_perm _ _).symm)
theorem Rep.rest {ys : List Th} {id : Nat} {k : Int} (h : Rep N xs pl q) (h3 : xs.Perm ((id, k) :: ys)) : ys.Perm (remq q (id : Int)) := by
  have h4 : (((id, k) :: ys).map (·.1)).Nodup := (h3.map _).nodup_iff.1 h.pls.nodup
  rw [List.map_cons, List.nodup_cons] at h4
  have h5 := ((h.pm.symm.trans h3).filter (fun p => !((p.1 : Int) == (id : Int)))).symm
  have h6 : ((id, k) :: ys).filter (fun p => !((p.1 : Int) == (id : Int))) = ys := by
    rw [List.filter_cons_of_neg (by simp)]
    refine List.filter_eq_self.2 (fun a ha => ?_)
    have : a.1 ≠ id := fun e => h4.1 (e ▸ List.mem_map.2 ⟨a, ha, rfl⟩)
    simp
    omega
  rw [h6] at h5
  exact h5
theorem Rep.remq {ys : List Th} {pl' : List Int} {id : Nat} {k : Int} (h : Rep N xs pl q) (h1 : Pls N ys pl') (h2 : Hp le (gx ys) ys.length) (h3 : xs.Perm ((id, k) :: ys)) : Rep N ys pl' (remq q (id : Int)) :=
  ⟨h1, h2, h.rest h3, remq_srt h.srt _⟩
theorem Rep.change {ys : List Th} {pl' : List Int} {id i : Nat} {k key : Int} (h : Rep N xs pl q) (hi : xs[i]? = some (id, k)) (h1 : Pls N ys pl') (h2 : Hp le (gx ys) ys.length) (h3 : ys.Perm (xs.set i (id, key))) : Rep N ys pl' (Ytmogedfjhbfglaa.insq (id, key) (Ytmogedfjhbfglaa.remq q (id : Int))) := by
  obtain ⟨u, v, e, _, hs⟩ := mid_of hi
  rw [hs] at h3
  have h4 : xs.Perm ((id, k) :: (u ++ v)) := by rw [e]; exact List.perm_middle
  have h5 := h.rest h4
  refine ⟨h1, h2, ?_, insq_srt _ (remq_srt h.srt _) (fun a ha e => (remq_not ha).2 (by simp [e]))⟩
  exact h3.trans ((List.perm_middle.trans (h5.cons _)).trans (insq_perm _ _).symm)
theorem Rep.tail {ys : List Th} {pl' : List Int} {p : Th} {r : List Th} (h : Rep N xs pl q) (e : q = p :: r) (h1 : Pls N ys pl') (h2 : Hp le (gx ys) ys.length) (h3 : xs.Perm (p :: ys)) : Rep N ys pl' r := by
  have hs := h.srt
  rw [e] at hs
  exact ⟨h1, h2, List.Perm.cons_inv (h3.symm.trans (e ▸ h.pm)), (List.pairwise_cons.1 hs).2⟩
theorem Rep.nil (N : Nat) : Rep N [] (List.replicate N (-1)) [] := ⟨Pls.nil N, fun j _ h => by simp at h, List.Perm.refl _, List.Pairwise.nil⟩
/-- Each key less by that. -/
def lowL (q : List Th) (c : Int) : List Th := q.map (fun p => (p.1, p.2 - c))
theorem befB_low (a b : Th) (c : Int) : befB (a.1, a.2 - c) (b.1, b.2 - c) = befB a b := by
  rw [Bool.eq_iff_iff, befB_iff, befB_iff]
  show a.2 - c < b.2 - c ∨ (a.2 - c = b.2 - c ∧ a.1 < b.1) ↔ _
  omega
theorem gx_map {xs : List Th} (f : Th → Th) {k : Nat} (hk : k < xs.length) : gx (xs.map f) k = f (gx xs k) := gx_of (by rw [List.getElem?_map, gx_get hk]; rfl)
theorem Rep.low (h : Rep N xs pl q) (c : Int) : Rep N (lowL xs c) pl (lowL q c) := by
  refine ⟨h.pls.map (fun p => p.2 - c), fun j hj hn => ?_, h.pm.map _, ?_⟩
  · have hn' : j < xs.length := by simpa [lowL] using hn
    have hp := par_lt hj
    have := h.hp j hj hn'
    unfold lowL
    rw [gx_map _ hn', gx_map _ (by omega)]
    show befB _ _ = false
    rw [befB_low]
    exact this
  · unfold Srt lowL
    rw [List.pairwise_map]
    refine h.srt.imp (fun {a b} hab => ?_)
    rw [befB_low]
    exact hab
end
end Go.Proofs.Ytmogedfjhbfglaa
