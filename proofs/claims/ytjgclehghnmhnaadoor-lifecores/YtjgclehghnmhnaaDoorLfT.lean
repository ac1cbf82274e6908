/- Tables as they lie in memory. -/
import Derived.Test.YtjgclehghnmhnaaDoorLfO
import Derived.Test.YtjgclehghnmhnaaDoorLfP
import Derived.Test.YtjgclehghnmhnaaDoorLfE
import Derived.Test.YtjgclehghnmhnaaDoorSCopy
namespace Go.Proofs.YtjgclehghnmhnaaDoor
open Go Go.RowKit

/-- The table of what may follow lies in its variable. -/
def Fol (w : World) : Prop := 0 < w.heap.size ∧ ∀ (j : Nat) (x : Nat), folL[j]? = some x → w.cell? ⟨0, j, none⟩ = some (.int .u8 (x : Int))
/-- Both variables. -/
structure Env (w : World) : Prop where
  t : Tab w
  f : Fol w
theorem Env.below {w w' : World} {n : Nat} (h : Env w) (hb : Below n w w') (hn : w.heap.size ≤ n) : Env w' :=
  ⟨h.t.below hb hn, Nat.lt_of_lt_of_le h.f.1 hb.size, fun j x hx => (hb.cell (p := ⟨0, j, none⟩) (Nat.lt_of_lt_of_le h.f.1 hn)).trans (h.f.2 j x hx)⟩
theorem Env.but {S : List Nat} {w w' : World} (h : Env w) (hb : But S w w') (h1 : 0 ∉ S) (h2 : 1 ∉ S) : Env w' :=
  ⟨h.t.but hb h2, Nat.lt_of_lt_of_le h.f.1 hb.size, fun j x hx => hb.cell' (h.f.2 j x hx) h1⟩
theorem Env.keep {w w' : World} (h : Env w) (hb : But [] w w') : Env w' := h.but hb (by simp) (by simp)
theorem Env.on {w w' : World} (h : Env w) (hb : Below w.heap.size w w') : Env w' := h.below hb (Nat.le_refl _)

/-- A table's blocks. -/
def bT (B S G M : Nat) (pb : Int → Nat) (xs : List Ac) : List Nat := B :: S :: G :: M :: xs.map (fun a => pb a.id)
/-- Where one lies, by its id. -/
def fB (pb : Int → Nat) (xs : List Ac) (i : Int) : Option Nat := (fndA xs i).map (fun _ => pb i)
structure TM (w : World) (B S G M N : Nat) (pb : Int → Nat) (σ : Sta) : Prop where
  b : w.heap[B]? = some (.cells #[.pointer (some ⟨S, 0, none⟩), .map (some M)] 67 (0, 0))
  s : SlQ w S G N σ.ag σ.tk
  m : PM w M σ.xs.length (fB pb σ.xs)
  a : ∀ a ∈ σ.xs, Cel w (pb a.id) (acA a) 44
  nd : (bT B S G M pb σ.xs).Nodup
  ok : Okk N σ

section
variable {w w' : World} {B S G M N : Nat} {pb : Int → Nat} {σ : Sta}
theorem fB_some (h : Okk N σ) {a : Ac} (ha : a ∈ σ.xs) : fB pb σ.xs a.id = some (pb a.id) := by
  unfold fB
  rw [fnd_mem h.srt ha]
  rfl
theorem fB_inv {xs : List Ac} {i : Int} {b : Nat} (h : fB pb xs i = some b) : ∃ a ∈ xs, a.id = i ∧ b = pb a.id := by
  unfold fB at h
  obtain ⟨a, ha, e⟩ := Option.map_eq_some_iff.1 h
  obtain ⟨h1, h2⟩ := fnd_some ha
  exact ⟨a, h1, h2, by rw [h2]; exact e.symm⟩
theorem bT_mem {xs : List Ac} {a : Ac} (ha : a ∈ xs) : pb a.id ∈ bT B S G M pb xs := by
  unfold bT
  simp only [List.mem_cons]
  exact .inr (.inr (.inr (.inr (List.mem_map.2 ⟨a, ha, rfl⟩))))
theorem bT_out {xs : List Ac} {x : Nat} (h : x ∈ bT B S G M pb xs) : x = B ∨ x = S ∨ x = G ∨ x = M ∨ ∃ a ∈ xs, x = pb a.id := by
  unfold bT at h
  simp only [List.mem_cons, List.mem_map] at h
  rcases h with h | h | h | h | ⟨a, ha, e⟩
  · exact .inl h
  · exact .inr (.inl h)
  · exact .inr (.inr (.inl h))
  · exact .inr (.inr (.inr (.inl h)))
  · exact .inr (.inr (.inr (.inr ⟨a, ha, e.symm⟩)))
theorem TM.lt (h : TM w B S G M N pb σ) {x : Nat} (hx : x ∈ bT B S G M pb σ.xs) : x < w.heap.size := by
  obtain ⟨l1, l2, _⟩ := h.s.lts
  rcases bT_out hx with rfl | rfl | rfl | rfl | ⟨a, ha, rfl⟩
  · exact (Array.getElem?_eq_some_iff.1 h.b).1
  · exact l1
  · exact l2
  · exact h.m.lt
  · exact (h.a a ha).lt
theorem TM.but {T : List Nat} (h : TM w B S G M N pb σ) (hb : But T w w') (hT : Disj (bT B S G M pb σ.xs) T) : TM w' B S G M N pb σ := by
  have m1 : B ∈ bT B S G M pb σ.xs := by simp [bT]
  have m2 : S ∈ bT B S G M pb σ.xs := by simp [bT]
  have m3 : G ∈ bT B S G M pb σ.xs := by simp [bT]
  have m4 : M ∈ bT B S G M pb σ.xs := by simp [bT]
  exact ⟨(hb.block B (h.lt m1) (hT _ m1)).trans h.b, h.s.but hb (hT _ m2) (hT _ m3), h.m.but hb (hT _ m4), fun a ha => (h.a a ha).but hb (hT _ (bT_mem ha)), h.nd, h.ok⟩
theorem TM.keep (h : TM w B S G M N pb σ) (hb : But [] w w') : TM w' B S G M N pb σ := h.but hb (by simp [Disj])
theorem TM.below (h : TM w B S G M N pb σ) (hb : Below w.heap.size w w') : TM w' B S G M N pb σ := h.keep (.of_below hb)
theorem TM.drew (h : TM w B S G M N pb σ) : TM w.drew B S G M N pb σ := h.keep (But.refl [] w).drew
theorem TM.c0 (h : TM w B S G M N pb σ) : w.cell? ⟨B, 0, none⟩ = some (.pointer (some ⟨S, 0, none⟩)) := by simp [World.cell?, h.b]
theorem TM.c1 (h : TM w B S G M N pb σ) : w.cell? ⟨B, 1, none⟩ = some (.map (some M)) := by simp [World.cell?, h.b]
/-- All lie apart. -/
theorem TM.apart (h : TM w B S G M N pb σ) : B ≠ S ∧ B ≠ G ∧ B ≠ M ∧ S ≠ G ∧ S ≠ M ∧ G ≠ M ∧ (∀ a ∈ σ.xs, pb a.id ≠ B ∧ pb a.id ≠ S ∧ pb a.id ≠ G ∧ pb a.id ≠ M) ∧ (σ.xs.map (fun a => pb a.id)).Nodup := by
  have hn := h.nd
  unfold bT at hn
  simp only [List.nodup_cons, List.mem_cons, not_or] at hn
  obtain ⟨⟨a1, a2, a3, a4⟩, ⟨b1, b2, b3⟩, ⟨c1, c2⟩, d, e⟩ := hn
  refine ⟨a1, a2, a3, b1, b2, c1, fun a ha => ?_, e⟩
  have hm : pb a.id ∈ σ.xs.map (fun a => pb a.id) := List.mem_map.2 ⟨a, ha, rfl⟩
  exact ⟨fun e => a4 (e ▸ hm), fun e => b3 (e ▸ hm), fun e => c2 (e ▸ hm), fun e => d (e ▸ hm)⟩
theorem nodup_inj {xs : List Ac} (h : (xs.map (fun a => pb a.id)).Nodup) {a b : Ac} (ha : a ∈ xs) (hb : b ∈ xs) (e : pb a.id = pb b.id) : a = b := by
  have hp : xs.Pairwise (fun x y => pb x.id ≠ pb y.id) := List.pairwise_map.1 h
  obtain ⟨i, hi, rfl⟩ := List.mem_iff_getElem.1 ha
  obtain ⟨j, hj, rfl⟩ := List.mem_iff_getElem.1 hb
  have hu := List.pairwise_iff_getElem.1 hp
  rcases Nat.lt_trichotomy i j with hlt | heq | hgt
  · exact absurd e (hu i j hi hj hlt)
  · subst heq; rfl
  · exact absurd e.symm (hu j i hj hi hgt)
theorem map_pb {xs ys : List Ac} (h : xs.map (·.id) = ys.map (·.id)) : xs.map (fun a => pb a.id) = ys.map (fun a => pb a.id) := by
  have := congrArg (List.map pb) h
  rw [List.map_map, List.map_map] at this
  exact this
/-- One has turned. -/
theorem TM.upd (h : TM w B S G M N pb σ) {a a' : Ac} (ha : a ∈ σ.xs) (e : a'.id = a.id) (hb : But [pb a.id] w w') (hc : Cel w' (pb a.id) (acA a') 44) (ok' : Okk N { σ with xs := insA a' σ.xs }) :
    TM w' B S G M N pb { σ with xs := insA a' σ.xs } ∧ bT B S G M pb (insA a' σ.xs) = bT B S G M pb σ.xs := by
  have hids := ids_insA (a := a') h.ok.srt ⟨a, ha, e.symm⟩
  have hbt : bT B S G M pb (insA a' σ.xs) = bT B S G M pb σ.xs := by
    unfold bT
    rw [map_pb hids]
  obtain ⟨_, _, _, _, _, _, hap, hnd⟩ := h.apart
  obtain ⟨n1, n2, n3, n4⟩ := hap a ha
  have hl : (insA a' σ.xs).length = σ.xs.length := by
    have := congrArg List.length hids
    simpa using this
  have hf : fB pb (insA a' σ.xs) = fB pb σ.xs := by
    funext i
    unfold fB
    rw [fnd_insA h.ok.srt]
    by_cases hi : i = a'.id
    · rw [if_pos hi, hi, e, fnd_mem h.ok.srt ha]
      rfl
    · rw [if_neg hi]
  refine ⟨⟨(hb.block B (h.lt (by simp [bT])) (by simp; exact fun e => n1 e.symm)).trans h.b, h.s.but hb (by simp; exact fun e => n2 e.symm) (by simp; exact fun e => n3 e.symm), ?_, fun b hb' => ?_, hbt ▸ h.nd, ok'⟩, hbt⟩
  · show PM w' M (insA a' σ.xs).length (fB pb (insA a' σ.xs))
    rw [hl, hf]
    exact h.m.but hb (by simp; exact fun e => n4 e.symm)
  · rcases (mem_insA h.ok.srt).1 hb' with rfl | ⟨hb2, hne⟩
    · rw [e]
      exact hc
    · refine (h.a b hb2).but hb ?_
      simp only [List.mem_singleton]
      intro e2
      exact hne (by rw [nodup_inj hnd hb2 ha e2, e])
/-- One more. -/
theorem TM.new (h : TM w B S G M N pb σ) {ag : List Nat} {tk : List Bool} {w1 w3 : World} {n : Ac} (hs : SlQ w1 S G N ag tk) (hb1 : But [S, G] w w1) (hn : ∀ b ∈ σ.xs, b.id ≠ n.id)
    (hm : PM w3 M (σ.xs.length + 1) (fun j => if j = n.id then some w1.heap.size else fB pb σ.xs j)) (hb3 : But [M] (w1.alloc (.cells (acA n) 44)) w3) (ok' : Okk N ⟨ag, tk, insA n σ.xs⟩) :
    ∃ pb', TM w3 B S G M N pb' ⟨ag, tk, insA n σ.xs⟩ ∧ Step (bT B S G M pb σ.xs) w (bT B S G M pb' (insA n σ.xs)) w3 := by
  obtain ⟨a1, a2, a3, a4, a5, a6, hap, hnd⟩ := h.apart
  have hP : ∀ x ∈ bT B S G M pb σ.xs, x < w1.heap.size := fun x hx => Nat.lt_of_lt_of_le (h.lt hx) hb1.size
  have hmem : ∀ {b}, b ∈ insA n σ.xs ↔ b = n ∨ (b ∈ σ.xs ∧ b.id ≠ n.id) := mem_insA h.ok.srt
  have hpb : ∀ b ∈ σ.xs, (if b.id = n.id then w1.heap.size else pb b.id) = pb b.id := fun b hb => if_neg (hn b hb)
  have hperm : ((insA n σ.xs).map (fun a => if a.id = n.id then w1.heap.size else pb a.id)).Perm (w1.heap.size :: σ.xs.map (fun a => pb a.id)) := by
    have := (perm_insA hn).map (fun a : Ac => if a.id = n.id then w1.heap.size else pb a.id)
    rw [List.map_cons, if_pos rfl, List.map_congr_left (l := σ.xs) (g := fun a => pb a.id) hpb] at this
    exact this
  have hB13 : But [S, G, M] w w3 := ((hb1.mono (by simp)).alloc _).trans (hb3.mono (by simp))
  refine ⟨fun j => if j = n.id then w1.heap.size else pb j, ⟨?_, ?_, ?_, fun b hb => ?_, ?_, ok'⟩, ?_, fun x hx => ?_⟩
  · exact (hB13.block B (h.lt (by simp [bT])) (by simp; exact ⟨a1, a2, a3⟩)).trans h.b
  · exact (hs.keep ((But.refl [] w1).alloc _)).but hb3 (by simpa using a5) (by simpa using a6)
  · show PM w3 M (insA n σ.xs).length (fB _ (insA n σ.xs))
    rw [len_insA h.ok.srt hn]
    have : fB (fun j => if j = n.id then w1.heap.size else pb j) (insA n σ.xs) = (fun j => if j = n.id then some w1.heap.size else fB pb σ.xs j) := by
      funext j
      unfold fB
      rw [fnd_insA h.ok.srt]
      by_cases hj : j = n.id
      · simp [hj]
      · simp [hj]
    rw [this]
    exact hm
  · rcases hmem.1 hb with rfl | ⟨hb2, hne⟩
    · rw [if_pos rfl]
      refine (Cel.new w1 _ _).but hb3 ?_
      simp only [List.mem_singleton]
      intro e
      have := hP M (by simp [bT])
      omega
    · rw [if_neg hne]
      obtain ⟨n1, n2, n3, n4⟩ := hap b hb2
      exact (h.a b hb2).but hB13 (by simp; exact ⟨n2, n3, n4⟩)
  · have h1 : (bT B S G M (fun j => if j = n.id then w1.heap.size else pb j) (insA n σ.xs)).Perm (w1.heap.size :: bT B S G M pb σ.xs) := by
      unfold bT
      refine (((((hperm.cons M).cons G).cons S).cons B)).trans ?_
      exact (((((List.Perm.swap _ _ _).cons G).cons S).cons B).trans (((List.Perm.swap _ _ _).cons S).cons B)).trans (((List.Perm.swap _ _ _).cons B).trans (List.Perm.swap _ _ _))
    rw [h1.nodup_iff, List.nodup_cons]
    exact ⟨fun hx => by have := hP _ hx; omega, h.nd⟩
  · exact hB13.mono (fun x hx => by simp [bT] at hx ⊢; rcases hx with rfl | rfl | rfl <;> simp)
  · rcases bT_out hx with rfl | rfl | rfl | rfl | ⟨b, hb, rfl⟩
    · exact .inl (by simp [bT])
    · exact .inl (by simp [bT])
    · exact .inl (by simp [bT])
    · exact .inl (by simp [bT])
    · rcases hmem.1 hb with rfl | ⟨hb2, hne⟩
      · refine .inr ?_
        rw [if_pos rfl]
        exact hb1.size
      · refine .inl ?_
        rw [if_neg hne]
        exact bT_mem hb2
/-- One is no more. -/
theorem TM.gone (h : TM w B S G M N pb σ) {a : Ac} (ha : a ∈ σ.xs) {w1 w2 : World} (hs : SlQ w1 S G N σ.ag (freeT σ.ag σ.tk a.id)) (hb1 : But [S] w w1)
    (hm : PM w2 M (σ.xs.length - 1) (fun j => if j = a.id then none else fB pb σ.xs j)) (hb2 : But [M] w1 w2) :
    TM w2 B S G M N pb (endS σ a.id) ∧ Step (bT B S G M pb σ.xs) w (bT B S G M pb (endS σ a.id).xs) w2 := by
  obtain ⟨a1, a2, a3, a4, a5, a6, hap, hnd⟩ := h.apart
  have hB : But [S, M] w w2 := (hb1.mono (by simp)).trans (hb2.mono (by simp))
  refine ⟨⟨?_, ?_, ?_, fun b hb => ?_, ?_, h.ok.end_ ha⟩, ?_, fun x hx => ?_⟩
  · exact (hB.block B (h.lt (by simp [bT])) (by simp; exact ⟨a1, a3⟩)).trans h.b
  · exact hs.but hb2 (by simpa using a5) (by simpa using a6)
  · show PM w2 M (remA σ.xs a.id).length (fB pb (remA σ.xs a.id))
    have hl := len_remA h.ok.srt ha
    rw [show (remA σ.xs a.id).length = σ.xs.length - 1 by omega]
    have : fB pb (remA σ.xs a.id) = (fun j => if j = a.id then none else fB pb σ.xs j) := by
      funext j
      unfold fB
      rw [fnd_remA h.ok.srt]
      by_cases hj : j = a.id
      · rw [if_pos hj, if_pos hj]
        rfl
      · rw [if_neg hj, if_neg hj]
    rw [this]
    exact hm
  · obtain ⟨hb2', _⟩ := mem_remA.1 hb
    obtain ⟨n1, n2, n3, n4⟩ := hap b hb2'
    exact (h.a b hb2').but hB (by simp; exact ⟨n2, n4⟩)
  · refine List.Nodup.sublist ?_ h.nd
    unfold bT
    exact ((((List.filter_sublist.map _).cons_cons _).cons_cons _).cons_cons _).cons_cons _
  · exact hB.mono (fun x hx => by simp [bT] at hx ⊢; rcases hx with rfl | rfl <;> simp)
  · rcases bT_out hx with rfl | rfl | rfl | rfl | ⟨b, hb, rfl⟩
    · exact .inl (by simp [bT])
    · exact .inl (by simp [bT])
    · exact .inl (by simp [bT])
    · exact .inl (by simp [bT])
    · exact .inl (bT_mem (mem_remA.1 hb).1)
end
/-- A table at B, with blocks T. -/
def TQ (w : World) (B : Nat) (T : List Nat) (N : Nat) (σ : Sta) : Prop := ∃ S G M pb, T = bT B S G M pb σ.xs ∧ TM w B S G M N pb σ
section
variable {w w' : World} {B N : Nat} {T : List Nat} {σ : Sta}
theorem TQ.but {S : List Nat} (h : TQ w B T N σ) (hb : But S w w') (hS : Disj T S) : TQ w' B T N σ := by
  obtain ⟨s, g, m, pb, rfl, hm⟩ := h
  exact ⟨s, g, m, pb, rfl, hm.but hb hS⟩
theorem TQ.keep (h : TQ w B T N σ) (hb : But [] w w') : TQ w' B T N σ := h.but hb (by simp [Disj])
theorem TQ.below (h : TQ w B T N σ) (hb : Below w.heap.size w w') : TQ w' B T N σ := h.keep (.of_below hb)
theorem TQ.lt (h : TQ w B T N σ) : ∀ x ∈ T, x < w.heap.size := by
  obtain ⟨s, g, m, pb, rfl, hm⟩ := h
  exact fun x hx => hm.lt hx
theorem TQ.ok (h : TQ w B T N σ) : Okk N σ := by
  obtain ⟨s, g, m, pb, rfl, hm⟩ := h
  exact hm.ok
theorem TQ.len (h : TQ w B T N σ) : σ.xs.length ≤ N ∧ N ≤ 4096 := ⟨h.ok.len, h.ok.n4⟩
end
end Go.Proofs.YtjgclehghnmhnaaDoor
