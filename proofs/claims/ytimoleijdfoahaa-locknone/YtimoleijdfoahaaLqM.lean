/- The program's locks as they lie in memory: links, owners, what one is to have again. -/
import Derived.Test.YtimoleijdfoahaaLoG
namespace Go.Proofs.Ytimoleijdfoahaa.Lq
open Go Go.RowKit Go.Proofs.Ytimoleijdfoahaa.Bs Go.Proofs.Ytimoleijdfoahaa.Lo
open Go.Proofs.Ytimoleijdfoahaa.Lk (LQ Pl iv ints)

/-- The blocks of locks: their own, the owners', the third row's, and those of their links. -/
def bl (B o a : Nat) (P : Pl) : List Nat := [B, o, a, P.B, P.n, P.p, P.w, P.c]
structure PM (w : World) (B o a : Nat) (P : Pl) (n T : Nat) (σ : St) : Prop where
  b : ∃ ko ka, n ≤ ko ∧ T ≤ ka ∧ w.heap[B]? = some (.cells #[.slice (some ⟨o, 0, none⟩) n ko, .slice (some ⟨a, 0, none⟩) T ka, .pointer (some ⟨P.B, 0, none⟩)] 54 (0, 0))
  ro : Row w o 3 (σ.own.map (Value.int .i64))
  ra : Row w a 3 (σ.ag.map iv)
  q : LQ w P T (n + n) σ.ls
  nd : (bl B o a P).Nodup
  ol : σ.own.length = n
  al : σ.ag.length = T
def PL (w : World) (B : Nat) (Q : List Nat) (n T : Nat) (σ : St) : Prop := ∃ o a P, Q = bl B o a P ∧ PM w B o a P n T σ

section
variable {w w' : World} {B o a n T : Nat} {P : Pl} {σ : St}
theorem PM.c2 (h : PM w B o a P n T σ) : w.cell? ⟨B, 2, none⟩ = some (.pointer (some ⟨P.B, 0, none⟩)) := by
  obtain ⟨_, _, _, _, hb⟩ := h.b
  simp [World.cell?, hb]
theorem PM.c0 (h : PM w B o a P n T σ) : ∃ k, n ≤ k ∧ w.cell? ⟨B, 0, none⟩ = some (.slice (some ⟨o, 0, none⟩) n k) := by
  obtain ⟨ko, _, h1, _, hb⟩ := h.b
  exact ⟨ko, h1, by simp [World.cell?, hb]⟩
theorem PM.c1 (h : PM w B o a P n T σ) : ∃ k, T ≤ k ∧ w.cell? ⟨B, 1, none⟩ = some (.slice (some ⟨a, 0, none⟩) T k) := by
  obtain ⟨_, ka, _, h1, hb⟩ := h.b
  exact ⟨ka, h1, by simp [World.cell?, hb]⟩
theorem PM.xo (h : PM w B o a P n T σ) {j : Nat} (hj : j < n) : w.cell? ⟨o, j, none⟩ = some (.int .i64 (ow σ j)) :=
  h.ro.cell (by rw [List.getElem?_map, get_of (d := -1) (by rw [h.ol]; exact hj)]; rfl)
theorem PM.xa (h : PM w B o a P n T σ) {t : Nat} (ht : t < T) : w.cell? ⟨a, t, none⟩ = some (.int .i64 (agN σ t : Nat)) :=
  h.ra.cell (by rw [List.getElem?_map, get_of (d := 0) (by rw [h.al]; exact ht)]; rfl)
theorem PM.fo (h : PM w B o a P n T σ) (j : Nat) : w.frozen? ⟨o, j, none⟩ = false := h.ro.fz j
theorem PM.fa (h : PM w B o a P n T σ) (j : Nat) : w.frozen? ⟨a, j, none⟩ = false := h.ra.fz j
theorem PM.nes (h : PM w B o a P n T σ) : (B ≠ o ∧ B ≠ a ∧ B ∉ [P.B, P.n, P.p, P.w, P.c]) ∧ (o ≠ a ∧ o ∉ [P.B, P.n, P.p, P.w, P.c]) ∧ a ∉ [P.B, P.n, P.p, P.w, P.c] := by
  obtain ⟨m1, k1⟩ := List.nodup_cons.1 h.nd
  obtain ⟨m2, k2⟩ := List.nodup_cons.1 k1
  obtain ⟨m3, -⟩ := List.nodup_cons.1 k2
  exact ⟨⟨fun e => m1 (by rw [e]; simp), fun e => m1 (by rw [e]; simp), fun hm => m1 (List.mem_cons_of_mem _ (List.mem_cons_of_mem _ hm))⟩, ⟨fun e => m2 (by rw [e]; simp), fun hm => m2 (List.mem_cons_of_mem _ hm)⟩, m3⟩
theorem PM.lt (h : PM w B o a P n T σ) : ∀ x ∈ bl B o a P, x < w.heap.size := by
  intro x hx
  unfold bl at hx
  rcases List.mem_cons.1 hx with rfl | hx
  · obtain ⟨_, _, _, _, hb⟩ := h.b
    exact (Array.getElem?_eq_some_iff.1 hb).1
  rcases List.mem_cons.1 hx with rfl | hx
  · exact h.ro.lt
  rcases List.mem_cons.1 hx with rfl | hx
  · exact h.ra.lt
  · exact h.q.lt5 hx
theorem PM.but {S' : List Nat} (h : PM w B o a P n T σ) (hb : But S' w w') (hS : ∀ k ∈ bl B o a P, k ∉ S') : PM w' B o a P n T σ := by
  have hk : ∀ k ∈ bl B o a P, w'.heap[k]? = w.heap[k]? := fun k hk => hb.block k (h.lt k hk) (hS k hk)
  obtain ⟨ko, ka, h1, h2, e⟩ := h.b
  exact ⟨⟨ko, ka, h1, h2, (hk B (by simp [bl])).trans e⟩, h.ro.put (hk o (by simp [bl])), h.ra.put (hk a (by simp [bl])), h.q.but hb (fun k hk => hS k (by unfold bl; exact List.mem_cons_of_mem _ (List.mem_cons_of_mem _ (List.mem_cons_of_mem _ hk)))), h.nd, h.ol, h.al⟩
theorem PM.keep (h : PM w B o a P n T σ) (hb : But [] w w') : PM w' B o a P n T σ := h.but hb (by simp)
/-- A call of the links, or any store into them. -/
theorem PM.lists {ls : List (List Nat)} (h : PM w B o a P n T σ) (q : LQ w' P T (n + n) ls) (hb : But P.S w w') : PM w' B o a P n T ⟨σ.own, ls, σ.ag⟩ := by
  obtain ⟨⟨_, _, n1⟩, ⟨_, n2⟩, n3⟩ := h.nes
  have sub : ∀ x, x ∉ [P.B, P.n, P.p, P.w, P.c] → x ∉ P.S := fun x hx hm => hx (List.mem_cons_of_mem _ hm)
  obtain ⟨ko, ka, h1, h2, e⟩ := h.b
  refine ⟨⟨ko, ka, h1, h2, (hb.block B (h.lt B (by simp [bl])) (sub _ n1)).trans e⟩, h.ro.put (hb.block o (h.lt o (by simp [bl])) (sub _ n2)), h.ra.put (hb.block a (h.lt a (by simp [bl])) (sub _ n3)), q, h.nd, h.ol, h.al⟩
theorem PM.setO (h : PM w B o a P n T σ) (j : Nat) (x : Int) : PM (w.setCell ⟨o, j, none⟩ (.int .i64 x)) B o a P n T ⟨σ.own.set j x, σ.ls, σ.ag⟩ := by
  obtain ⟨⟨n1, _, _⟩, ⟨n2, n3⟩, _⟩ := h.nes
  obtain ⟨ko, ka, h1, h2, e⟩ := h.b
  have hb : But [o] w (w.setCell ⟨o, j, none⟩ (.int .i64 x)) := (But.refl [o] w).set (by simp) _
  refine ⟨⟨ko, ka, h1, h2, (Below.heap_setCell w ⟨o, j, none⟩ _ B n1).trans e⟩, ?_, h.ra.other n2.symm _ _, h.q.but hb (fun k hk hm => by simp at hm; subst hm; exact n3 hk), h.nd, by simpa using h.ol, h.al⟩
  rw [List.map_set]
  exact h.ro.set j _
theorem PM.setA (h : PM w B o a P n T σ) (j x : Nat) : PM (w.setCell ⟨a, j, none⟩ (.int .i64 x)) B o a P n T ⟨σ.own, σ.ls, σ.ag.set j x⟩ := by
  obtain ⟨⟨_, n1, _⟩, ⟨n2, _⟩, n3⟩ := h.nes
  obtain ⟨ko, ka, h1, h2, e⟩ := h.b
  have hb : But [a] w (w.setCell ⟨a, j, none⟩ (.int .i64 x)) := (But.refl [a] w).set (by simp) _
  refine ⟨⟨ko, ka, h1, h2, (Below.heap_setCell w ⟨a, j, none⟩ _ B n1).trans e⟩, h.ro.other n2 _ _, ?_, h.q.but hb (fun k hk hm => by simp at hm; subst hm; exact n3 hk), h.nd, h.ol, by simpa using h.al⟩
  rw [List.map_set]
  exact h.ra.set j _
theorem PL.lt {Q : List Nat} (h : PL w B Q n T σ) : ∀ x ∈ Q, x < w.heap.size := by
  obtain ⟨o, a, P, rfl, h⟩ := h
  exact h.lt
theorem PL.but {Q S' : List Nat} (h : PL w B Q n T σ) (hb : But S' w w') (hd : Disj Q S') : PL w' B Q n T σ := by
  obtain ⟨o, a, P, rfl, h⟩ := h
  exact ⟨o, a, P, rfl, h.but hb hd⟩
/-- What lies among the locks' blocks. -/
theorem sub_S (B o a : Nat) (P : Pl) : ∀ x ∈ P.S, x ∈ bl B o a P := fun x hx => by
  simp [Pl.S] at hx
  simp [bl]
  rcases hx with rfl | rfl | rfl | rfl <;> simp
end
end Go.Proofs.Ytimoleijdfoahaa.Lq
