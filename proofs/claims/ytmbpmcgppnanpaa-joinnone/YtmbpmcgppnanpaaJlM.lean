/- The program's ends as they lie in memory: what is known by places, links, the ids by places. -/
import Derived.Test.YtmbpmcgppnanpaaJkP
namespace Go.Proofs.Ytmbpmcgppnanpaa.Jl
open Go Go.RowKit Go.Proofs.Ytmbpmcgppnanpaa.Bs Go.Proofs.Ytmbpmcgppnanpaa.Jn
open Go.Proofs.Ytmbpmcgppnanpaa.Ids (right indexI ageI idI index_any)
open Go.Proofs.Ytmbpmcgppnanpaa.Lk (LQ Pl iv ints)

/-- What is kept of a place: its state; its value. -/
def stN (r : Rw) : Int := if r.id = 0 then 0 else if r.en then 2 else 1
def vaN (r : Rw) : Int := if r.en then r.va else 0
def kce (r : Rw) : Nat → Value
  | 0 => .int .i64 r.id
  | 1 => .int .i64 (stN r)
  | _ => .int .i64 (vaN r)
/-- Such a struct. -/
def agK (a b c : Int) : Value := .agg #[.int .i64 a, .int .i64 b, .int .i64 c]
def Kb (w : World) (t n : Nat) (σ : St) : Prop := ∃ cur : Array Value, w.heap[t]? = some (.cells cur 64 (0, 0)) ∧ ∀ i k, i < n → k < 3 → cur[i * 3 + k]? = some (kce (rw σ i) k)
section
variable {w w' : World} {t n : Nat} {σ : St}
theorem Kb.lt (h : Kb w t n σ) : t < w.heap.size := by
  obtain ⟨cur, h, _⟩ := h
  exact (Array.getElem?_eq_some_iff.1 h).1
theorem Kb.cell (h : Kb w t n σ) {i k : Nat} (hi : i < n) (hk : k < 3) : w.cell? ⟨t, i * 3 + k, none⟩ = some (kce (rw σ i) k) := by
  obtain ⟨cur, h, q⟩ := h
  simp [World.cell?, h, q i k hi hk]
theorem Kb.fz (h : Kb w t n σ) (j : Nat) : w.frozen? ⟨t, j, none⟩ = false := by
  obtain ⟨cur, h, _⟩ := h
  simp [World.frozen?, h]
theorem Kb.put (h : Kb w t n σ) (e : w'.heap[t]? = w.heap[t]?) : Kb w' t n σ := by
  obtain ⟨cur, h, k⟩ := h
  exact ⟨cur, e.trans h, k⟩
/-- A place's struct is stored. -/
theorem Kb.row (h : Kb w t n σ) (hl : σ.length = n) {i : Nat} (hi : i < n) (r : Rw) : Kb (((w.setCell ⟨t, i * 3, none⟩ (.int .i64 r.id)).setCell ⟨t, i * 3 + 1, none⟩ (.int .i64 (stN r))).setCell ⟨t, i * 3 + 2, none⟩ (.int .i64 (vaN r))) t n (σ.set i r) := by
  obtain ⟨cur, h, q⟩ := h
  refine ⟨_, heap_setCell_same _ t (i * 3 + 2) _ _ _ (heap_setCell_same _ t (i * 3 + 1) _ _ _ (heap_setCell_same w t (i * 3) _ _ _ h)), fun i' k' hi' hk' => ?_⟩
  have hs : rw (σ.set i r) i' = if i' = i then r else rw σ i' := getD_set (by rw [hl]; exact hi)
  rw [hs]
  have l0 : i * 3 < cur.size := (Array.getElem?_eq_some_iff.1 (q i 0 hi (by omega))).1
  have l1 := (Array.getElem?_eq_some_iff.1 (q i 1 hi (by omega))).1
  have l2 := (Array.getElem?_eq_some_iff.1 (q i 2 hi (by omega))).1
  by_cases e : i' = i
  · subst e
    rw [if_pos rfl]
    have e : k' = 0 ∨ k' = 1 ∨ k' = 2 := by omega
    rcases e with e | e | e <;> rw [e]
    · rw [Array.getElem?_setIfInBounds_ne (by omega), Array.getElem?_setIfInBounds_ne (by omega)]
      simp [l0, kce]
    · rw [Array.getElem?_setIfInBounds_ne (by omega)]
      simp [l1, kce]
    · simp [l2, kce]
  · rw [if_neg e, ← q i' k' hi' hk', Array.getElem?_setIfInBounds_ne (by omega), Array.getElem?_setIfInBounds_ne (by omega), Array.getElem?_setIfInBounds_ne (by omega)]
end
/-- The blocks of ends: their own, what is known, the ids', and those of their links. -/
def bl (B t j : Nat) (P : Pl) : List Nat := [B, t, j, P.B, P.n, P.p, P.w, P.c]
structure PM (w : World) (B t j : Nat) (P : Pl) (n : Nat) (σ : St) (ls : List (List Nat)) (wt : List Int) : Prop where
  b : ∃ kt kj, n ≤ kt ∧ n ≤ kj ∧ w.heap[B]? = some (.cells #[.slice (some ⟨t, 0, none⟩) n kt, .pointer (some ⟨P.B, 0, none⟩), .slice (some ⟨j, 0, none⟩) n kj] 52 (0, 0))
  g : Kb w t n σ
  rj : Row w j 3 (wt.map (Value.int .i64))
  q : LQ w P n n ls
  nd : (bl B t j P).Nodup
  sl : σ.length = n
  wl : wt.length = n
/-- And they mean that. -/
def PL (w : World) (B : Nat) (Q : List Nat) (n : Nat) (σ : St) : Prop := ∃ t j P ls wt, Q = bl B t j P ∧ PM w B t j P n σ ls wt ∧ Li n σ ls wt

section
variable {w w' : World} {B t j n : Nat} {P : Pl} {σ : St} {ls : List (List Nat)} {wt : List Int}
theorem PM.c1 (h : PM w B t j P n σ ls wt) : w.cell? ⟨B, 1, none⟩ = some (.pointer (some ⟨P.B, 0, none⟩)) := by
  obtain ⟨_, _, _, _, hb⟩ := h.b
  simp [World.cell?, hb]
theorem PM.c0 (h : PM w B t j P n σ ls wt) : ∃ k, n ≤ k ∧ w.cell? ⟨B, 0, none⟩ = some (.slice (some ⟨t, 0, none⟩) n k) := by
  obtain ⟨kt, _, h1, _, hb⟩ := h.b
  exact ⟨kt, h1, by simp [World.cell?, hb]⟩
theorem PM.c2 (h : PM w B t j P n σ ls wt) : ∃ k, n ≤ k ∧ w.cell? ⟨B, 2, none⟩ = some (.slice (some ⟨j, 0, none⟩) n k) := by
  obtain ⟨_, kj, _, h1, hb⟩ := h.b
  exact ⟨kj, h1, by simp [World.cell?, hb]⟩
theorem PM.r0 (h : PM w B t j P n σ ls wt) {i : Nat} (hi : i < n) : w.cell? ⟨t, i * 3, none⟩ = some (.int .i64 (rw σ i).id) := h.g.cell (k := 0) hi (by omega)
theorem PM.r1 (h : PM w B t j P n σ ls wt) {i : Nat} (hi : i < n) : w.cell? ⟨t, i * 3 + 1, none⟩ = some (.int .i64 (stN (rw σ i))) := h.g.cell (k := 1) hi (by omega)
theorem PM.r2 (h : PM w B t j P n σ ls wt) {i : Nat} (hi : i < n) : w.cell? ⟨t, i * 3 + 2, none⟩ = some (.int .i64 (vaN (rw σ i))) := h.g.cell (k := 2) hi (by omega)
theorem PM.xj (h : PM w B t j P n σ ls wt) {p : Nat} (hp : p < n) : w.cell? ⟨j, p, none⟩ = some (.int .i64 (wtI wt p)) :=
  h.rj.cell (by rw [List.getElem?_map, get_of (d := 0) (by rw [h.wl]; exact hp)]; rfl)
theorem PM.ft (h : PM w B t j P n σ ls wt) (i : Nat) : w.frozen? ⟨t, i, none⟩ = false := h.g.fz i
theorem PM.fj (h : PM w B t j P n σ ls wt) (i : Nat) : w.frozen? ⟨j, i, none⟩ = false := h.rj.fz i
theorem PM.nes (h : PM w B t j P n σ ls wt) : (B ≠ t ∧ B ≠ j ∧ B ∉ [P.B, P.n, P.p, P.w, P.c]) ∧ (t ≠ j ∧ t ∉ [P.B, P.n, P.p, P.w, P.c]) ∧ j ∉ [P.B, P.n, P.p, P.w, P.c] := by
  obtain ⟨m1, k1⟩ := List.nodup_cons.1 h.nd
  obtain ⟨m2, k2⟩ := List.nodup_cons.1 k1
  obtain ⟨m3, -⟩ := List.nodup_cons.1 k2
  exact ⟨⟨fun e => m1 (by rw [e]; simp), fun e => m1 (by rw [e]; simp), fun hm => m1 (List.mem_cons_of_mem _ (List.mem_cons_of_mem _ hm))⟩, ⟨fun e => m2 (by rw [e]; simp), fun hm => m2 (List.mem_cons_of_mem _ hm)⟩, m3⟩
theorem PM.lt (h : PM w B t j P n σ ls wt) : ∀ x ∈ bl B t j P, x < w.heap.size := by
  intro x hx
  unfold bl at hx
  rcases List.mem_cons.1 hx with rfl | hx
  · obtain ⟨_, _, _, _, hb⟩ := h.b
    exact (Array.getElem?_eq_some_iff.1 hb).1
  rcases List.mem_cons.1 hx with rfl | hx
  · exact h.g.lt
  rcases List.mem_cons.1 hx with rfl | hx
  · exact h.rj.lt
  · exact h.q.lt5 hx
theorem PM.but {S' : List Nat} (h : PM w B t j P n σ ls wt) (hb : But S' w w') (hS : ∀ k ∈ bl B t j P, k ∉ S') : PM w' B t j P n σ ls wt := by
  have hk : ∀ k ∈ bl B t j P, w'.heap[k]? = w.heap[k]? := fun k hk => hb.block k (h.lt k hk) (hS k hk)
  obtain ⟨ko, ka, h1, h2, e⟩ := h.b
  exact ⟨⟨ko, ka, h1, h2, (hk B (by simp [bl])).trans e⟩, h.g.put (hk t (by simp [bl])), h.rj.put (hk j (by simp [bl])), h.q.but hb (fun k hk => hS k (by unfold bl; exact List.mem_cons_of_mem _ (List.mem_cons_of_mem _ (List.mem_cons_of_mem _ hk)))), h.nd, h.sl, h.wl⟩
theorem PM.keep (h : PM w B t j P n σ ls wt) (hb : But [] w w') : PM w' B t j P n σ ls wt := h.but hb (by simp)
theorem PM.below (h : PM w B t j P n σ ls wt) (hb : Below w.heap.size w w') : PM w' B t j P n σ ls wt := h.keep (.of_below hb)
/-- A call of the links. -/
theorem PM.lists {l2 : List (List Nat)} (h : PM w B t j P n σ ls wt) (q : LQ w' P n n l2) (hb : But P.S w w') : PM w' B t j P n σ l2 wt := by
  obtain ⟨⟨_, _, n1⟩, ⟨_, n2⟩, n3⟩ := h.nes
  have sub : ∀ x, x ∉ [P.B, P.n, P.p, P.w, P.c] → x ∉ P.S := fun x hx hm => hx (List.mem_cons_of_mem _ hm)
  obtain ⟨ko, ka, h1, h2, e⟩ := h.b
  exact ⟨⟨ko, ka, h1, h2, (hb.block B (h.lt B (by simp [bl])) (sub _ n1)).trans e⟩, h.g.put (hb.block t (h.lt t (by simp [bl])) (sub _ n2)), h.rj.put (hb.block j (h.lt j (by simp [bl])) (sub _ n3)), q, h.nd, h.sl, h.wl⟩
/-- What is known of a place is stored; the id at one is. -/
theorem PM.setK (h : PM w B t j P n σ ls wt) {i : Nat} (hi : i < n) (r : Rw) : PM (((w.setCell ⟨t, i * 3, none⟩ (.int .i64 r.id)).setCell ⟨t, i * 3 + 1, none⟩ (.int .i64 (stN r))).setCell ⟨t, i * 3 + 2, none⟩ (.int .i64 (vaN r))) B t j P n (σ.set i r) ls wt := by
  obtain ⟨⟨n1, _, _⟩, ⟨n2, n3⟩, _⟩ := h.nes
  obtain ⟨ko, ka, h1, h2, e⟩ := h.b
  have hb : But [t] w (((w.setCell ⟨t, i * 3, none⟩ (.int .i64 r.id)).setCell ⟨t, i * 3 + 1, none⟩ (.int .i64 (stN r))).setCell ⟨t, i * 3 + 2, none⟩ (.int .i64 (vaN r))) := (((But.refl [t] w).set (by simp) _).set (by simp) _).set (by simp) _
  refine ⟨⟨ko, ka, h1, h2, (hb.block B (h.lt B (by simp [bl])) (by simpa using n1)).trans e⟩, h.g.row h.sl hi r, h.rj.put (hb.block j (h.lt j (by simp [bl])) (by simpa using n2.symm)), h.q.but hb (fun k hk hm => by simp at hm; subst hm; exact n3 hk), h.nd, by simpa using h.sl, h.wl⟩
theorem PM.setJ (h : PM w B t j P n σ ls wt) (p : Nat) (x : Int) : PM (w.setCell ⟨j, p, none⟩ (.int .i64 x)) B t j P n σ ls (wt.set p x) := by
  obtain ⟨⟨_, n1, _⟩, ⟨n2, _⟩, n3⟩ := h.nes
  obtain ⟨ko, ka, h1, h2, e⟩ := h.b
  have hb : But [j] w (w.setCell ⟨j, p, none⟩ (.int .i64 x)) := (But.refl [j] w).set (by simp) _
  refine ⟨⟨ko, ka, h1, h2, (Below.heap_setCell w ⟨j, p, none⟩ _ B n1).trans e⟩, h.g.put (Below.heap_setCell w ⟨j, p, none⟩ _ t n2), ?_, h.q.but hb (fun k hk hm => by simp at hm; subst hm; exact n3 hk), h.nd, h.sl, by simpa using h.wl⟩
  rw [List.map_set]
  exact h.rj.set p _
theorem PL.lt {Q : List Nat} (h : PL w B Q n σ) : ∀ x ∈ Q, x < w.heap.size := by
  obtain ⟨t, j, P, ls, wt, rfl, h, -⟩ := h
  exact h.lt
theorem PL.but {Q S' : List Nat} (h : PL w B Q n σ) (hb : But S' w w') (hd : Disj Q S') : PL w' B Q n σ := by
  obtain ⟨t, j, P, ls, wt, rfl, h, l⟩ := h
  exact ⟨t, j, P, ls, wt, rfl, h.but hb hd, l⟩
theorem sub_S (B t j : Nat) (P : Pl) : ∀ x ∈ P.S, x ∈ bl B t j P := fun x hx => by
  simp [Pl.S] at hx
  simp [bl]
  rcases hx with rfl | rfl | rfl | rfl <;> simp
end
end Go.Proofs.Ytmbpmcgppnanpaa.Jl
