/- A device in memory; contracts of made, good, result, New. -/
import Derived.Test.YtdhgffnlocgfkaaMem
namespace Go.Proofs.Ytdhgffnlocgfkaa
open Go.RowKit

/-- A device of the program's: its own block B, the slice v of what stands. -/
structure DM (w : World) (B N : Nat) (v : Value) (la dn : Nat) (xs : List Rq) : Prop where
  b : w.heap[B]? = some (.cells #[.int .i64 N, .int .i64 la, .int .i64 dn, v] 54 (0, 0))
  h : Ow w 29 0 v xs
  vb : v.ownBlock ≠ some B
  n1 : 1 ≤ N
  n2 : N ≤ 4096
/-- Its blocks. -/
def bks (B : Nat) (v : Value) : List Nat := B :: v.ownBlock.toList
theorem bks_B {B : Nat} {v : Value} : B ∈ bks B v := by simp [bks]
theorem bks_v {B : Nat} {v : Value} {k : Nat} (h : v.ownBlock = some k) : k ∈ bks B v := by simp [bks, h]
theorem bks_out {B : Nat} {v : Value} {k : Nat} (h : k ∈ bks B v) : k = B ∨ v.ownBlock = some k := by
  simp [bks] at h
  exact h
section
variable {w w' : World} {B N la dn : Nat} {v : Value} {xs : List Rq}
theorem DM.lt (h : DM w B N v la dn xs) {x : Nat} (hx : x ∈ bks B v) : x < w.heap.size := by
  rcases bks_out hx with rfl | hx
  · exact (Array.getElem?_eq_some_iff.1 h.b).1
  · exact (h.h.lt hx).2
theorem DM.put (h : DM w B N v la dn xs) (hb : ∀ x ∈ bks B v, w'.heap[x]? = w.heap[x]?) : DM w' B N v la dn xs :=
  ⟨(hb B bks_B).trans h.b, h.h.put (fun _ hx => hb _ (bks_v hx)), h.vb, h.n1, h.n2⟩
theorem DM.but {S : List Nat} (h : DM w B N v la dn xs) (hb : But S w w') (hS : Disj (bks B v) S) : DM w' B N v la dn xs := h.put (fun x hx => hb.block x (h.lt hx) (hS x hx))
theorem DM.keep (h : DM w B N v la dn xs) (hb : But [] w w') : DM w' B N v la dn xs := h.but hb (by simp [Disj])
theorem DM.drew (h : DM w B N v la dn xs) : DM w.drew B N v la dn xs := h.keep (But.refl [] w).drew
theorem DM.c0 (h : DM w B N v la dn xs) : w.cell? ⟨B, 0, none⟩ = some (.int .i64 N) := by simp [World.cell?, h.b]
theorem DM.c1 (h : DM w B N v la dn xs) : w.cell? ⟨B, 1, none⟩ = some (.int .i64 la) := by simp [World.cell?, h.b]
theorem DM.c2 (h : DM w B N v la dn xs) : w.cell? ⟨B, 2, none⟩ = some (.int .i64 dn) := by simp [World.cell?, h.b]
theorem DM.c3 (h : DM w B N v la dn xs) : w.cell? ⟨B, 3, none⟩ = some v := by simp [World.cell?, h.b]
theorem DM.fb (h : DM w B N v la dn xs) (j : Nat) : w.frozen? ⟨B, j, none⟩ = false := by simp [World.frozen?, h.b]
end

/-- A device of the program's at B, with blocks T. -/
def DQ (w : World) (B : Nat) (T : List Nat) (N la dn : Nat) (xs : List Rq) : Prop := ∃ v, T = bks B v ∧ DM w B N v la dn xs ∧ xs.length ≤ N ∧ OkS la xs
section
variable {w w' : World} {B N la dn : Nat} {T : List Nat} {xs : List Rq}
theorem DQ.but {S : List Nat} (h : DQ w B T N la dn xs) (hb : But S w w') (hS : Disj T S) : DQ w' B T N la dn xs := by
  obtain ⟨v, rfl, hm, hl, ho⟩ := h
  exact ⟨v, rfl, hm.but hb hS, hl, ho⟩
theorem DQ.keep (h : DQ w B T N la dn xs) (hb : But [] w w') : DQ w' B T N la dn xs := h.but hb (by simp [Disj])
theorem DQ.below (h : DQ w B T N la dn xs) (hb : Below w.heap.size w w') : DQ w' B T N la dn xs := h.keep (.of_below hb)
theorem DQ.lt (h : DQ w B T N la dn xs) : ∀ x ∈ T, x < w.heap.size := by
  obtain ⟨v, rfl, hm, hl, ho⟩ := h
  exact fun x hx => hm.lt hx
theorem DQ.len (h : DQ w B T N la dn xs) : xs.length ≤ N ∧ N ≤ 4096 := by
  obtain ⟨v, rfl, hm, hl, ho⟩ := h
  exact ⟨hl, hm.n2⟩
theorem DQ.ok (h : DQ w B T N la dn xs) : OkS la xs := by
  obtain ⟨v, rfl, hm, hl, ho⟩ := h
  exact ho
end

/-- Whether there is such a number of places. -/
def inN (a : Int) : Bool := decide (1 ≤ a ∧ a ≤ 4096)

theorem new_none (a : Int) (hm : inN a = false) (w : World) :
    Calls Try.prog 8 #[.int .i64 a] w fun e w' => e = .returned (.pointer none) ∧ w' = w := by
  unfold inN at hm
  simp at hm
  by_cases h1 : a < 1
  · go_enter Try.func8, Try.ntmps8
    go_wp2_with fail
    go_ret
    exact ⟨rfl, rfl⟩
  · have h2 : 4096 < a := by omega
    go_enter Try.func8, Try.ntmps8
    go_wp2_with fail
    go_ret
    exact ⟨rfl, rfl⟩
theorem new_some (N : Nat) (h1 : 1 ≤ N) (h2 : N ≤ 4096) (w : World) :
    Calls Try.prog 8 #[.int .i64 N] w fun e w' => ∃ B T, e = .returned (.pointer (some ⟨B, 0, none⟩)) ∧ DQ w' B T N 0 0 [] ∧ Step [] w T w' := by
  have a1 : (1 : Int) ≤ (N : Int) := by omega
  have a2 : (N : Int) ≤ 4096 := by omega
  go_enter Try.func8, Try.ntmps8
  go_wp2_with fail
  go_ret
  refine ⟨w.heap.size, _, rfl, ⟨.slice none 0 0, rfl, ⟨heap_alloc_new w _, Ow.nil _ _ _, (fun e => by cases e), h1, h2⟩, by simp, OkS.nil _⟩, (But.refl [] w).alloc _, fun x hx => .inr ?_⟩
  rcases bks_out hx with rfl | hx
  · exact Nat.le_refl _
  · cases hx

theorem made_any {w : World} {B N la dn : Nat} {v : Value} {xs : List Rq} (h : DM w B N v la dn xs) :
    Calls Try.prog 29 #[.pointer (some ⟨B, 0, none⟩)] w fun e w' => e = .returned (.bool true) ∧ w' = w := by
  have c0 := h.c0
  have h1 : 0 < N := h.n1
  go_enter Try.func29, Try.ntmps29
  go_wp2_with fail
  go_ret
  exact ⟨rfl, rfl⟩
theorem made_nil (w : World) :
    Calls Try.prog 29 #[.pointer none] w fun e w' => e = .returned (.bool false) ∧ w' = w := by
  go_enter Try.func29, Try.ntmps29
  go_wp2_with fail
  go_ret
  exact ⟨rfl, rfl⟩
theorem made_zero {w : World} {B : Nat} (c0 : w.cell? ⟨B, 0, none⟩ = some (.int .i64 0)) :
    Calls Try.prog 29 #[.pointer (some ⟨B, 0, none⟩)] w fun e w' => e = .returned (.bool false) ∧ w' = w := by
  go_enter Try.func29, Try.ntmps29
  go_wp2_with fail
  go_ret
  exact ⟨rfl, rfl⟩

/-- A request as a value. -/
def a5 (r : Rq) : Value := .agg #[.int .i64 r.1, .int .i64 r.2.1, .int .i64 r.2.2.1, .int .i64 r.2.2.2.1, .int .i64 r.2.2.2.2]

theorem good_any (i s t k z : Int) (w : World) :
    Calls Try.prog 30 #[.agg #[.int .i64 i, .int .i64 s, .int .i64 t, .int .i64 k, .int .i64 z]] w fun e w' => e = .returned (.bool (goodB (i, s, t, k, z))) ∧ Below w.heap.size w w' := by
  have hb : Below w.heap.size w (w.alloc (.cells #[.int .i64 i, .int .i64 s, .int .i64 t, .int .i64 k, .int .i64 z] 29)) := (Below.refl _ _).alloc (Nat.le_refl _) _
  by_cases h1 : 0 ≤ s
  · by_cases h2 : 0 ≤ t
    · by_cases h3 : k = 1
      · subst h3
        by_cases h4 : 0 ≤ z
        · by_cases h5 : z ≤ 1000
          · have hg : goodB (i, s, t, 1, z) = true := by rw [goodB_iff]; simp; omega
            rw [hg]
            go_enter Try.func30, Try.ntmps30
            go_wp2_with fail
            go_ret
            exact ⟨rfl, hb⟩
          · have hg : goodB (i, s, t, 1, z) = false := by unfold goodB; simp; omega
            rw [hg]
            go_enter Try.func30, Try.ntmps30
            go_wp2_with fail
            go_ret
            exact ⟨rfl, hb⟩
        · have hg : goodB (i, s, t, 1, z) = false := by unfold goodB; simp; omega
          rw [hg]
          go_enter Try.func30, Try.ntmps30
          go_wp2_with fail
          go_ret
          exact ⟨rfl, hb⟩
      · have h3' : (k == 1) = false := by simpa using h3
        by_cases h6 : k = 2
        · subst h6
          by_cases h4 : 0 ≤ z
          · by_cases h5 : z ≤ 1000
            · have hg : goodB (i, s, t, 2, z) = true := by rw [goodB_iff]; simp; omega
              rw [hg]
              go_enter Try.func30, Try.ntmps30
              go_wp2_with fail
              go_ret
              exact ⟨rfl, hb⟩
            · have hg : goodB (i, s, t, 2, z) = false := by unfold goodB; simp; omega
              rw [hg]
              go_enter Try.func30, Try.ntmps30
              go_wp2_with fail
              go_ret
              exact ⟨rfl, hb⟩
          · have hg : goodB (i, s, t, 2, z) = false := by unfold goodB; simp; omega
            rw [hg]
            go_enter Try.func30, Try.ntmps30
            go_wp2_with fail
            go_ret
            exact ⟨rfl, hb⟩
        · have h6' : (k == 2) = false := by simpa using h6
          have hg : goodB (i, s, t, k, z) = false := by unfold goodB; simp; omega
          rw [hg]
          go_enter Try.func30, Try.ntmps30
          go_wp2_with fail
          go_ret
          exact ⟨rfl, hb⟩
    · have hg : goodB (i, s, t, k, z) = false := by unfold goodB; simp; omega
      rw [hg]
      go_enter Try.func30, Try.ntmps30
      go_wp2_with fail
      go_ret
      exact ⟨rfl, hb⟩
  · have hg : goodB (i, s, t, k, z) = false := by unfold goodB; simp; omega
    rw [hg]
    go_enter Try.func30, Try.ntmps30
    go_wp2_with fail
    go_ret
    exact ⟨rfl, hb⟩

theorem result_any (i s t k z : Int) (hz : 0 ≤ z ∧ z ≤ 1000) (w : World) :
    Calls Try.prog 32 #[.agg #[.int .i64 i, .int .i64 s, .int .i64 t, .int .i64 k, .int .i64 z]] w fun e w' => e = .returned (.int .i64 (resV (i, s, t, k, z))) ∧ Below w.heap.size w w' := by
  have hb : Below w.heap.size w (w.alloc (.cells #[.int .i64 i, .int .i64 s, .int .i64 t, .int .i64 k, .int .i64 z] 29)) := (Below.refl _ _).alloc (Nat.le_refl _) _
  by_cases h3 : k = 2
  · subst h3
    have hg : resV (i, s, t, 2, z) = z := by simp [resV]
    rw [hg]
    go_enter Try.func32, Try.ntmps32
    go_wp2_with fail
    go_ret
    exact ⟨rfl, hb⟩
  · have h3' : (k == 2) = false := by simpa using h3
    have hg : resV (i, s, t, k, z) = Int.tmod (Int.tmod i 1000 * 31 + z * 7) 1000 := by simp [resV, h3]
    have a1 := Int.tmod_lt_of_pos i (b := 1000) (by omega)
    have a2 : -1000 < Int.tmod i 1000 := by
      have := Int.lt_tmod_of_pos i (b := 1000) (by omega)
      omega
    rw [hg]
    have w1 : IntKind.i64.wrap (Int.tmod i 1000 * 31) = Int.tmod i 1000 * 31 := by rw [IntKind.wrap_i64]; omega
    have w2 : IntKind.i64.wrap (z * 7) = z * 7 := by rw [IntKind.wrap_i64]; omega
    have w3 : IntKind.i64.wrap (Int.tmod i 1000 * 31 + z * 7) = Int.tmod i 1000 * 31 + z * 7 := by rw [IntKind.wrap_i64]; omega
    go_enter Try.func32, Try.ntmps32
    go_wp2_with fail
    go_ret
    exact ⟨rfl, hb⟩
end Go.Proofs.Ytdhgffnlocgfkaa
