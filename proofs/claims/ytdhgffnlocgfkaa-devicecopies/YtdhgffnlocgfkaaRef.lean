/- The reference's device in memory; contracts of its New, Result, Cancel, Same; of the statements' plain. -/
import Derived.Test.YtdhgffnlocgfkaaCan
namespace Go.Proofs.Ytdhgffnlocgfkaa
open Go.RowKit

/-- A device of the reference's: its own block M, the slice v of what stands. -/
structure RM (w : World) (M N : Nat) (v : Value) (la dn : Nat) (xs : List Rq) : Prop where
  b : w.heap[M]? = some (.cells #[.int .i64 N, v, .int .i64 la, .int .i64 dn] 36 (0, 0))
  h : Ow w 60 0 v xs
  vb : v.ownBlock ≠ some M
section
variable {w w' w2 : World} {M N la dn : Nat} {v v' : Value} {xs ys : List Rq}
theorem RM.lt (h : RM w M N v la dn xs) {x : Nat} (hx : x ∈ bks M v) : x < w.heap.size := by
  rcases bks_out hx with rfl | hx
  · exact (Array.getElem?_eq_some_iff.1 h.b).1
  · exact (h.h.lt hx).2
theorem RM.put (h : RM w M N v la dn xs) (hb : ∀ x ∈ bks M v, w'.heap[x]? = w.heap[x]?) : RM w' M N v la dn xs :=
  ⟨(hb M bks_B).trans h.b, h.h.put (fun _ hx => hb _ (bks_v hx)), h.vb⟩
theorem RM.but {S : List Nat} (h : RM w M N v la dn xs) (hb : But S w w') (hS : Disj (bks M v) S) : RM w' M N v la dn xs := h.put (fun x hx => hb.block x (h.lt hx) (hS x hx))
theorem RM.keep (h : RM w M N v la dn xs) (hb : But [] w w') : RM w' M N v la dn xs := h.but hb (by simp [Disj])
theorem RM.drew (h : RM w M N v la dn xs) : RM w.drew M N v la dn xs := h.keep (But.refl [] w).drew
theorem RM.c0 (h : RM w M N v la dn xs) : w.cell? ⟨M, 0, none⟩ = some (.int .i64 N) := by simp [World.cell?, h.b]
theorem RM.c1 (h : RM w M N v la dn xs) : w.cell? ⟨M, 1, none⟩ = some v := by simp [World.cell?, h.b]
theorem RM.c2 (h : RM w M N v la dn xs) : w.cell? ⟨M, 2, none⟩ = some (.int .i64 la) := by simp [World.cell?, h.b]
theorem RM.c3 (h : RM w M N v la dn xs) : w.cell? ⟨M, 3, none⟩ = some (.int .i64 dn) := by simp [World.cell?, h.b]
theorem RM.fb (h : RM w M N v la dn xs) (j : Nat) : w.frozen? ⟨M, j, none⟩ = false := by simp [World.frozen?, h.b]
theorem RM.setLa (h : RM w M N v la dn xs) {x : Int} (l' : Nat) (hx : x = l') : RM (w.setCell ⟨M, 2, none⟩ (.int .i64 x)) M N v l' dn xs := by
  subst hx
  refine ⟨?_, h.h.put (fun k hk => Below.heap_setCell w ⟨M, 2, none⟩ _ k (fun e => h.vb (by rw [hk, e]))), h.vb⟩
  have := heap_setCell_same w M 2 _ 36 (.int .i64 l') h.b
  rw [this]
  simp
theorem RM.setDn (h : RM w M N v la dn xs) {x : Int} (d' : Nat) (hx : x = d') : RM (w.setCell ⟨M, 3, none⟩ (.int .i64 x)) M N v la d' xs := by
  subst hx
  refine ⟨?_, h.h.put (fun k hk => Below.heap_setCell w ⟨M, 3, none⟩ _ k (fun e => h.vb (by rw [hk, e]))), h.vb⟩
  have := heap_setCell_same w M 3 _ 36 (.int .i64 d') h.b
  rw [this]
  simp
/-- Another row, all new. -/
theorem RM.row (h : RM w M N v la dn xs) (hb : But [] w w2) (ho : Ow w2 60 w.heap.size v' ys) :
    RM (w2.setCell ⟨M, 1, none⟩ v') M N v' la dn ys ∧ Step (bks M v) w (bks M v') (w2.setCell ⟨M, 1, none⟩ v') := by
  have lM := h.lt (x := M) bks_B
  have nM : v'.ownBlock ≠ some M := fun e => by have := (ho.lt e).1; omega
  have eM : w2.heap[M]? = _ := (hb.block M lM (by simp)).trans h.b
  refine ⟨⟨?_, (ho.lower (Nat.zero_le _)).put (fun x hx => Below.heap_setCell w2 ⟨M, 1, none⟩ _ x (fun e => nM (by rw [hx, e]))), nM⟩, hb.wide.set (p := ⟨M, 1, none⟩) bks_B _, fun x hx => ?_⟩
  · have := heap_setCell_same w2 M 1 _ 36 v' eM
    rw [this]
    simp
  · rcases bks_out hx with rfl | hx
    · exact .inl bks_B
    · exact .inr (ho.lt hx).1
theorem RM.shape (h : RM w M N v la dn xs) : ∃ a c, v = .slice a xs.length c ∧ RV w a xs ∧ xs.length ≤ c ∧ ((a = none ∧ xs.length = 0 ∧ c = 0) ∨ ∃ g, a = some ⟨g, 0, none⟩ ∧ g ≠ M) := by
  obtain ⟨a, c, e, h1, h2, h3⟩ := h.h.sl
  refine ⟨a, c, e, h2, h1, h3.imp id (fun ⟨g, e2, _⟩ => ⟨g, e2, fun e3 => h.vb (by rw [e, e2, e3]; rfl)⟩)⟩
end

/-- A device of the reference's at M, with blocks R. -/
def RQ (w : World) (M : Nat) (R : List Nat) (N la dn : Nat) (xs : List Rq) : Prop := ∃ v, R = bks M v ∧ RM w M N v la dn xs
section
variable {w w' : World} {M N la dn : Nat} {R : List Nat} {xs : List Rq}
theorem RQ.but {S : List Nat} (h : RQ w M R N la dn xs) (hb : But S w w') (hS : Disj R S) : RQ w' M R N la dn xs := by
  obtain ⟨v, rfl, hm⟩ := h
  exact ⟨v, rfl, hm.but hb hS⟩
theorem RQ.keep (h : RQ w M R N la dn xs) (hb : But [] w w') : RQ w' M R N la dn xs := h.but hb (by simp [Disj])
theorem RQ.below (h : RQ w M R N la dn xs) (hb : Below w.heap.size w w') : RQ w' M R N la dn xs := h.keep (.of_below hb)
theorem RQ.lt (h : RQ w M R N la dn xs) : ∀ x ∈ R, x < w.heap.size := by
  obtain ⟨v, rfl, hm⟩ := h
  exact fun x hx => hm.lt hx
end

theorem rnew_none (a : Int) (hm : inN a = false) (w : World) :
    Calls Try.prog 9 #[.int .i64 a] w fun e w' => e = .returned (.pointer none) ∧ w' = w := by
  unfold inN at hm
  simp at hm
  by_cases h1 : a < 1
  · go_enter Try.func9, Try.ntmps9
    go_wp2_with fail
    go_ret
    exact ⟨rfl, rfl⟩
  · have h2 : 4096 < a := by omega
    go_enter Try.func9, Try.ntmps9
    go_wp2_with fail
    go_ret
    exact ⟨rfl, rfl⟩
theorem rnew_some (N : Nat) (h1 : 1 ≤ N) (h2 : N ≤ 4096) (w : World) :
    Calls Try.prog 9 #[.int .i64 N] w fun e w' => ∃ M R, e = .returned (.pointer (some ⟨M, 0, none⟩)) ∧ RQ w' M R N 0 0 [] ∧ Step [] w R w' := by
  have a1 : (1 : Int) ≤ (N : Int) := by omega
  have a2 : (N : Int) ≤ 4096 := by omega
  go_enter Try.func9, Try.ntmps9
  go_wp2_with fail
  go_ret
  refine ⟨w.heap.size, _, rfl, ⟨.slice none 0 0, rfl, ⟨heap_alloc_new w _, Ow.nil _ _ _, (fun e => by cases e)⟩⟩, (But.refl [] w).alloc _, fun x hx => .inr ?_⟩
  rcases bks_out hx with rfl | hx
  · exact Nat.le_refl _
  · cases hx

theorem rresult_any (i s t k z : Int) (hk : k = 1 ∨ k = 2) (hz : 0 ≤ z ∧ z ≤ 1000) (w : World) :
    Calls Try.prog 37 #[.agg #[.int .i64 i, .int .i64 s, .int .i64 t, .int .i64 k, .int .i64 z]] w fun e w' => e = .returned (.int .i64 (resV (i, s, t, k, z))) ∧ Below w.heap.size w w' := by
  have hb : Below w.heap.size w (w.alloc (.cells #[.int .i64 i, .int .i64 s, .int .i64 t, .int .i64 k, .int .i64 z] 60)) := (Below.refl _ _).alloc (Nat.le_refl _) _
  rcases hk with rfl | rfl
  · have hg : resV (i, s, t, 1, z) = Int.tmod (Int.tmod i 1000 * 31 + z * 7) 1000 := by simp [resV]
    have a1 := Int.tmod_lt_of_pos i (b := 1000) (by omega)
    have a2 : -1000 < Int.tmod i 1000 := by
      have := Int.lt_tmod_of_pos i (b := 1000) (by omega)
      omega
    rw [hg]
    have w1 : IntKind.i64.wrap (Int.tmod i 1000 * 31) = Int.tmod i 1000 * 31 := by rw [IntKind.wrap_i64]; omega
    have w2 : IntKind.i64.wrap (z * 7) = z * 7 := by rw [IntKind.wrap_i64]; omega
    have w3 : IntKind.i64.wrap (Int.tmod i 1000 * 31 + z * 7) = Int.tmod i 1000 * 31 + z * 7 := by rw [IntKind.wrap_i64]; omega
    go_enter Try.func37, Try.ntmps37
    go_wp2_with fail
    go_ret
    exact ⟨rfl, hb⟩
  · have hg : resV (i, s, t, 2, z) = z := by simp [resV]
    rw [hg]
    go_enter Try.func37, Try.ntmps37
    go_wp2_with fail
    go_ret
    exact ⟨rfl, hb⟩
end Go.Proofs.Ytdhgffnlocgfkaa
