/- The reference's wheel: how it lies, and its New, Add, Cancel. -/
import Derived.Test.YtmjjghhlalaeiaaSkipM
namespace Go.Proofs.Ytmjjghhlalaeiaa
open Go.RowKit

/-- Where a wheel of the reference's lies. -/
structure Rp where
  B : Nat
  G : Nat
  c : Nat
def Rp.S (P : Rp) : List Nat := [P.B, P.G]

/-- A wheel of the reference's at n. -/
structure RQ (w : World) (P : Rp) (N n : Nat) (wh : List Nat) : Prop where
  b : Row w P.B 34 [.int .i64 N, .int .i64 n, .slice (some ⟨P.G, 0, none⟩) N P.c]
  g : Row w P.G 3 (wh.map iv)
  len : wh.length = N
  ne : P.B ≠ P.G
  n1 : 1 ≤ N
  n2 : N ≤ 4096

section
variable {w w' : World} {P : Rp} {N n : Nat} {wh : List Nat}
theorem RQ.c0 (h : RQ w P N n wh) : w.cell? ⟨P.B, 0, none⟩ = some (.int .i64 N) := h.b.cell rfl
theorem RQ.c1 (h : RQ w P N n wh) : w.cell? ⟨P.B, 1, none⟩ = some (.int .i64 n) := h.b.cell rfl
theorem RQ.c2 (h : RQ w P N n wh) : w.cell? ⟨P.B, 2, none⟩ = some (.slice (some ⟨P.G, 0, none⟩) N P.c) := h.b.cell rfl
theorem RQ.xg (h : RQ w P N n wh) {j : Nat} (hj : j < N) : w.cell? ⟨P.G, j, none⟩ = some (.int .i64 (wt wh j : Nat)) := by
  have hx : wh[j]? = some (wt wh j) := by unfold wt; rw [List.getD_eq_getElem?_getD, List.getElem?_eq_getElem (by rw [h.len]; exact hj)]; rfl
  exact h.g.cell (by rw [List.getElem?_map, hx]; rfl)
theorem RQ.lt (h : RQ w P N n wh) {k : Nat} (hk : k ∈ P.S) : k < w.heap.size := by
  simp [Rp.S] at hk
  rcases hk with rfl | rfl
  · exact h.b.lt
  · exact h.g.lt
theorem RQ.but {S : List Nat} (h : RQ w P N n wh) (hb : But S w w') (hS : ∀ k ∈ P.S, k ∉ S) : RQ w' P N n wh :=
  ⟨h.b.put (hb.block _ h.b.lt (hS _ (by simp [Rp.S]))), h.g.put (hb.block _ h.g.lt (hS _ (by simp [Rp.S]))), h.len, h.ne, h.n1, h.n2⟩
theorem RQ.keep (h : RQ w P N n wh) (hb : But [] w w') : RQ w' P N n wh := h.but hb (by simp)
theorem RQ.below (h : RQ w P N n wh) (hb : Below w.heap.size w w') : RQ w' P N n wh := h.keep (.of_below hb)
theorem RQ.setN (h : RQ w P N n wh) (m : Nat) : RQ (w.setCell ⟨P.B, 1, none⟩ (.int .i64 m)) P N m wh :=
  ⟨h.b.set 1 _, h.g.other (Ne.symm h.ne) _ _, h.len, h.ne, h.n1, h.n2⟩
theorem RQ.setW (h : RQ w P N n wh) (j x : Nat) : RQ (w.setCell ⟨P.G, j, none⟩ (.int .i64 x)) P N n (wh.set j x) := by
  refine ⟨h.b.other h.ne _ _, ?_, by simpa using h.len, h.ne, h.n1, h.n2⟩
  rw [List.map_set]
  exact h.g.set j (iv x)

theorem rnew_none (a : Int) (hm : inN 4096 (a - 1) = false) (w : World) :
    Calls Try.prog 10 #[.int .i64 a] w fun e w' => e = .returned (.pointer none) ∧ w' = w := by
  unfold inN at hm
  simp at hm
  by_cases h1 : a < 1
  · go_enter Try.func10, Try.ntmps10
    go_wp2_with fail
    go_ret
    exact ⟨rfl, rfl⟩
  · have h2 : 4096 < a := by omega
    go_enter Try.func10, Try.ntmps10
    go_wp2_with fail
    go_ret
    exact ⟨rfl, rfl⟩
theorem rnew_some (N : Nat) (h1 : 1 ≤ N) (h2 : N ≤ 4096) (w : World) :
    Calls Try.prog 10 #[.int .i64 N] w fun e w' => ∃ P : Rp, e = .returned (.pointer (some ⟨P.B, 0, none⟩)) ∧ RQ w' P N 0 (List.replicate N 0) ∧ (∀ k ∈ P.S, w.heap.size ≤ k) ∧ Below w.heap.size w w' := by
  have m1 := mk_int N (by omega)
  have a1 : (1 : Int) ≤ (N : Int) := by omega
  have a2 : (N : Int) ≤ 4096 := by omega
  have es : (w.alloc (.cells (madeCells #[.int .i64 0] N) 3)).heap.size = w.heap.size + 1 := by simp
  go_enter Try.func10, Try.ntmps10
  go_wp2_with fail
  go_ret
  refine ⟨⟨w.heap.size + 1, w.heap.size, N⟩, rfl, ⟨?_, ?_, by simp, by simp, h1, h2⟩, by simp [Rp.S], ((Below.refl _ w).alloc (Nat.le_refl _) _).alloc (by rw [es]; omega) _⟩
  · refine ⟨#[.int .i64 N, .int .i64 0, .slice (some ⟨w.heap.size, 0, none⟩) N N], ?_, fun j v hv => by simpa using hv⟩
    have := heap_alloc_new (w.alloc (.cells (madeCells #[.int .i64 0] N) 3)) (.cells #[.int .i64 N, .int .i64 0, .slice (some ⟨w.heap.size, 0, none⟩) N N] 34)
    rwa [es] at this
  · exact row_made (n := N) ((Below.heap_alloc _ _ _ (by rw [es]; show w.heap.size < _; omega)).trans (heap_alloc_new w _)) (by simp [iv])

set_option maxHeartbeats 4000000 in
theorem radd_bad (h : RQ w P N n wh) (t a : Int) (hb : addE N wh t a ≠ 0) :
    Calls Try.prog 27 #[.pointer (some ⟨P.B, 0, none⟩), .int .i64 t, .int .i64 a] w fun e w' => e = .returned (.int .i64 (addE N wh t a)) ∧ w' = w := by
  have c0 := h.c0
  have c2 := h.c2
  unfold addE at hb ⊢
  cases hi : inN N t with
  | false =>
    have hi' : t < 0 ∨ (N : Int) ≤ t := by unfold inN at hi; simp at hi; omega
    by_cases h0 : t < 0
    · go_enter Try.func27, Try.ntmps27
      go_wp2_with fail
      go_ret
      exact ⟨by simp, rfl⟩
    · have h0' : 0 ≤ t := by omega
      have h1 : (N : Int) ≤ t := by omega
      go_enter Try.func27, Try.ntmps27
      go_wp2_with fail
      go_ret
      exact ⟨by simp, rfl⟩
  | true =>
    obtain ⟨k, rfl, hk⟩ := inN_out hi
    have hk' : (k : Int) < (N : Int) := by omega
    have hk0 : (0 : Int) ≤ (k : Int) := by omega
    have cg := h.xg hk
    rw [hi] at hb
    rw [Int.toNat_natCast] at hb ⊢
    by_cases ha : a < 1
    · have e : inN 65535 (a - 1) = false := by unfold inN; simp; omega
      rw [e]
      clear hb
      go_enter Try.func27, Try.ntmps27
      go_wp2_with fail
      go_ret
      exact ⟨by simp, rfl⟩
    · by_cases ha2 : 65535 < a
      · have e : inN 65535 (a - 1) = false := by unfold inN; simp; omega
        rw [e]
        clear hb
        go_enter Try.func27, Try.ntmps27
        go_wp2_with fail
        go_ret
        exact ⟨by simp, rfl⟩
      · have e : inN 65535 (a - 1) = true := by unfold inN; simp; omega
        rw [e] at hb ⊢
        have h0 : wt wh k ≠ 0 := fun e => hb (by simp [e])
        have hgt : (0 : Int) < (wt wh k : Int) := by omega
        have eR : (if (true && true) = true then (if wt wh k = 0 then (0 : Int) else 5) else 8) = 5 := by simp [h0]
        rw [eR]
        have ha' : 1 ≤ a := by omega
        have ha2' : a ≤ 65535 := by omega
        clear hb h0 eR e hi ha ha2
        generalize (wt wh k : Int) = y at *
        go_enter Try.func27, Try.ntmps27
        go_wp2_with fail
        go_ret
        exact ⟨rfl, rfl⟩

set_option maxHeartbeats 4000000 in
theorem radd_good (h : RQ w P N n wh) (hT : Tm (n + 65535)) (t a : Nat) (ht : t < N) (h1 : 1 ≤ a) (h2 : a ≤ 65535) (h0 : wt wh t = 0) :
    Calls Try.prog 27 #[.pointer (some ⟨P.B, 0, none⟩), .int .i64 t, .int .i64 a] w fun e w' => e = .returned (.int .i64 0) ∧ RQ w' P N n (wh.set t (n + a)) ∧ But P.S w w' := by
  have c0 := h.c0
  have c1 := h.c1
  have c2 := h.c2
  have cg := h.xg ht
  rw [h0] at cg
  have fx := h.g.fz t
  have hne := h.ne
  have ewrap : IntKind.i64.wrap ((n : Int) + (a : Int)) = (n : Int) + (a : Int) := by
    have hTm : n + 65535 < 4000000000000000000 := hT
    rw [IntKind.wrap_i64] <;> omega
  have ewrap' : wrap64 ((n : Int) + (a : Int)) = (n : Int) + (a : Int) := by
    have hTm : n + 65535 < 4000000000000000000 := hT
    unfold wrap64
    omega
  have ht' : (t : Int) < (N : Int) := by omega
  have ht0 : (0 : Int) ≤ (t : Int) := by omega
  have ha' : (1 : Int) ≤ (a : Int) := by omega
  have ha2' : (a : Int) ≤ 65535 := by omega
  go_enter Try.func27, Try.ntmps27
  go_wp2_with fail
  go_region
  all_goals
    go_wp2_with fail
    go_ret
    exact ⟨rfl, (h.setW t (n + a)).keep (But.refl [] _).drew, ((But.refl P.S w).set (p := ⟨P.G, t, none⟩) (by simp [Rp.S]) _).drew⟩

theorem radd_any (h : RQ w P N n wh) (hT : Tm (n + 65535)) (t a : Int) :
    Calls Try.prog 27 #[.pointer (some ⟨P.B, 0, none⟩), .int .i64 t, .int .i64 a] w fun e w' => e = .returned (.int .i64 (addE N wh t a)) ∧ RQ w' P N n (addS N n wh t a) ∧ But P.S w w' := by
  unfold addS
  by_cases hz : addE N wh t a = 0
  · rw [if_pos hz]
    rw [hz]
    obtain ⟨k, b, rfl, rfl, h1, h2, h3, h4⟩ := addE_zero hz
    rw [Int.toNat_natCast, Int.toNat_natCast]
    exact radd_good h hT k b h1 h2 h3 h4
  · rw [if_neg hz]
    refine (radd_bad h t a hz).mono ?_
    rintro e w' ⟨rfl, rfl⟩
    exact ⟨rfl, h, But.refl _ _⟩

set_option maxHeartbeats 4000000 in
theorem rcancel_any (h : RQ w P N n wh) (t : Int) :
    Calls Try.prog 28 #[.pointer (some ⟨P.B, 0, none⟩), .int .i64 t] w fun e w' => e = .returned (.int .i64 (canE N wh t)) ∧ RQ w' P N n (canS N wh t) ∧ But P.S w w' := by
  have c0 := h.c0
  have c2 := h.c2
  have hne := h.ne
  unfold canS canE
  cases hi : inN N t with
  | false =>
    have hi' : t < 0 ∨ (N : Int) ≤ t := by unfold inN at hi; simp at hi; omega
    simp only [Bool.false_eq_true, if_false]
    rw [if_neg (by omega)]
    by_cases h0 : t < 0
    · go_enter Try.func28, Try.ntmps28
      go_wp2_with fail
      go_ret
      exact ⟨rfl, h, But.refl _ _⟩
    · have h0' : 0 ≤ t := by omega
      have h1 : (N : Int) ≤ t := by omega
      go_enter Try.func28, Try.ntmps28
      go_wp2_with fail
      go_ret
      exact ⟨rfl, h, But.refl _ _⟩
  | true =>
    obtain ⟨k, rfl, hk⟩ := inN_out hi
    have hk' : (k : Int) < (N : Int) := by omega
    have hk0 : (0 : Int) ≤ (k : Int) := by omega
    have cg := h.xg hk
    have fx := h.g.fz k
    rw [Int.toNat_natCast, if_pos rfl]
    by_cases h0 : wt wh k = 0
    · rw [if_pos h0, if_neg (by omega)]
      rw [h0] at cg
      clear hi h0
      go_enter Try.func28, Try.ntmps28
      go_wp2_with fail
      go_ret
      exact ⟨rfl, h, But.refl _ _⟩
    · rw [if_neg h0, if_pos rfl]
      have hnz : ((wt wh k : Nat) : Int) ≠ 0 := by omega
      have hnb : (((wt wh k : Nat) : Int) == 0) = false := by simpa using hnz
      clear hi h0
      generalize ((wt wh k : Nat) : Int) = y at *
      go_enter Try.func28, Try.ntmps28
      go_wp2_with fail
      go_ret
      exact ⟨rfl, h.setW k 0, (But.refl P.S w).set (p := ⟨P.G, k, none⟩) (by simp [Rp.S]) _⟩
end
end Go.Proofs.Ytmjjghhlalaeiaa
