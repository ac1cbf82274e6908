/- The contract of a made queue's Copy. -/
import Derived.Test.YtfobfkidpdlkeaaLall
namespace Go.Proofs.Ytfobfkidpdlkeaa
open Go.RowKit

theorem new_rm (n : Nat) (h1 : 1 ≤ n) (h2 : n ≤ 4096) (w : World) :
    Calls Try.prog 8 #[.int .i64 n] w fun e w' => e = .returned (.pointer (some ⟨w.heap.size + 1, 0, none⟩)) ∧ RM w' (w.heap.size + 1) w.heap.size n 0 0 (List.replicate n 0) ∧ Below w.heap.size w w' := by
  have hmk := mk_int n h2
  go_enter Try.func8, Try.ntmps8
  go_wp2_with fail
  go_ret
  refine ⟨by simp, ⟨?_, ?_, by omega, by simp, h1, h2, by omega, by simp⟩, ((Below.refl _ w).alloc (Nat.le_refl _) _).alloc (by simp) _⟩
  · have := heap_alloc_new (w.alloc (.cells (madeCells #[.int .i64 0] n) 3)) (.cells #[.slice (some ⟨w.heap.size, 0, none⟩) n n, .int .i64 0, .int .i64 0] 50)
    rw [World.size_alloc] at this
    exact this
  · rw [Below.heap_alloc _ _ _ (by simp), heap_alloc_new]
    have e : madeCells #[.int .i64 0] n = (List.map (Value.int .i64) (List.replicate n 0)).toArray := by
      apply Array.ext'
      rw [toList_madeCells_one]
      simp
    rw [e]

theorem copy_any {w : World} {B G n : Nat} {q : List Int} (h : RQ w B G n q) :
    Calls Try.prog 23 #[.pointer (some ⟨B, 0, none⟩)] w fun e w' => e = .returned (.pointer (some ⟨w.heap.size + 1, 0, none⟩)) ∧ RQ w' (w.heap.size + 1) w.heap.size n q ∧ Below w.heap.size w w' := by
  obtain ⟨l1, l2, l3⟩ := h.le
  obtain ⟨b1, b2, b3⟩ := h.lt
  obtain ⟨f, xs, hr, hk⟩ := id h
  have c0 := hr.c0
  have NW := new_rm n l3 l2 w
  -- what copyTo does to the new slots
  have CP : ∀ W, Below w.heap.size w W → RowAt W w.heap.size (List.replicate n 0) → Calls Try.prog 34 #[.pointer (some ⟨B, 0, none⟩), .slice (some ⟨w.heap.size, 0, none⟩) n n] W fun e w' => (∃ r, e = .returned r) ∧ RowAt w' w.heap.size (q ++ List.replicate (n - q.length) 0) ∧ But [w.heap.size] W w' := by
    intro W hW hrow
    by_cases hq : 0 < q.length
    · refine (copy_to (h.below hW) hq w.heap.size n n _ hrow l1 (by simp) (Nat.le_refl _) (by omega) (by omega) (by omega)).mono ?_
      rintro e w' ⟨hr, hrow, hb⟩
      refine ⟨hr, ?_, hb⟩
      rw [List.drop_replicate] at hrow
      exact hrow
    · obtain rfl : q = [] := List.eq_nil_of_length_eq_zero (by omega)
      refine (copy_nothing (h.below hW) _).mono ?_
      rintro e w' ⟨hr', rfl⟩
      exact ⟨hr', by simpa using hrow, But.refl _ _⟩
  have hM := made_any hr
  have hkd : Holds (q ++ List.replicate (n - q.length) 0) n 0 q := by
    intro i x hx
    have hi := (List.getElem?_eq_some_iff.1 hx).1
    rw [Nat.zero_add, Nat.mod_eq_of_lt (by omega), List.getElem?_append_left hi]
    exact hx
  have hll : (q ++ List.replicate (n - q.length) (0 : Int)).length = n := by simp; omega
  generalize q ++ List.replicate (n - q.length) 0 = zs at CP hkd hll
  clear h hk
  go_enter Try.func23, Try.ntmps23
  go_wp2_with (first
    | (go_at_call 30; refine hM.mono ?_; rintro e w' ⟨rfl, hw⟩; subst w')
    | (go_at_call 8; refine NW.mono ?_; rintro e w1 ⟨rfl, hr1, hB1⟩; have d0 := hr1.c0)
    | (go_at_call 34; refine (CP _ hB1 hr1.g).mono ?_; rintro e w2 ⟨⟨r, rfl⟩, hrow, hb2⟩; have hr2 : RM w2 (w.heap.size + 1) w.heap.size n 0 0 zs := ⟨(hb2.block _ hr1.ltB (by simp)).trans hr1.b, hrow, by omega, hll, l3, l2, by omega, by omega⟩; have hB2 : Below w.heap.size w w2 := hB1.trans (hb2.below hB1.size (by simp)); have hc2 := (hr.below hB2 b1 b2).c2; have d2 := hr2.c2; have f2 := hr2.fB 2; clear d0))
  go_ret
  exact ⟨rfl, ⟨0, zs, hr2.setC l1, hkd⟩, hB2.setCell (p := ⟨w.heap.size + 1, 2, none⟩) (by simp) _⟩

end Go.Proofs.Ytfobfkidpdlkeaa
