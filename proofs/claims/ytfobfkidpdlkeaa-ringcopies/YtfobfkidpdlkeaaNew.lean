/- Contracts of New; the document's example. -/
import Derived.Test.YtfobfkidpdlkeaaQue
namespace Go.Proofs.Ytfobfkidpdlkeaa
open Go.RowKit

theorem info3 : (Try.prog.info? 3).map (fun i => (i.zero, i.size, i.bytes)) = some (some (.int .i64 0), 1, 8) := by kernel_rfl

theorem mk_int (n : Nat) (hn : n ≤ 4096) (W : World) : (Instr.makeSlice 32 (.int .i64 n) (.int .i64 n)).run Try.prog W = .ok (.slice (some ⟨W.heap.size, 0, none⟩) n n) (W.alloc (.cells (madeCells #[.int .i64 0] n) 3)) := by
  obtain ⟨i0, hi, hz0, hz1, hz2⟩ := info_parts info3
  have h := run_make (P := Try.prog) W 32 3 i0 (.int .i64 0) Try.underlying32 hi hz0 .i64 .i64 n n (by omega) (Int.le_refl _) (by rw [hz2]; omega) (by omega)
  simpa [hz1, show (Value.int .i64 0).cells = #[.int .i64 0] from rfl] using h

theorem new_none (m : Int) (hm : m < 1 ∨ 4096 < m) (w : World) :
    Calls Try.prog 8 #[.int .i64 m] w fun e w' => e = .returned (.pointer none) ∧ w' = w := by
  by_cases h : m < 1
  · go_enter Try.func8, Try.ntmps8
    go_wp2_with fail
    go_ret
    exact ⟨rfl, rfl⟩
  · have h2 : 4096 < m := by omega
    go_enter Try.func8, Try.ntmps8
    go_wp2_with fail
    go_ret
    exact ⟨rfl, rfl⟩

theorem new_some (n : Nat) (h1 : 1 ≤ n) (h2 : n ≤ 4096) (w : World) :
    Calls Try.prog 8 #[.int .i64 n] w fun e w' => e = .returned (.pointer (some ⟨w.heap.size + 1, 0, none⟩)) ∧ RQ w' (w.heap.size + 1) w.heap.size n [] ∧ w'.heap.size = w.heap.size + 2 ∧ Below w.heap.size w w' := by
  have hmk := mk_int n h2
  go_enter Try.func8, Try.ntmps8
  go_wp2_with fail
  go_ret
  refine ⟨by simp, ⟨0, List.replicate n 0, ⟨?_, ?_, by omega, by simp, h1, h2, by omega, by simp⟩, fun i x hx => by simp at hx⟩, by simp, ((Below.refl _ w).alloc (Nat.le_refl _) _).alloc (by simp) _⟩
  · have := heap_alloc_new (w.alloc (.cells (madeCells #[.int .i64 0] n) 3)) (.cells #[.slice (some ⟨w.heap.size, 0, none⟩) n n, .int .i64 0, .int .i64 0] 50)
    rw [World.size_alloc] at this
    exact this
  · rw [Below.heap_alloc _ _ _ (by simp), heap_alloc_new]
    have e : madeCells #[.int .i64 0] n = (List.map (Value.int .i64) (List.replicate n 0)).toArray := by
      apply Array.ext'
      rw [toList_madeCells_one]
      simp
    rw [e]

set_option maxRecDepth 100000 in
theorem lives_any (w : World) :
    Calls Try.prog 7 #[] w fun e w' => e = .returned (.bool true) ∧ Below w.heap.size w w' := by
  go_enter Try.func7, Try.ntmps7
  go_wp2_with (first
    | (go_at_call 8; refine (new_some 2 (by decide) (by decide) _).mono ?_; rintro e w1 ⟨rfl, h, hs, hB⟩)
    | (go_at_call 19; refine (push_q h 1).mono ?_; rintro e w2 ⟨rfl, h2, b2⟩; change RQ w2 _ _ 2 [1] at h2; clear h)
    | (go_at_call 19; refine (push_q h2 2).mono ?_; rintro e w3 ⟨rfl, h3, b3⟩; change RQ w3 _ _ 2 [1, 2] at h3; clear h2)
    | (go_at_call 19; refine (push_q h3 3).mono ?_; rintro e w4 ⟨rfl, h4, b4⟩; change RQ w4 _ _ 2 [1, 2] at h4; clear h3)
    | (go_at_call 20; refine (pop_q h4).mono ?_; rintro e w5 ⟨rfl, h5, b5⟩; clear h4))
  go_ret
  refine ⟨rfl, hB.trans ?_⟩
  exact (((b2.trans b3).trans b4).trans b5).below (by omega) (by simp)

end Go.Proofs.Ytfobfkidpdlkeaa
