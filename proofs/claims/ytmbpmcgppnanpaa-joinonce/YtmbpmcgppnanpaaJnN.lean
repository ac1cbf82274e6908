/- The document's New. -/
import Derived.Test.YtmbpmcgppnanpaaJnD
namespace Go.Proofs.Ytmbpmcgppnanpaa.Jn
open Go Go.RowKit Go.Proofs.Ytmbpmcgppnanpaa.Bs

theorem infoRow21 : (Try.prog.info? 74).map (fun i => (i.zero, i.size, i.bytes)) = some (some (.agg #[.int .i64 0, .bool false, .int .i64 0, .slice none 0 0]), 4, 48) := by kernel_rfl
theorem mk_rows (n : Nat) (hn : n ≤ 1024) (W : World) : (Instr.makeSlice 57 (.int .i64 n) (.int .i64 n)).run Try.prog W = .ok (.slice (some ⟨W.heap.size, 0, none⟩) n n) (W.alloc (.cells (madeCells #[.int .i64 0, .bool false, .int .i64 0, .slice none 0 0] (n * 4)) 74)) := by
  obtain ⟨i0, hi, hz0, hz1, hz2⟩ := info_parts infoRow21
  have h := run_make (P := Try.prog) W 57 74 i0 (.agg #[.int .i64 0, .bool false, .int .i64 0, .slice none 0 0]) Try.underlying57 hi hz0 .i64 .i64 n n (by omega) (Int.le_refl _) (by rw [hz2]; omega) (by omega)
  rw [hz1, Int.toNat_natCast] at h
  exact h
theorem made_at {n i k : Nat} (hi : i < n) (hk : k < 4) : (madeCells #[.int .i64 0, .bool false, .int .i64 0, .slice none 0 0] (n * 4))[i * 4 + k]? = some (cel r0 (.slice none 0 0) k) := by
  unfold madeCells
  rw [Array.getElem?_map, Array.getElem?_range, if_pos (show i * 4 + k < n * 4 by omega), Option.map_some]
  show some ((#[.int .i64 0, .bool false, .int .i64 0, .slice none 0 0] : Array Value)[(i * 4 + k) % 4]!) = _
  rw [show (i * 4 + k) % 4 = k by omega]
  have e : k = 0 ∨ k = 1 ∨ k = 2 ∨ k = 3 := by omega
  rcases e with e | e | e | e <;> rw [e] <;> rfl
theorem rw_new {n i : Nat} (hi : i < n) : rw (new n) i = r0 := by simp [rw, new, List.getD_eq_getElem?_getD, hi]
section
set_option maxRecDepth 100000
theorem rnew_none (a : Int) (hm : a < 1 ∨ 1024 < a) (w : World) : Calls Try.prog 9 #[.int .i64 a] w fun e w' => e = .returned (.pointer none) ∧ w' = w := by
  by_cases h1 : a < 1
  · go_enter Try.func9, Try.ntmps9
    go_wp2_with fail
    go_ret
    exact ⟨rfl, rfl⟩
  · have h2 : 1024 < a := by omega
    go_enter Try.func9, Try.ntmps9
    go_wp2_with fail
    go_ret
    exact ⟨rfl, rfl⟩
theorem rnew_some (n : Nat) (h1 : 1 ≤ n) (h2 : n ≤ 1024) (w : World) :
    Calls Try.prog 9 #[.int .i64 n] w fun e w' => ∃ M R, e = .returned (.pointer (some ⟨M, 0, none⟩)) ∧ RQ w' M R n (new n) ∧ Step [] w R w' := by
  have m := mk_rows n h2 w
  have a1 : ¬ (n : Int) < 1 := by omega
  have a2 : ¬ (1024 : Int) < (n : Int) := by omega
  obtain ⟨X, hX⟩ : ∃ X, X = (w.alloc (.cells (madeCells #[.int .i64 0, .bool false, .int .i64 0, .slice none 0 0] (n * 4)) 74)).alloc (.cells #[.slice (some ⟨w.heap.size, 0, none⟩) n n] 59) := ⟨_, rfl⟩
  have hb : Below w.heap.size w X := by rw [hX]; exact ((Below.refl _ w).alloc (Nat.le_refl _) _).alloc (by simp) _
  have hz : X.heap.size = w.heap.size + 1 + 1 := by rw [hX]; simp
  have g1 : X.heap[w.heap.size]? = some (.cells (madeCells #[.int .i64 0, .bool false, .int .i64 0, .slice none 0 0] (n * 4)) 74) := by
    rw [hX, Below.heap_alloc _ _ _ (by simp)]
    exact heap_alloc_new _ _
  have g2 : X.heap[w.heap.size + 1]? = some (.cells #[.slice (some ⟨w.heap.size, 0, none⟩) n n] 59) := by
    have := heap_alloc_new (w.alloc (.cells (madeCells #[.int .i64 0, .bool false, .int .i64 0, .slice none 0 0] (n * 4)) 74)) (.cells #[.slice (some ⟨w.heap.size, 0, none⟩) n n] 59)
    rw [World.size_alloc] at this
    rw [hX]
    exact this
  have hQ : RQ X (w.heap.size + 1) [w.heap.size + 1, w.heap.size] n (new n) := by
    refine ⟨Ok.new h1 h2, w.heap.size, fun _ => .slice none 0 0, ⟨n, g2⟩, ⟨_, g1, fun i k hi hk => ?_⟩, fun i hi => ?_, by omega, ⟨by simp, by simp⟩, fun x hx => ?_, by simp [new]⟩
    · rw [rw_new hi]
      exact made_at hi hk
    · rw [rw_new hi]
      exact RowF.nil _ _ _
    · simp at hx
      omega
  have hS : Step [] w [w.heap.size + 1, w.heap.size] X := ⟨.of_below hb, fun x hx => .inr (by simp at hx; omega)⟩
  clear g1 g2 hz hb
  go_enter Try.func9, Try.ntmps9
  go_wp2_with fail
  go_ret
  rw [← hX]
  exact ⟨_, rfl, _, hQ, hS⟩
end
end Go.Proofs.Ytmbpmcgppnanpaa.Jn
