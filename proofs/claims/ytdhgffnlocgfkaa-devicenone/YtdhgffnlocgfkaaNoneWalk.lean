/- The walk of DeviceNone. -/
import Derived.Test.YtdhgffnlocgfkaaLives
namespace Go.Proofs.Ytdhgffnlocgfkaa
open Go.RowKit

theorem arr55 (W : World) (Z : Nat) (j : Nat) (hj : j < 2) : Sem.run Try.prog (Instr.index 55 (.agg #[.pointer none, .pointer (some ⟨Z, 0, none⟩)]) (.int .i64 (j : Int))) W = .ok (.pointer (if j = 0 then none else some ⟨Z, 0, none⟩)) W := by
  rcases (show j = 0 ∨ j = 1 by omega) with rfl | rfl
  · kernel_rfl
  · kernel_rfl

set_option maxRecDepth 100000 in
set_option maxHeartbeats 2000000 in
theorem none_any (ak k i s t kd z : Int) (w : World) :
    Calls Try.prog 6 #[.agg #[.int .i64 ak, .int .i64 k, .int .i64 i, .int .i64 s, .int .i64 t, .int .i64 kd, .int .i64 z]] w fun e w' => e = .returned (.bool true) ∧ Below w.heap.size w w' := by
  obtain ⟨W1, hW1⟩ : ∃ W1, W1 = (w.alloc (.cells #[.int .i64 ak, .int .i64 k, .int .i64 i, .int .i64 s, .int .i64 t, .int .i64 kd, .int .i64 z] 31)).alloc (.cells #[.int .i64 0, .int .i64 0, .int .i64 0, .slice none 0 0] 54) := ⟨_, rfl⟩
  have hA : ∀ W, Below W1.heap.size W1 W → W.cell? ⟨w.heap.size, 1, none⟩ = some (.int .i64 k) ∧ At5 W w.heap.size 2 (i, s, t, kd, z) := fun W b => by
    have h : ∀ j v, W1.cell? ⟨w.heap.size, j, none⟩ = some v → W.cell? ⟨w.heap.size, j, none⟩ = some v := fun j v hv => cell_on b hv
    rw [hW1] at h
    exact ⟨h _ _ (by simp [go_sem]), h _ _ (by simp [go_sem]), h _ _ (by simp [go_sem]), h _ _ (by simp [go_sem]), h _ _ (by simp [go_sem]), h _ _ (by simp [go_sem])⟩
  have hZ : W1.cell? ⟨w.heap.size + 1, 0, none⟩ = some (.int .i64 0) := by rw [hW1]; simp [go_sem]
  have b0 : Below w.heap.size w W1 := by
    rw [hW1]
    exact ((Below.refl _ w).alloc (Nat.le_refl _) _).alloc (by simp) _
  go_enter Try.func6, Try.ntmps6
  go_wp2_with fail
  rw [← hW1]
  clear hW1
  go_loopw [12, 5, 6, 7, 8, 9, 10] (fun v _ _ _ _ _ _ wr => ∃ j : Nat, j ≤ 2 ∧ v = .int .i64 j ∧ Below W1.heap.size W1 wr) (fun v _ _ _ _ _ _ _ => 2 - (intOf v).toNat)
  case atStart => exact ⟨0, by omega, rfl, Below.refl _ _⟩
  case round =>
    obtain ⟨j, hj, rfl, hb⟩ := hrel
    by_cases hlt : j < 2
    · have hix := arr55 wr (w.heap.size + 1) j hlt
      have hp : UM W1 (if j = 0 then none else some ⟨w.heap.size + 1, 0, none⟩) := by
        by_cases h : j = 0
        · rw [if_pos h]; exact .inl rfl
        · rw [if_neg h]; exact .inr ⟨_, rfl, hZ⟩
      generalize (if j = 0 then none else some (⟨w.heap.size + 1, 0, none⟩ : Addr)) = p at hix hp
      have hlt' : (j : Int) < 2 := by omega
      have CS : ∀ W, Below W1.heap.size W1 W → _ := fun W b => start_no (w := W) (hp.below b) i s t kd z
      have CF : ∀ W, Below W1.heap.size W1 W → _ := fun W b => finish_no (w := W) (hp.below b) k
      have CC : ∀ W, Below W1.heap.size W1 W → _ := fun W b => cancel_no (w := W) (hp.below b) k
      have CA : ∀ W, Below W1.heap.size W1 W → _ := fun W b => all_no (w := W) (hp.below b)
      have CL : ∀ W, Below W1.heap.size W1 W → _ := fun W b => len_no (w := W) (hp.below b)
      have CD : ∀ W, Below W1.heap.size W1 W → _ := fun W b => done_no (w := W) (hp.below b)
      have CP : ∀ W, Below W1.heap.size W1 W → _ := fun W b => copy_no (w := W) (hp.below b)
      obtain ⟨_, x0, x1, x2, x3, x4⟩ := hA _ hb
      dsimp only at x0 x1 x2 x3 x4
      clear hp
      go_wp2_with (first
        | (go_at_call 16; (with_reducible refine (CS _ hb).mono ?_); rintro e w2 ⟨rfl, b2⟩; have hb2 := below2 hb hb.size b2; obtain ⟨y, -⟩ := hA _ hb2)
        | (go_at_call 17; (with_reducible refine (CF _ hb2).mono ?_); rintro e w3 ⟨rfl, b3⟩; have hb3 := below2 hb2 hb2.size b3; have hb4 := hb3.alloc hb3.size (.cells #[.int .i64 0, .int .i64 0, .int .i64 0, .int .i64 0, .int .i64 0] 29); obtain ⟨y2, -⟩ := hA _ hb4)
        | (go_at_call 20; (with_reducible refine (CC _ hb4).mono ?_); rintro e w5 ⟨rfl, b5⟩; have hb5 := below2 hb4 hb4.size b5)
        | (go_at_call 15; (with_reducible refine (CA _ hb5).mono ?_); rintro e w6 ⟨rfl, hw⟩; subst w6)
        | (go_at_call 11; (with_reducible refine (CL _ hb5).mono ?_); rintro e w6 ⟨rfl, hw⟩; subst w6)
        | (go_at_call 12; (with_reducible refine (CD _ hb5).mono ?_); rintro e w6 ⟨rfl, hw⟩; subst w6)
        | (go_at_call 18; (with_reducible refine (CP _ hb5).mono ?_); rintro e w6 ⟨rfl, hw⟩; subst w6))
      go_roundw
      case rel => exact ⟨j + 1, by omega, by simp, hb5⟩
      case measure =>
        simp [intOf]
        omega
    · obtain rfl : j = 2 := by omega
      go_wp2_with (first | (go_at_call 7; refine (lives_any _).mono ?_; rintro e w2 ⟨rfl, b2⟩))
      go_ret
      exact ⟨rfl, below2 (below2 b0 b0.size hb) (Nat.le_trans b0.size hb.size) b2⟩
end Go.Proofs.Ytdhgffnlocgfkaa
