/- The document's example. -/
import Derived.Test.YtmjjghhlalaeiaaAdd
namespace Go.Proofs.Ytmjjghhlalaeiaa
open Go.RowKit

theorem tm_small {n : Nat} (h : n ≤ 1000000000) : Tm n := by unfold Tm; omega

set_option maxRecDepth 100000 in
set_option maxHeartbeats 4000000 in
theorem lives_any (w : World) :
    Calls Try.prog 8 #[] w fun e w' => e = .returned (.bool true) ∧ Below w.heap.size w w' := by
  have t0 : Tm (0 + 65535) := tm_small (by omega)
  have t1 : Tm (0 + 1) := tm_small (by omega)
  have t2 : Tm (1 + 1) := tm_small (by omega)
  go_enter Try.func8, Try.ntmps8
  go_wp2_with (first
    | (go_at_call 9; refine (wnew_some 4 (by decide) (by decide) _).mono ?_; rintro e w1 ⟨T, rfl, h1, hk, b1⟩; change WQ w1 T 4 0 [0, 0, 0, 0] at h1)
    | (go_at_call 21; (with_reducible refine (add_any h1 t0 3 2).mono ?_); rintro e w2 ⟨rfl, h2, b2⟩; change WQ w2 T 4 0 [0, 0, 0, 2] at h2)
    | (go_at_call 21; (with_reducible refine (add_any h2 t0 1 2).mono ?_); rintro e w3 ⟨rfl, h3, b3⟩; change WQ w3 T 4 0 [0, 2, 0, 2] at h3)
    | (go_at_call 22; (with_reducible refine (tick_any h3 t1).mono ?_); rintro e w4 ⟨v4, rfl, r4, h4, b4⟩; change WQ w4 T 4 1 [0, 2, 0, 2] at h4; change RowI w4 w3.heap.size v4 [] at r4; obtain ⟨a4, c4, rfl, -⟩ := r4.open')
    | (go_at_call 22; (with_reducible refine (tick_any h4 t2).mono ?_); rintro e w5 ⟨v5, rfl, r5, h5, b5⟩; change RowI w5 w4.heap.size v5 [1, 3] at r5; obtain ⟨a5, c5, rfl, i5⟩ := r5.open')
    | (go_at_call 18; refine (ints_any a5 (some ⟨w5.heap.size, 0, none⟩) c5 2 [1, 3] _ (by decide) (i5.below ((Below.refl _ _).alloc (Nat.le_refl _) _)) (ints_two w5 1 3)).mono ?_; rintro e w6 ⟨rfl, b6⟩))
  go_ret
  refine ⟨rfl, ?_⟩
  have s5 := b1.trans ((((b2.trans b3).trans b4).trans b5).below b1.size hk)
  have s6 := s5.alloc s5.size (.cells #[.int .i64 1, .int .i64 3] 3)
  exact s6.trans (b6.mono s6.size)

end Go.Proofs.Ytmjjghhlalaeiaa
