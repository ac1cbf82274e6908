/- The walk of NumCompares. -/
import Derived.Test.YtlhiabfhokeihaaRefF
import Derived.Deep.RegionHeld3
namespace Go.Proofs.Ytlhiabfhokeihaa
open Go.RowKit

theorem b6_step {w W w1 : World} {a b c d e f : Int} (h : W.cell? ⟨w.heap.size, 0, none⟩ = some (.int .i64 a) ∧ W.cell? ⟨w.heap.size, 1, none⟩ = some (.int .i64 b) ∧ W.cell? ⟨w.heap.size, 2, none⟩ = some (.int .i64 c) ∧ W.cell? ⟨w.heap.size, 3, none⟩ = some (.int .i64 d) ∧ W.cell? ⟨w.heap.size, 4, none⟩ = some (.int .i64 e) ∧ W.cell? ⟨w.heap.size, 5, none⟩ = some (.int .i64 f) ∧ w.heap.size < W.heap.size ∧ Below w.heap.size w W) (hb : Below W.heap.size W w1) : w1.cell? ⟨w.heap.size, 0, none⟩ = some (.int .i64 a) ∧ w1.cell? ⟨w.heap.size, 1, none⟩ = some (.int .i64 b) ∧ w1.cell? ⟨w.heap.size, 2, none⟩ = some (.int .i64 c) ∧ w1.cell? ⟨w.heap.size, 3, none⟩ = some (.int .i64 d) ∧ w1.cell? ⟨w.heap.size, 4, none⟩ = some (.int .i64 e) ∧ w1.cell? ⟨w.heap.size, 5, none⟩ = some (.int .i64 f) ∧ w.heap.size < w1.heap.size ∧ Below w.heap.size w w1 := by
  obtain ⟨h0, h1, h2, h3, h4, h5, l, k⟩ := h
  have hs := hb.size
  exact ⟨keep hb l h0, keep hb l h1, keep hb l h2, keep hb l h3, keep hb l h4, keep hb l h5, by omega, below2 k (by omega) hb⟩

theorem b6_drew {w W : World} {a b c d e f : Int} (h : W.cell? ⟨w.heap.size, 0, none⟩ = some (.int .i64 a) ∧ W.cell? ⟨w.heap.size, 1, none⟩ = some (.int .i64 b) ∧ W.cell? ⟨w.heap.size, 2, none⟩ = some (.int .i64 c) ∧ W.cell? ⟨w.heap.size, 3, none⟩ = some (.int .i64 d) ∧ W.cell? ⟨w.heap.size, 4, none⟩ = some (.int .i64 e) ∧ W.cell? ⟨w.heap.size, 5, none⟩ = some (.int .i64 f) ∧ w.heap.size < W.heap.size ∧ Below w.heap.size w W) : W.drew.cell? ⟨w.heap.size, 0, none⟩ = some (.int .i64 a) ∧ W.drew.cell? ⟨w.heap.size, 1, none⟩ = some (.int .i64 b) ∧ W.drew.cell? ⟨w.heap.size, 2, none⟩ = some (.int .i64 c) ∧ W.drew.cell? ⟨w.heap.size, 3, none⟩ = some (.int .i64 d) ∧ W.drew.cell? ⟨w.heap.size, 4, none⟩ = some (.int .i64 e) ∧ W.drew.cell? ⟨w.heap.size, 5, none⟩ = some (.int .i64 f) ∧ w.heap.size < W.drew.heap.size ∧ Below w.heap.size w W.drew := by
  obtain ⟨h0, h1, h2, h3, h4, h5, l, k⟩ := h
  exact ⟨h0, h1, h2, h3, h4, h5, l, k.drew⟩

set_option maxHeartbeats 2000000 in
theorem compares_walk (a b c d e f : Int) (w : World) (ha0 : -9223372036854775808 ≤ a) (ha1 : a ≤ 9223372036854775807) (hb0 : -9223372036854775808 ≤ b) (hb1 : b ≤ 9223372036854775807) (hc0 : -9223372036854775808 ≤ c) (hc1 : c ≤ 9223372036854775807) (hd0 : -9223372036854775808 ≤ d) (hd1 : d ≤ 9223372036854775807) (he0 : -9223372036854775808 ≤ e) (he1 : e ≤ 9223372036854775807) (hf0 : -9223372036854775808 ≤ f) (hf1 : f ≤ 9223372036854775807) :
    Calls Try.prog 5 #[.agg #[.int .i64 a, .int .i64 b, .int .i64 c, .int .i64 d, .int .i64 e, .int .i64 f]] w fun r w' => r = .returned (.bool true) ∧ Below w.heap.size w w' := by
  have C1 := fun W => cross_any a b c d W ha0 ha1 hb0 hb1 hc0 hc1 hd0 hd1
  have C2 := fun W => rcross_any a b c d W ha0 ha1 hb0 hb1 hc0 hc1 hd0 hd1
  have N1 := fun W => near_any a b c d e f W ha0 ha1 hb0 hb1 hc0 hc1 hd0 hd1 he0 he1 hf0 hf1
  have N2 := fun W => rnear_any a b c d e f W ha0 ha1 hb0 hb1 hc0 hc1 hd0 hd1 he0 he1 hf0 hf1
  have K1 := fun W => clamp_any a b c W
  have K2 := fun W => rclamp_any a b c W
  have G1 := fun W => gcd_any a b W ha0 ha1 hb0 hb1
  have G2 := fun W => rgcd_any a b W ha0 ha1 hb0 hb1
  generalize cmpI (a * d) (c * b) = v1 at *
  generalize decide (absI (a * d - c * b) ≤ e * f) = v2 at *
  generalize clampI a b c = v3 at *
  generalize ((Int.gcd (satI a) (satI b) : Nat) : Int) = v4 at *
  replace C1 := Hid.mk C1
  replace C2 := Hid.mk C2
  replace N1 := Hid.mk N1
  replace N2 := Hid.mk N2
  replace K1 := Hid.mk K1
  replace K2 := Hid.mk K2
  replace G1 := Hid.mk G1
  replace G2 := Hid.mk G2
  have hS : (w.alloc (.cells #[.int .i64 a, .int .i64 b, .int .i64 c, .int .i64 d, .int .i64 e, .int .i64 f] 31)).cell? ⟨w.heap.size, 0, none⟩ = some (.int .i64 a) ∧ (w.alloc (.cells #[.int .i64 a, .int .i64 b, .int .i64 c, .int .i64 d, .int .i64 e, .int .i64 f] 31)).cell? ⟨w.heap.size, 1, none⟩ = some (.int .i64 b) ∧ (w.alloc (.cells #[.int .i64 a, .int .i64 b, .int .i64 c, .int .i64 d, .int .i64 e, .int .i64 f] 31)).cell? ⟨w.heap.size, 2, none⟩ = some (.int .i64 c) ∧ (w.alloc (.cells #[.int .i64 a, .int .i64 b, .int .i64 c, .int .i64 d, .int .i64 e, .int .i64 f] 31)).cell? ⟨w.heap.size, 3, none⟩ = some (.int .i64 d) ∧ (w.alloc (.cells #[.int .i64 a, .int .i64 b, .int .i64 c, .int .i64 d, .int .i64 e, .int .i64 f] 31)).cell? ⟨w.heap.size, 4, none⟩ = some (.int .i64 e) ∧ (w.alloc (.cells #[.int .i64 a, .int .i64 b, .int .i64 c, .int .i64 d, .int .i64 e, .int .i64 f] 31)).cell? ⟨w.heap.size, 5, none⟩ = some (.int .i64 f) ∧ w.heap.size < (w.alloc (.cells #[.int .i64 a, .int .i64 b, .int .i64 c, .int .i64 d, .int .i64 e, .int .i64 f] 31)).heap.size ∧ Below w.heap.size w (w.alloc (.cells #[.int .i64 a, .int .i64 b, .int .i64 c, .int .i64 d, .int .i64 e, .int .i64 f] 31)) :=
    ⟨by simp [go_sem], by simp [go_sem], by simp [go_sem], by simp [go_sem], by simp [go_sem], by simp [go_sem], by simp, below_alloc _ _⟩
  have LV := Hid.mk lives_any
  go_enter Try.func5, Try.ntmps5
  go_wp2_with fail
  dsimp only [List.append]
  go_region_held3 (fun w' => w'.cell? ⟨w.heap.size, 0, none⟩ = some (.int .i64 a) ∧ w'.cell? ⟨w.heap.size, 1, none⟩ = some (.int .i64 b) ∧ w'.cell? ⟨w.heap.size, 2, none⟩ = some (.int .i64 c) ∧ w'.cell? ⟨w.heap.size, 3, none⟩ = some (.int .i64 d) ∧ w'.cell? ⟨w.heap.size, 4, none⟩ = some (.int .i64 e) ∧ w'.cell? ⟨w.heap.size, 5, none⟩ = some (.int .i64 f) ∧ w.heap.size < w'.heap.size ∧ Below w.heap.size w w') (first | assumption | exact b6_drew (by assumption)) (first | (go_at_call 20; refine (C1.out _).mono ?_; rintro r w1 ⟨rfl, hb⟩; have key := b6_step (by assumption) hb; clear hb) | (go_at_call 21; refine (C2.out _).mono ?_; rintro r w1 ⟨rfl, hb⟩; have key := b6_step (by assumption) hb; clear hb) | (go_at_call 22; refine (N1.out _).mono ?_; rintro r w1 ⟨rfl, hb⟩; have key := b6_step (by assumption) hb; clear hb) | (go_at_call 23; refine (N2.out _).mono ?_; rintro r w1 ⟨rfl, hb⟩; have key := b6_step (by assumption) hb; clear hb) | (go_at_call 24; refine (K1.out _).mono ?_; rintro r w1 ⟨rfl, hb⟩; rw [hb]; clear hb w1) | (go_at_call 25; refine (K2.out _).mono ?_; rintro r w1 ⟨rfl, hb⟩; rw [hb]; clear hb w1) | (go_at_call 26; refine (G1.out _).mono ?_; rintro r w1 ⟨rfl, hb⟩; have key := b6_step (by assumption) hb; clear hb) | (go_at_call 27; refine (G2.out _).mono ?_; rintro r w1 ⟨rfl, hb⟩; have key := b6_step (by assumption) hb; clear hb) | (go_at_call 15; refine (LV.out _).mono ?_; rintro r w1 ⟨rfl, hb⟩; have key := b6_step (by assumption) hb; clear hb))
  all_goals
    go_wp2_with fail
    go_ret
    exact ⟨rfl, key.2.2.2.2.2.2.2⟩
end Go.Proofs.Ytlhiabfhokeihaa
