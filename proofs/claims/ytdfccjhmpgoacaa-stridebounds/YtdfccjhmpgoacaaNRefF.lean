/- The contract of the reference's Near. -/
import Derived.Test.YtdfccjhmpgoacaaNRefE
namespace Go.Proofs.Ytdfccjhmpgoacaa.Big
open Go.RowKit

theorem ns_step {w W w1 : World} {A B n8 c8 m11 c11 : Nat} {o8 o11 : Option Addr} {n11 : Bool} {ds8 : List Int} {E : Int} (h : W.cell? ⟨A, 1, none⟩ = some (.slice o8 n8 c8) ∧ W.cell? ⟨B, 0, none⟩ = some (.bool n11) ∧ W.cell? ⟨B, 1, none⟩ = some (.slice o11 m11 c11) ∧ A < W.heap.size ∧ B < W.heap.size ∧ Row W (.slice o8 n8 c8) ds8 ∧ Wd W (.agg #[.bool n11, .slice o11 m11 c11]) E ∧ Below w.heap.size w W ∧ w.heap.size ≤ W.heap.size) (hb : Below W.heap.size W w1) : w1.cell? ⟨A, 1, none⟩ = some (.slice o8 n8 c8) ∧ w1.cell? ⟨B, 0, none⟩ = some (.bool n11) ∧ w1.cell? ⟨B, 1, none⟩ = some (.slice o11 m11 c11) ∧ A < w1.heap.size ∧ B < w1.heap.size ∧ Row w1 (.slice o8 n8 c8) ds8 ∧ Wd w1 (.agg #[.bool n11, .slice o11 m11 c11]) E ∧ Below w.heap.size w w1 ∧ w.heap.size ≤ w1.heap.size := by
  obtain ⟨h1, h2, h3, l1, l2, r, wd, k, m⟩ := h
  have hs := hb.size
  exact ⟨keep hb l1 h1, keep hb l2 h2, keep hb l2 h3, by omega, by omega, r.below hb, wd.below hb, below2 k m hb, by omega⟩
theorem ns_drew {w W : World} {A B n8 c8 m11 c11 : Nat} {o8 o11 : Option Addr} {n11 : Bool} {ds8 : List Int} {E : Int} (h : W.cell? ⟨A, 1, none⟩ = some (.slice o8 n8 c8) ∧ W.cell? ⟨B, 0, none⟩ = some (.bool n11) ∧ W.cell? ⟨B, 1, none⟩ = some (.slice o11 m11 c11) ∧ A < W.heap.size ∧ B < W.heap.size ∧ Row W (.slice o8 n8 c8) ds8 ∧ Wd W (.agg #[.bool n11, .slice o11 m11 c11]) E ∧ Below w.heap.size w W ∧ w.heap.size ≤ W.heap.size) : W.drew.cell? ⟨A, 1, none⟩ = some (.slice o8 n8 c8) ∧ W.drew.cell? ⟨B, 0, none⟩ = some (.bool n11) ∧ W.drew.cell? ⟨B, 1, none⟩ = some (.slice o11 m11 c11) ∧ A < W.drew.heap.size ∧ B < W.drew.heap.size ∧ Row W.drew (.slice o8 n8 c8) ds8 ∧ Wd W.drew (.agg #[.bool n11, .slice o11 m11 c11]) E ∧ Below w.heap.size w W.drew ∧ w.heap.size ≤ W.drew.heap.size := by
  obtain ⟨h1, h2, h3, l1, l2, r, wd, k, m⟩ := h
  exact ⟨h1, h2, h3, l1, l2, r.drew, wd.below ((Below.refl _ _).drew), k.drew, m⟩
theorem ns_row {w W : World} {A B n8 c8 m11 c11 : Nat} {o8 o11 : Option Addr} {n11 : Bool} {ds8 : List Int} {E : Int} (h : W.cell? ⟨A, 1, none⟩ = some (.slice o8 n8 c8) ∧ W.cell? ⟨B, 0, none⟩ = some (.bool n11) ∧ W.cell? ⟨B, 1, none⟩ = some (.slice o11 m11 c11) ∧ A < W.heap.size ∧ B < W.heap.size ∧ Row W (.slice o8 n8 c8) ds8 ∧ Wd W (.agg #[.bool n11, .slice o11 m11 c11]) E ∧ Below w.heap.size w W ∧ w.heap.size ≤ W.heap.size) : Row W (.slice o8 n8 c8) ds8 := h.2.2.2.2.2.1
theorem ns_wd {w W : World} {A B n8 c8 m11 c11 : Nat} {o8 o11 : Option Addr} {n11 : Bool} {ds8 : List Int} {E : Int} (h : W.cell? ⟨A, 1, none⟩ = some (.slice o8 n8 c8) ∧ W.cell? ⟨B, 0, none⟩ = some (.bool n11) ∧ W.cell? ⟨B, 1, none⟩ = some (.slice o11 m11 c11) ∧ A < W.heap.size ∧ B < W.heap.size ∧ Row W (.slice o8 n8 c8) ds8 ∧ Wd W (.agg #[.bool n11, .slice o11 m11 c11]) E ∧ Below w.heap.size w W ∧ w.heap.size ≤ W.heap.size) : Wd W (.agg #[.bool n11, .slice o11 m11 c11]) E := h.2.2.2.2.2.2.1

set_option maxHeartbeats 2000000 in
theorem rnear_any (a b c d e f : Int) (w : World) (ha0 : -9223372036854775808 ≤ a) (ha1 : a ≤ 9223372036854775807) (hb0 : -9223372036854775808 ≤ b) (hb1 : b ≤ 9223372036854775807) (hc0 : -9223372036854775808 ≤ c) (hc1 : c ≤ 9223372036854775807) (hd0 : -9223372036854775808 ≤ d) (hd1 : d ≤ 9223372036854775807) (he0 : -9223372036854775808 ≤ e) (he1 : e ≤ 9223372036854775807) (hf0 : -9223372036854775808 ≤ f) (hf1 : f ≤ 9223372036854775807) :
    Calls Try.prog 33 #[.int .i64 a, .int .i64 b, .int .i64 c, .int .i64 d, .int .i64 e, .int .i64 f] w fun r w' => r = .returned (.bool (decide (absI (a * d - c * b) ≤ e * f))) ∧ Below w.heap.size w w' := by
  obtain ⟨p0, p1⟩ := prod_bd ha0 ha1 hd0 hd1
  obtain ⟨q0, q1⟩ := prod_bd hc0 hc1 hb0 hb1
  go_enter Try.func33, Try.ntmps33
  go_wp2_with fail
  refine (of_any a _ ha0 ha1).mono ?_
  rintro r w1 ⟨x1, rfl, hx1, b1⟩
  go_wp2_with fail
  refine (of_any d _ hd0 hd1).mono ?_
  rintro r w2 ⟨x2, rfl, hx2, b2⟩
  have k2 := below2 b1 b1.size b2
  go_wp2_with fail
  refine (wtimes_any x1 x2 a d _ (hx1.below b2) hx2 (big_int ha0 ha1) (big_int hd0 hd1)).mono ?_
  rintro r w3 ⟨x3, rfl, hx3, b3⟩
  have k3 := below2 k2 k2.size b3
  clear hx1 hx2 b1 b2 b3 k2
  go_wp2_with fail
  refine (of_any c _ hc0 hc1).mono ?_
  rintro r w4 ⟨x4, rfl, hx4, b4⟩
  have k4 := below2 k3 k3.size b4
  go_wp2_with fail
  refine (of_any b _ hb0 hb1).mono ?_
  rintro r w5 ⟨x5, rfl, hx5, b5⟩
  have k5 := below2 k4 k4.size b5
  go_wp2_with fail
  refine (wtimes_any x4 x5 c b _ (hx4.below b5) hx5 (big_int hc0 hc1) (big_int hb0 hb1)).mono ?_
  rintro r w6 ⟨x6, rfl, hx6, b6⟩
  have k6 := below2 k5 k5.size b6
  have hx3 := ((hx3.below b4).below b5).below b6
  clear hx4 hx5 b4 b5 b6 k3 k4 k5
  go_wp2_with fail
  refine (wminus_any x6 (c * b) _ hx6).mono ?_
  rintro r w7 ⟨x7, rfl, hx7, b7⟩
  have k7 := below2 k6 k6.size b7
  have hx3 := hx3.below b7
  clear hx6 b7 k6
  go_wp2_with fail
  refine (wplus_any x3 x7 (a * d) (-(c * b)) _ hx3 hx7 (big_of (by omega) (by omega)) (big_of (by omega) (by omega))).mono ?_
  rw [show a * d + -(c * b) = a * d - c * b by omega]
  rintro r w8 ⟨x8, rfl, hx8, b8⟩
  have k8 := below2 k7 k7.size b8
  clear hx3 hx7 b8 k7
  have m8 := k8.size
  obtain ⟨s8, ds8, rfl, r8, d8, cn8, v8⟩ := hx8
  obtain ⟨o8, c8, rfl, -, -, -, -⟩ := id r8
  have V8 := Hid.mk v8
  clear v8
  obtain ⟨n8, hn8⟩ : ∃ n8, Hid (decide (a * d - c * b < 0) = n8) := ⟨_, rfl⟩
  rw [hn8.out]
  go_wp2_with fail
  refine (of_any e _ he0 he1).mono ?_
  rintro r w9 ⟨x9, rfl, hx9, b9⟩
  have hz9 := keepS b9
  have hk9 : w9.cell? ⟨w8.heap.size, 1, none⟩ = some (.slice o8 ds8.length c8) := keepN b9 rfl
  have r9 := (r8.alloc _).below b9
  have k9 := belowA k8 m8 b9
  have m9 := k9.size
  clear b9 r8 k8
  go_wp2_with fail
  refine (of_any f _ hf0 hf1).mono ?_
  rintro r w10 ⟨x10, rfl, hx10, b10⟩
  have hk10 := keep b10 hz9 hk9
  have hz10 : w8.heap.size < w10.heap.size := Nat.lt_of_lt_of_le hz9 b10.size
  have r10 := r9.below b10
  have k10 := below2 k9 m9 b10
  have m10 := k10.size
  go_wp2_with fail
  refine (wtimes_any x9 x10 e f _ (hx9.below b10) hx10 (big_int he0 he1) (big_int hf0 hf1)).mono ?_
  rintro r w11 ⟨x11, rfl, hx11, b11⟩
  have hk11 := keep b11 hz10 hk10
  have hz11 : w8.heap.size < w11.heap.size := Nat.lt_of_lt_of_le hz10 b11.size
  have r11 := r10.below b11
  have k11 := below2 k10 m10 b11
  have m11 := k11.size
  clear b10 b11 hx9 hx10 hk9 hk10 r9 r10 k9 k10
  obtain ⟨s11, ds11, rfl, rr11, d11, cn11, v11⟩ := id hx11
  obtain ⟨o11, c11, rfl, -, -, -, -⟩ := id rr11
  obtain ⟨n11, hn11⟩ : ∃ n11, Hid (decide (e * f < 0) = n11) := ⟨_, rfl⟩
  rw [hn11.out] at hx11 ⊢
  have HT : Hid (turnI false (val ds8) = absI (a * d - c * b)) := by unfold Hid; rw [V8.out]; rfl
  have hS : (w11.alloc (.cells #[.bool n11, .slice o11 ds11.length c11] 44)).cell? ⟨w8.heap.size, 1, none⟩ = some (.slice o8 ds8.length c8) ∧ (w11.alloc (.cells #[.bool n11, .slice o11 ds11.length c11] 44)).cell? ⟨w11.heap.size, 0, none⟩ = some (.bool n11) ∧ (w11.alloc (.cells #[.bool n11, .slice o11 ds11.length c11] 44)).cell? ⟨w11.heap.size, 1, none⟩ = some (.slice o11 ds11.length c11) ∧ w8.heap.size < (w11.alloc (.cells #[.bool n11, .slice o11 ds11.length c11] 44)).heap.size ∧ w11.heap.size < (w11.alloc (.cells #[.bool n11, .slice o11 ds11.length c11] 44)).heap.size ∧ Row (w11.alloc (.cells #[.bool n11, .slice o11 ds11.length c11] 44)) (.slice o8 ds8.length c8) ds8 ∧ Wd (w11.alloc (.cells #[.bool n11, .slice o11 ds11.length c11] 44)) (.agg #[.bool n11, .slice o11 ds11.length c11]) (e * f) ∧ Below w.heap.size w (w11.alloc (.cells #[.bool n11, .slice o11 ds11.length c11] 44)) ∧ w.heap.size ≤ (w11.alloc (.cells #[.bool n11, .slice o11 ds11.length c11] 44)).heap.size :=
    ⟨by rw [World.cell?_alloc_past _ _ _ hz11]; exact hk11, by simp [go_sem], by simp [go_sem], by simp; omega, by simp, r11.alloc _, hx11.below (below_alloc _ _), k11.alloc m11 _, by simp; omega⟩
  clear hk11 r11 k11 hx11 rr11 v11
  go_wp2_with fail
  go_region_held3 (fun w' => w'.cell? ⟨w8.heap.size, 1, none⟩ = some (.slice o8 ds8.length c8) ∧ w'.cell? ⟨w11.heap.size, 0, none⟩ = some (.bool n11) ∧ w'.cell? ⟨w11.heap.size, 1, none⟩ = some (.slice o11 ds11.length c11) ∧ w8.heap.size < w'.heap.size ∧ w11.heap.size < w'.heap.size ∧ Row w' (.slice o8 ds8.length c8) ds8 ∧ Wd w' (.agg #[.bool n11, .slice o11 ds11.length c11]) (e * f) ∧ Below w.heap.size w w' ∧ w.heap.size ≤ w'.heap.size) (first | assumption | exact ns_drew (by assumption)) (first | (go_at_call 43; refine (trim_any false _ ds8 _ (ns_row (by assumption)) d8).mono ?_; rw [HT.out]; rintro r w12 ⟨x12, rfl, hx12, b12⟩; have key := ns_step (by assumption) b12; clear b12) | (go_at_call 53; refine (wcmp_any x12 _ (absI (a * d - c * b)) (e * f) _ hx12 (ns_wd key)).mono ?_; rintro r w13 ⟨rfl, b13⟩; have key2 := ns_step key b13; clear b13))
  all_goals
    go_wp2_with fail
    go_ret
    exact ⟨ret_bool (cmp_le _ _), key2.2.2.2.2.2.2.2.1⟩
end Go.Proofs.Ytdfccjhmpgoacaa.Big
