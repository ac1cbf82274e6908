/- MulDiv where the product is below 0. -/
import Derived.Test.YtlhiabfhokeihaaMulDiv
import Derived.Deep.CutRange
namespace Go.Proofs.Ytlhiabfhokeihaa
open Go.RowKit

theorem set2 {W : World} {b : Nat} {x y : Value} (u v : Value) (h0 : W.cell? ⟨b, 0, none⟩ = some x) (h1 : W.cell? ⟨b, 1, none⟩ = some y) :
    ((W.setCell ⟨b, 0, none⟩ u).setCell ⟨b, 1, none⟩ v).cell? ⟨b, 0, none⟩ = some u ∧ ((W.setCell ⟨b, 0, none⟩ u).setCell ⟨b, 1, none⟩ v).cell? ⟨b, 1, none⟩ = some v := by
  have e1 : (W.setCell ⟨b, 0, none⟩ u).cell? ⟨b, 1, none⟩ = some y := by rw [World.cell?_setCell_other _ _ _ _ (by simp)]; exact h1
  refine ⟨?_, World.cell?_setCell_same _ _ _ e1⟩
  rw [World.cell?_setCell_other _ _ _ _ (by simp)]
  exact World.cell?_setCell_same _ _ _ h0
theorem set2_other {W : World} {b c o : Nat} {x : Value} (u v : Value) (hc : c ≠ b) (h : W.cell? ⟨c, o, none⟩ = some x) :
    ((W.setCell ⟨b, 0, none⟩ u).setCell ⟨b, 1, none⟩ v).cell? ⟨c, o, none⟩ = some x := by
  rw [World.cell?_setCell_other _ _ _ _ (fun e => hc (congrArg Addr.block e).symm), World.cell?_setCell_other _ _ _ _ (fun e => hc (congrArg Addr.block e).symm)]; exact h

set_option maxHeartbeats 1000000 in
theorem muldiv_down (a b c : Int) (w : World) (ha0 : -9223372036854775808 ≤ a) (ha1 : a ≤ 9223372036854775807) (hb0 : -9223372036854775808 ≤ b) (hb1 : b ≤ 9223372036854775807) (hc0 : 1 ≤ c) (hc1 : c ≤ 9223372036854775807) (hp : a * b < 0) (hN : hiW (-(a * b) + (c - 1)) < c) :
    Calls Try.prog 18 #[.int .i64 a, .int .i64 b, .int .i64 c] w fun e w' => e = .returned (.tuple #[.int .i64 (toldI (turnI true ((-(a * b) + (c - 1)) / c))), .bool (fitsB (turnI true ((-(a * b) + (c - 1)) / c)))]) ∧ Below w.heap.size w w' := by
  obtain ⟨p0, p1⟩ := prod_bd ha0 ha1 hb0 hb1
  have hneg : decide (hiW (a * b) < 0) = true := by simp; unfold hiW; omega
  have HT : Hid (turnI true (a * b) = -(a * b)) := by unfold Hid; simp [turnI]
  have hc2 : decide (c < 1) = false := by simp; omega
  have hq0 : 0 ≤ (-(a * b) + (c - 1)) / c := Int.ediv_nonneg (by omega) (by omega)
  have hq1 : (-(a * b) + (c - 1)) / c < 18446744073709551616 := Int.ediv_lt_of_lt_mul (by omega) (by unfold hiW at hN; omega)
  go_enter Try.func18, Try.ntmps18
  go_wp2_with fail
  refine (times_any a b _ ha0 ha1 hb0 hb1).mono ?_
  rintro e w1 ⟨rfl, k1⟩
  have m1 := k1.size
  go_wp2_with fail
  refine (below_any (a * b) _).mono ?_
  rw [hneg]
  rintro e w2 ⟨rfl, h2⟩
  go_wp2_with fail
  refine (turner_any _ _).mono ?_
  rintro e w3 ⟨rfl, hw3⟩
  rw [hw3]
  clear hw3 w3
  have hz := keepS h2
  have hk0 : w2.cell? ⟨w1.heap.size, 0, none⟩ = some (.int .i64 (hiW (a * b))) := keepN h2 rfl
  have hk1 : w2.cell? ⟨w1.heap.size, 1, none⟩ = some (.int .u64 (loW (a * b))) := keepN h2 rfl
  have k2 := belowA k1 m1 h2
  clear h2 k1
  have m2 := k2.size
  go_wp2_with fail
  refine (turn_any (a * b) true w2.heap.size 0 _ (by simp) (by simp [go_sem]) (by omega) (by omega)).mono ?_
  rw [HT.out]
  rintro e w3 ⟨rfl, h3⟩
  have hz3 := keepS h3
  have hk30 := keepA h3 hz hk0
  have hk31 := keepA h3 hz hk1
  have hk32 : w3.cell? ⟨w2.heap.size, 0, none⟩ = some (.bool true) := keepN h3 rfl
  have k3 := belowA k2 m2 h3
  clear h3 k2 hk0 hk1
  have m3 := k3.size
  have hz13 : w1.heap.size < w3.heap.size := by omega
  go_wp2_with fail
  refine (below_any (a * b) _).mono ?_
  rw [hneg]
  rintro e w4 ⟨rfl, h4⟩
  have hz4 := keepS h4
  have hk42 := keepA h4 hz3 hk32
  have hd0 : w4.cell? ⟨w3.heap.size, 0, none⟩ = some (.int .i64 (hiW (-(a * b)))) := keepN h4 rfl
  have hd1 : w4.cell? ⟨w3.heap.size, 1, none⟩ = some (.int .u64 (loW (-(a * b)))) := keepN h4 rfl
  have hdf0 : w4.frozen? ⟨w3.heap.size, 0, none⟩ = false := by rw [(bcell h4).2 _ _ (by simp)]; simp [go_sem]
  have hdf1 : w4.frozen? ⟨w3.heap.size, 1, none⟩ = false := by rw [(bcell h4).2 _ _ (by simp)]; simp [go_sem]
  have k4 := belowA k3 m3 h4
  clear h4 k3 hk30 hk31 hk32
  have m4 := k4.size
  have hz24 : w2.heap.size < w4.heap.size := by omega
  go_wp2_with fail
  go_cut [] from 26 to 30 (fun wx => wx.cell? ⟨w3.heap.size, 0, none⟩ = some (.int .i64 (hiW (-(a * b) + (c - 1)))) ∧ wx.cell? ⟨w3.heap.size, 1, none⟩ = some (.int .u64 (loW (-(a * b) + (c - 1)))) ∧ wx.cell? ⟨w2.heap.size, 0, none⟩ = some (.bool true) ∧ Below w.heap.size w wx ∧ w4.heap.size ≤ wx.heap.size)
  case first =>
    have hwc1 : IntKind.i64.wrap (c - 1) = c - 1 := by rw [IntKind.wrap_i64]; omega
    go_region_with (first
      | (go_at_call 40; refine (widen_any (c - 1) _ (by omega) (by omega)).mono ?_; rintro e w5 ⟨rfl, h5⟩; have g0 := keep (W := w4.drew) h5 hz4 hd0; have g1 := keep (W := w4.drew) h5 hz4 hd1; have g2 := keep (W := w4.drew) h5 hz24 hk42; have gf0 := keepF (W := w4.drew) h5 hz4 hdf0; have gf1 := keepF (W := w4.drew) h5 hz4 hdf1; have k5 := below2 (W := w4.drew) k4.drew m4 h5; have m5 : w4.heap.size ≤ w5.heap.size := h5.size; have z5 : w3.heap.size < w5.heap.size := Nat.lt_of_lt_of_le hz4 m5; have z5' : w2.heap.size < w5.heap.size := Nat.lt_of_lt_of_le hz24 m5; clear h5)
      | (go_at_call 39; refine (plus_any (-(a * b)) (c - 1) _ (by omega) (by omega) (by omega) (by omega) (by omega) (by omega)).mono ?_; rintro e w6 ⟨rfl, h6⟩; have i0 := keep h6 z5 g0; have i1 := keep h6 z5 g1; have i2 := keep h6 z5' g2; have if0 := keepF h6 z5 gf0; have if1 := keepF h6 z5 gf1; have k6 := below2 k5 (Nat.le_trans m4 m5) h6; have m6 := Nat.le_trans m5 h6.size; clear h6))
    all_goals
      go_wp2_with fail
      go_meet
      case rel => exact ⟨(set2 _ _ i0 i1).1, (set2 _ _ i0 i1).2, set2_other _ _ (by omega) i2, (k6.setCell (by simp; omega) _).setCell (by simp; omega) _, by simp [World.setCell]; exact m6⟩
  case rest =>
    obtain ⟨hd0', hd1', hk5, k5, m5⟩ := hcut
    clear hd0 hd1 hdf0 hdf1 hk42
    have hz25 : w2.heap.size < wc.heap.size := Nat.lt_of_lt_of_le hz24 m5
    go_wp2_with fail
    refine (over_yes (-(a * b) + (c - 1)) c _ (by omega) (by omega) (by omega) hc1 hN).mono ?_
    rintro e w6 ⟨rfl, h6⟩
    have hk6 := keep h6 hz25 hk5
    have k6 := below2 k5 (Nat.le_trans m4 m5) h6
    have m6 := k6.size
    have hz6 : w2.heap.size < w6.heap.size := Nat.lt_of_lt_of_le hz25 h6.size
    clear h6 k4
    go_wp2_with fail
    refine (turn_any ((-(a * b) + (c - 1)) / c) true w2.heap.size 0 _ (by simp; omega) (by simp [go_sem, hz6, hk6]) (by omega) (by omega)).mono ?_
    rintro e w7 ⟨rfl, h7⟩
    have k7 := belowA k6 m6 h7
    have m7 := k7.size
    go_wp2_with fail
    refine (whole_any (turnI true ((-(a * b) + (c - 1)) / c)) _).mono ?_
    rintro e w8 ⟨rfl, h8⟩
    go_wp2_with fail
    go_ret2
    exact ⟨rfl, below2 k7 m7 h8⟩

set_option maxHeartbeats 1000000 in
theorem muldiv_down_great (a b c : Int) (w : World) (ha0 : -9223372036854775808 ≤ a) (ha1 : a ≤ 9223372036854775807) (hb0 : -9223372036854775808 ≤ b) (hb1 : b ≤ 9223372036854775807) (hc0 : 1 ≤ c) (hc1 : c ≤ 9223372036854775807) (hp : a * b < 0) (hN : c ≤ hiW (-(a * b) + (c - 1))) :
    Calls Try.prog 18 #[.int .i64 a, .int .i64 b, .int .i64 c] w fun e w' => e = .returned (.tuple #[.int .i64 0, .bool false]) ∧ Below w.heap.size w w' := by
  obtain ⟨p0, p1⟩ := prod_bd ha0 ha1 hb0 hb1
  have hneg : decide (hiW (a * b) < 0) = true := by simp; unfold hiW; omega
  have HT : Hid (turnI true (a * b) = -(a * b)) := by unfold Hid; simp [turnI]
  have hc2 : decide (c < 1) = false := by simp; omega
  go_enter Try.func18, Try.ntmps18
  go_wp2_with fail
  refine (times_any a b _ ha0 ha1 hb0 hb1).mono ?_
  rintro e w1 ⟨rfl, k1⟩
  have m1 := k1.size
  go_wp2_with fail
  refine (below_any (a * b) _).mono ?_
  rw [hneg]
  rintro e w2 ⟨rfl, h2⟩
  go_wp2_with fail
  refine (turner_any _ _).mono ?_
  rintro e w3 ⟨rfl, hw3⟩
  rw [hw3]
  clear hw3 w3
  have hz := keepS h2
  have hk0 : w2.cell? ⟨w1.heap.size, 0, none⟩ = some (.int .i64 (hiW (a * b))) := keepN h2 rfl
  have hk1 : w2.cell? ⟨w1.heap.size, 1, none⟩ = some (.int .u64 (loW (a * b))) := keepN h2 rfl
  have k2 := belowA k1 m1 h2
  clear h2 k1
  have m2 := k2.size
  go_wp2_with fail
  refine (turn_any (a * b) true w2.heap.size 0 _ (by simp) (by simp [go_sem]) (by omega) (by omega)).mono ?_
  rw [HT.out]
  rintro e w3 ⟨rfl, h3⟩
  have hz3 := keepS h3
  have hk30 := keepA h3 hz hk0
  have hk31 := keepA h3 hz hk1
  have hk32 : w3.cell? ⟨w2.heap.size, 0, none⟩ = some (.bool true) := keepN h3 rfl
  have k3 := belowA k2 m2 h3
  clear h3 k2 hk0 hk1
  have m3 := k3.size
  have hz13 : w1.heap.size < w3.heap.size := by omega
  go_wp2_with fail
  refine (below_any (a * b) _).mono ?_
  rw [hneg]
  rintro e w4 ⟨rfl, h4⟩
  have hz4 := keepS h4
  have hk42 := keepA h4 hz3 hk32
  have hd0 : w4.cell? ⟨w3.heap.size, 0, none⟩ = some (.int .i64 (hiW (-(a * b)))) := keepN h4 rfl
  have hd1 : w4.cell? ⟨w3.heap.size, 1, none⟩ = some (.int .u64 (loW (-(a * b)))) := keepN h4 rfl
  have hdf0 : w4.frozen? ⟨w3.heap.size, 0, none⟩ = false := by rw [(bcell h4).2 _ _ (by simp)]; simp [go_sem]
  have hdf1 : w4.frozen? ⟨w3.heap.size, 1, none⟩ = false := by rw [(bcell h4).2 _ _ (by simp)]; simp [go_sem]
  have k4 := belowA k3 m3 h4
  clear h4 k3 hk30 hk31 hk32
  have m4 := k4.size
  have hz24 : w2.heap.size < w4.heap.size := by omega
  go_wp2_with fail
  go_cut [] from 26 to 30 (fun wx => wx.cell? ⟨w3.heap.size, 0, none⟩ = some (.int .i64 (hiW (-(a * b) + (c - 1)))) ∧ wx.cell? ⟨w3.heap.size, 1, none⟩ = some (.int .u64 (loW (-(a * b) + (c - 1)))) ∧ wx.cell? ⟨w2.heap.size, 0, none⟩ = some (.bool true) ∧ Below w.heap.size w wx ∧ w4.heap.size ≤ wx.heap.size)
  case first =>
    have hwc1 : IntKind.i64.wrap (c - 1) = c - 1 := by rw [IntKind.wrap_i64]; omega
    go_region_with (first
      | (go_at_call 40; refine (widen_any (c - 1) _ (by omega) (by omega)).mono ?_; rintro e w5 ⟨rfl, h5⟩; have g0 := keep (W := w4.drew) h5 hz4 hd0; have g1 := keep (W := w4.drew) h5 hz4 hd1; have g2 := keep (W := w4.drew) h5 hz24 hk42; have gf0 := keepF (W := w4.drew) h5 hz4 hdf0; have gf1 := keepF (W := w4.drew) h5 hz4 hdf1; have k5 := below2 (W := w4.drew) k4.drew m4 h5; have m5 : w4.heap.size ≤ w5.heap.size := h5.size; have z5 : w3.heap.size < w5.heap.size := Nat.lt_of_lt_of_le hz4 m5; have z5' : w2.heap.size < w5.heap.size := Nat.lt_of_lt_of_le hz24 m5; clear h5)
      | (go_at_call 39; refine (plus_any (-(a * b)) (c - 1) _ (by omega) (by omega) (by omega) (by omega) (by omega) (by omega)).mono ?_; rintro e w6 ⟨rfl, h6⟩; have i0 := keep h6 z5 g0; have i1 := keep h6 z5 g1; have i2 := keep h6 z5' g2; have if0 := keepF h6 z5 gf0; have if1 := keepF h6 z5 gf1; have k6 := below2 k5 (Nat.le_trans m4 m5) h6; have m6 := Nat.le_trans m5 h6.size; clear h6))
    all_goals
      go_wp2_with fail
      go_meet
      case rel => exact ⟨(set2 _ _ i0 i1).1, (set2 _ _ i0 i1).2, set2_other _ _ (by omega) i2, (k6.setCell (by simp; omega) _).setCell (by simp; omega) _, by simp [World.setCell]; exact m6⟩
  case rest =>
    obtain ⟨hd0', hd1', hk5, k5, m5⟩ := hcut
    clear hd0 hd1 hdf0 hdf1 hk42
    go_wp2_with fail
    refine (over_no (-(a * b) + (c - 1)) c _ hN).mono ?_
    rintro e w6 ⟨rfl, h6⟩
    have k6 := below2 k5 (Nat.le_trans m4 m5) h6
    have m6 := k6.size
    go_wp2_with fail
    go_ret2
    exact ⟨rfl, k6.alloc m6 _⟩

theorem neg_div {p c : Int} (hc : 0 < c) : -((-p + (c - 1)) / c) = p / c := by
  have h1 := Int.emod_add_ediv_mul p c
  have h2 := Int.emod_nonneg p (show c ≠ 0 by omega)
  have h3 := Int.emod_lt_of_pos p hc
  have e : -p + (c - 1) = (c - 1 - p % c) + (-(p / c)) * c := by rw [Int.neg_mul]; omega
  rw [e, Int.add_mul_ediv_right _ _ (by omega), Int.ediv_eq_zero_of_lt (by omega) (by omega)]
  omega

/-- MulDiv: the product, parted and rounded down, or that it is too great. -/
theorem muldiv_any (a b c : Int) (w : World) (ha0 : -9223372036854775808 ≤ a) (ha1 : a ≤ 9223372036854775807) (hb0 : -9223372036854775808 ≤ b) (hb1 : b ≤ 9223372036854775807) (hc0 : 1 ≤ c) (hc1 : c ≤ 9223372036854775807) :
    Calls Try.prog 18 #[.int .i64 a, .int .i64 b, .int .i64 c] w fun e w' => e = .returned (.tuple #[.int .i64 (toldI (a * b / c)), .bool (fitsB (a * b / c))]) ∧ Below w.heap.size w w' := by
  by_cases hp : a * b < 0
  · by_cases hN : hiW (-(a * b) + (c - 1)) < c
    · have h := muldiv_down a b c w ha0 ha1 hb0 hb1 hc0 hc1 hp hN
      rw [show turnI true ((-(a * b) + (c - 1)) / c) = a * b / c by simp only [turnI, if_true]; exact neg_div (by omega)] at h
      exact h
    · have h := muldiv_down_great a b c w ha0 ha1 hb0 hb1 hc0 hc1 hp (by omega)
      have hq : 18446744073709551616 ≤ (-(a * b) + (c - 1)) / c := (Int.le_ediv_iff_mul_le (by omega)).2 (by unfold hiW at hN; omega)
      have hd := neg_div (p := a * b) (show 0 < c by omega)
      have hf : fitsB (a * b / c) = false := by unfold fitsB; simp; omega
      rw [hf, show toldI (a * b / c) = 0 by simp [toldI, hf]]
      exact h
  · by_cases hN : hiW (a * b) < c
    · exact muldiv_up a b c w ha0 ha1 hb0 hb1 hc0 hc1 (by omega) hN
    · have h := muldiv_up_great a b c w ha0 ha1 hb0 hb1 hc0 (by omega) (by omega)
      have hq : 18446744073709551616 ≤ a * b / c := (Int.le_ediv_iff_mul_le (by omega)).2 (by unfold hiW at hN; omega)
      have hf : fitsB (a * b / c) = false := by unfold fitsB; simp; omega
      rw [hf, show toldI (a * b / c) = 0 by simp [toldI, hf]]
      exact h

/-- The document's examples are as it says. -/
theorem lives_any (w : World) : Calls Try.prog 15 #[] w fun e w' => e = .returned (.bool true) ∧ Below w.heap.size w w' := by
  go_enter Try.func15, Try.ntmps15
  go_wp2_with fail
  refine (div_yes (-7) 2 _ (by omega) (by omega) (by omega) (by omega) (by omega) (by omega)).mono ?_
  rintro e w1 ⟨q, r, rfl, ⟨hd1, hd2⟩, k1⟩
  obtain ⟨rfl, rfl⟩ : q = -4 ∧ r = 1 := by omega
  clear hd1 hd2
  have m1 := k1.size
  go_wp2_with fail
  refine (muldiv_any 4611686018427387904 6 2 _ (by omega) (by omega) (by omega) (by omega) (by omega) (by omega)).mono ?_
  rw [show fitsB (4611686018427387904 * 6 / 2) = false from rfl, show toldI (4611686018427387904 * 6 / 2) = 0 from rfl]
  rintro e w2 ⟨rfl, h2⟩
  have k2 := below2 k1 m1 h2
  have m2 := k2.size
  go_wp2_with fail
  refine (cross_any 1 3 2 6 _ (by omega) (by omega) (by omega) (by omega) (by omega) (by omega) (by omega) (by omega)).mono ?_
  rw [show cmpI (1 * 6) (2 * 3) = 0 from rfl]
  rintro e w3 ⟨rfl, h3⟩
  go_wp2_with fail
  go_ret
  exact ⟨rfl, below2 k2 m2 h3⟩

end Go.Proofs.Ytlhiabfhokeihaa
