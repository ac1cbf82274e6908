/- Contracts of over and of MulDiv; the walk of lives: the document's examples are as it says. -/
import Derived.Test.YtlhiabfhokeihaaDivB
namespace Go.Proofs.Ytlhiabfhokeihaa
open Go.RowKit

theorem keep {W w1 : World} (hb : Below W.heap.size W w1) {b o : Nat} {v : Value} (hlt : b < W.heap.size) (h : W.cell? ⟨b, o, none⟩ = some v) : w1.cell? ⟨b, o, none⟩ = some v := by
  rw [(bcell hb).1 _ _ hlt]; exact h
theorem keepA {W w1 : World} {ob : Obj} (hb : Below (W.alloc ob).heap.size (W.alloc ob) w1) {b o : Nat} {v : Value} (hlt : b < W.heap.size) (h : W.cell? ⟨b, o, none⟩ = some v) : w1.cell? ⟨b, o, none⟩ = some v := by
  rw [(bcell hb).1 _ _ (by simp; omega), World.cell?_alloc_past _ _ _ hlt]; exact h
theorem keepN {W w1 : World} {c : Array Value} {t : TypeId} (hb : Below (W.alloc (.cells c t)).heap.size (W.alloc (.cells c t)) w1) {o : Nat} {v : Value} (h : c[o]? = some v) : w1.cell? ⟨W.heap.size, o, none⟩ = some v := by
  rw [(bcell hb).1 _ _ (by simp), World.cell?_alloc_at _ _ _ _ rfl]; exact h
theorem keepS {W w1 : World} {ob : Obj} (hb : Below (W.alloc ob).heap.size (W.alloc ob) w1) : W.heap.size < w1.heap.size := by
  have := hb.size; simp at this; omega
theorem belowA {B : Nat} {w W w1 : World} {ob : Obj} (k : Below B w W) (m : B ≤ W.heap.size) (hb : Below (W.alloc ob).heap.size (W.alloc ob) w1) : Below B w w1 :=
  (k.alloc m _).trans (hb.mono (by simp; omega))
theorem keepF {W w1 : World} (hb : Below W.heap.size W w1) {b o : Nat} (hlt : b < W.heap.size) (h : W.frozen? ⟨b, o, none⟩ = false) : w1.frozen? ⟨b, o, none⟩ = false := by
  rw [(bcell hb).2 _ _ hlt]; exact h
theorem below2 {B : Nat} {w W w1 : World} (k : Below B w W) (m : B ≤ W.heap.size) (hb : Below W.heap.size W w1) : Below B w w1 := k.trans (hb.mono m)

theorem over_no (V c : Int) (w : World) (h : c ≤ hiW V) :
    Calls Try.prog 41 #[.agg #[.int .i64 (hiW V), .int .u64 (loW V)], .int .i64 c] w fun e w' => e = .returned (.tuple #[.agg #[.int .i64 0, .int .u64 0], .bool false]) ∧ Below w.heap.size w w' := by
  go_enter Try.func41, Try.ntmps41
  go_wp2
  exact bodyPost_ret (v := .tuple #[.agg #[.int .i64 0, .int .u64 0], .bool false]) (by simp [results, Try.results41, go_sem]) rfl ⟨rfl, ((Below.refl _ _).alloc (Nat.le_refl _) _).alloc (by simp) _⟩

theorem hilo_div (V c : Int) (h0 : 0 ≤ V) (hc : 0 < c) (h : hiW V < c) : hiW (V / c) = 0 ∧ loW (V / c) = V / c := by
  have h1 : 0 ≤ V / c := Int.ediv_nonneg h0 (by omega)
  have h2 : V / c < 18446744073709551616 := Int.ediv_lt_of_lt_mul hc (by unfold hiW at h; omega)
  exact ⟨hi_small h1 h2, lo_small h1 h2⟩

theorem over_yes (V c : Int) (w : World) (hV0 : 0 ≤ V) (hV1 : V < 170141183460469231731687303715884105728) (hc0 : 0 < c) (hc1 : c ≤ 9223372036854775807) (h : hiW V < c) :
    Calls Try.prog 41 #[.agg #[.int .i64 (hiW V), .int .u64 (loW V)], .int .i64 c] w fun e w' => e = .returned (.tuple #[.agg #[.int .i64 (hiW (V / c)), .int .u64 (loW (V / c))], .bool true]) ∧ Below w.heap.size w w' := by
  obtain ⟨e1, e2⟩ := hilo_div V c hV0 hc0 h
  obtain ⟨b1, b2⟩ := hi_bd (V := V) (by omega) hV1
  obtain ⟨c1, c2⟩ := lo_bd' V
  have b0 : 0 ≤ hiW V := by unfold hiW; omega
  have HV : Hid (hiW V * 18446744073709551616 + loW V = V) := hilo V
  rw [e1, e2]
  clear e1 e2
  have hno : decide (c ≤ hiW V) = false := by simp; omega
  go_enter Try.func41, Try.ntmps41
  go_wp2_with fail
  refine (div64_any (hiW V) (loW V) c _ b0 h c1 c2 (by omega)).mono ?_
  rw [HV.out]
  rintro e w1 ⟨⟨r, rfl⟩, hb⟩
  have hk0 : w1.cell? ⟨w.heap.size + 1, 0, none⟩ = some (.int .i64 0) := by rw [(bcell hb).1 _ _ (by simp)]; simp [go_sem]
  have hk1 : w1.cell? ⟨w.heap.size + 1, 1, none⟩ = some (.int .u64 0) := by rw [(bcell hb).1 _ _ (by simp)]; simp [go_sem]
  have hf0 : w1.frozen? ⟨w.heap.size + 1, 0, none⟩ = false := by rw [(bcell hb).2 _ _ (by simp)]; simp [go_sem]
  have hf1 : w1.frozen? ⟨w.heap.size + 1, 1, none⟩ = false := by rw [(bcell hb).2 _ _ (by simp)]; simp [go_sem]
  go_wp2_with fail
  exact bodyPost_ret (v := .tuple #[.agg #[.int .i64 0, .int .u64 (V / c)], .bool true]) (by simp [results, Try.results41, go_sem, hk0, hk1]) rfl ⟨rfl, (((((Below.refl _ _).alloc (Nat.le_refl _) _).alloc (by simp) _).trans (hb.mono (by simp; omega))).setCell (by simp) _).setCell (by simp) _⟩

theorem muldiv_no (a b c : Int) (w : World) (h : c < 1) :
    Calls Try.prog 18 #[.int .i64 a, .int .i64 b, .int .i64 c] w fun e w' => e = .returned (.tuple #[.int .i64 0, .bool false]) ∧ w' = w := by
  go_enter Try.func18, Try.ntmps18
  go_wp2
  go_ret2
  exact ⟨rfl, rfl⟩

set_option maxHeartbeats 1000000 in
theorem muldiv_up (a b c : Int) (w : World) (ha0 : -9223372036854775808 ≤ a) (ha1 : a ≤ 9223372036854775807) (hb0 : -9223372036854775808 ≤ b) (hb1 : b ≤ 9223372036854775807) (hc0 : 1 ≤ c) (hc1 : c ≤ 9223372036854775807) (hp : 0 ≤ a * b) (hN : hiW (a * b) < c) :
    Calls Try.prog 18 #[.int .i64 a, .int .i64 b, .int .i64 c] w fun e w' => e = .returned (.tuple #[.int .i64 (toldI (turnI false ((a * b) / c))), .bool (fitsB (turnI false ((a * b) / c)))]) ∧ Below w.heap.size w w' := by
  obtain ⟨p0, p1⟩ := prod_bd ha0 ha1 hb0 hb1
  have hneg : decide (hiW (a * b) < 0) = false := by simp; unfold hiW; omega
  have HT : Hid (turnI false (a * b) = a * b) := by unfold Hid; simp [turnI]
  have hc2 : decide (c < 1) = false := by simp; omega
  have hq0 : 0 ≤ (a * b) / c := Int.ediv_nonneg (by omega) (by omega)
  have hq1 : (a * b) / c < 18446744073709551616 := Int.ediv_lt_of_lt_mul (by omega) (by unfold hiW at hN; omega)
  go_enter Try.func18, Try.ntmps18
  go_wp2_with fail
  refine (times_any a b _ ha0 ha1 hb0 hb1).mono ?_
  rintro e w1 ⟨rfl, k1⟩
  have m1 := k1.size
  go_wp2_with fail
  refine (below_any (a * b) _).mono ?_
  rw [hneg]
  rintro e w2 ⟨rfl, h2⟩
  go_wp2_with fail
  refine (turner_any _ _).mono ?_
  rintro e w3 ⟨rfl, hw3⟩
  rw [hw3]
  clear hw3 w3
  have hz := keepS h2
  have hk0 : w2.cell? ⟨w1.heap.size, 0, none⟩ = some (.int .i64 (hiW (a * b))) := keepN h2 rfl
  have hk1 : w2.cell? ⟨w1.heap.size, 1, none⟩ = some (.int .u64 (loW (a * b))) := keepN h2 rfl
  have k2 := belowA k1 m1 h2
  clear h2 k1
  have m2 := k2.size
  go_wp2_with fail
  refine (turn_any (a * b) false w2.heap.size 0 _ (by simp) (by simp [go_sem]) (by omega) (by omega)).mono ?_
  rw [HT.out]
  rintro e w3 ⟨rfl, h3⟩
  have hz3 := keepS h3
  have hk30 := keepA h3 hz hk0
  have hk31 := keepA h3 hz hk1
  have hk32 : w3.cell? ⟨w2.heap.size, 0, none⟩ = some (.bool false) := keepN h3 rfl
  have k3 := belowA k2 m2 h3
  clear h3 k2 hk0 hk1
  have m3 := k3.size
  have hz13 : w1.heap.size < w3.heap.size := by omega
  go_wp2_with fail
  refine (below_any (a * b) _).mono ?_
  rw [hneg]
  rintro e w4 ⟨rfl, h4⟩
  have hz4 := keepS h4
  have hk42 := keepA h4 hz3 hk32
  have hd0 : w4.cell? ⟨w3.heap.size, 0, none⟩ = some (.int .i64 (hiW (a * b))) := keepN h4 rfl
  have hd1 : w4.cell? ⟨w3.heap.size, 1, none⟩ = some (.int .u64 (loW (a * b))) := keepN h4 rfl
  have hdf0 : w4.frozen? ⟨w3.heap.size, 0, none⟩ = false := by rw [(bcell h4).2 _ _ (by simp)]; simp [go_sem]
  have hdf1 : w4.frozen? ⟨w3.heap.size, 1, none⟩ = false := by rw [(bcell h4).2 _ _ (by simp)]; simp [go_sem]
  have k4 := belowA k3 m3 h4
  clear h4 k3 hk30 hk31 hk32
  have m4 := k4.size
  have hz24 : w2.heap.size < w4.heap.size := by omega
  go_wp2_with fail
  refine (over_yes (a * b) c _ (by omega) (by omega) (by omega) hc1 hN).mono ?_
  rintro e w6 ⟨rfl, h6⟩
  have hk6 := keep h6 hz24 hk42
  have k6 := below2 k4 m4 h6
  have m6 := k6.size
  have hz6 : w2.heap.size < w6.heap.size := by have := h6.size; omega
  clear h6 k4 hk42
  go_wp2_with fail
  refine (turn_any ((a * b) / c) false w2.heap.size 0 _ (by simp; omega) (by simp [go_sem, hz6, hk6]) (by omega) (by omega)).mono ?_
  rintro e w7 ⟨rfl, h7⟩
  have k7 := belowA k6 m6 h7
  have m7 := k7.size
  go_wp2_with fail
  refine (whole_any (turnI false ((a * b) / c)) _).mono ?_
  rintro e w8 ⟨rfl, h8⟩
  go_wp2_with fail
  go_ret2
  exact ⟨rfl, below2 k7 m7 h8⟩

set_option maxHeartbeats 1000000 in
theorem muldiv_up_great (a b c : Int) (w : World) (ha0 : -9223372036854775808 ≤ a) (ha1 : a ≤ 9223372036854775807) (hb0 : -9223372036854775808 ≤ b) (hb1 : b ≤ 9223372036854775807) (hc0 : 1 ≤ c) (hp : 0 ≤ a * b) (hN : c ≤ hiW (a * b)) :
    Calls Try.prog 18 #[.int .i64 a, .int .i64 b, .int .i64 c] w fun e w' => e = .returned (.tuple #[.int .i64 0, .bool false]) ∧ Below w.heap.size w w' := by
  obtain ⟨p0, p1⟩ := prod_bd ha0 ha1 hb0 hb1
  have hneg : decide (hiW (a * b) < 0) = false := by simp; unfold hiW; omega
  have HT : Hid (turnI false (a * b) = a * b) := by unfold Hid; simp [turnI]
  have hc2 : decide (c < 1) = false := by simp; omega
  go_enter Try.func18, Try.ntmps18
  go_wp2_with fail
  refine (times_any a b _ ha0 ha1 hb0 hb1).mono ?_
  rintro e w1 ⟨rfl, k1⟩
  have m1 := k1.size
  go_wp2_with fail
  refine (below_any (a * b) _).mono ?_
  rw [hneg]
  rintro e w2 ⟨rfl, h2⟩
  go_wp2_with fail
  refine (turner_any _ _).mono ?_
  rintro e w3 ⟨rfl, hw3⟩
  rw [hw3]
  clear hw3 w3
  have hz := keepS h2
  have hk0 : w2.cell? ⟨w1.heap.size, 0, none⟩ = some (.int .i64 (hiW (a * b))) := keepN h2 rfl
  have hk1 : w2.cell? ⟨w1.heap.size, 1, none⟩ = some (.int .u64 (loW (a * b))) := keepN h2 rfl
  have k2 := belowA k1 m1 h2
  clear h2 k1
  have m2 := k2.size
  go_wp2_with fail
  refine (turn_any (a * b) false w2.heap.size 0 _ (by simp) (by simp [go_sem]) (by omega) (by omega)).mono ?_
  rw [HT.out]
  rintro e w3 ⟨rfl, h3⟩
  have hz3 := keepS h3
  have hk30 := keepA h3 hz hk0
  have hk31 := keepA h3 hz hk1
  have hk32 : w3.cell? ⟨w2.heap.size, 0, none⟩ = some (.bool false) := keepN h3 rfl
  have k3 := belowA k2 m2 h3
  clear h3 k2 hk0 hk1
  have m3 := k3.size
  have hz13 : w1.heap.size < w3.heap.size := by omega
  go_wp2_with fail
  refine (below_any (a * b) _).mono ?_
  rw [hneg]
  rintro e w4 ⟨rfl, h4⟩
  have hz4 := keepS h4
  have hk42 := keepA h4 hz3 hk32
  have hd0 : w4.cell? ⟨w3.heap.size, 0, none⟩ = some (.int .i64 (hiW (a * b))) := keepN h4 rfl
  have hd1 : w4.cell? ⟨w3.heap.size, 1, none⟩ = some (.int .u64 (loW (a * b))) := keepN h4 rfl
  have hdf0 : w4.frozen? ⟨w3.heap.size, 0, none⟩ = false := by rw [(bcell h4).2 _ _ (by simp)]; simp [go_sem]
  have hdf1 : w4.frozen? ⟨w3.heap.size, 1, none⟩ = false := by rw [(bcell h4).2 _ _ (by simp)]; simp [go_sem]
  have k4 := belowA k3 m3 h4
  clear h4 k3 hk30 hk31 hk32
  have m4 := k4.size
  have hz24 : w2.heap.size < w4.heap.size := by omega
  go_wp2_with fail
  refine (over_no (a * b) c _ hN).mono ?_
  rintro e w6 ⟨rfl, h6⟩
  have k6 := below2 k4 m4 h6
  have m6 := k6.size
  go_wp2_with fail
  go_ret2
  exact ⟨rfl, k6.alloc m6 _⟩

end Go.Proofs.Ytlhiabfhokeihaa
