/- Contracts of the functions of num that reckon in two words: size, bits.Mul64, turner and its closure, widen, minus, plus, times, whole, compare, below. -/
import Derived.Test.YtdfccjhmpgoacaaRows
import Derived.Test.YtdfccjhmpgoacaaNNums
import Derived.WalkKit
import Derived.WalkSpells
import Derived.BigQuiet
import Derived.Deep.RegionWith
import Derived.Below
import Derived.Shelf.Spec.BitsCarry
namespace Go.Proofs.Ytdfccjhmpgoacaa.Big
open Go.RowKit

/-- Behind a call that makes memory alone every cell that was there reads as it did, and may be written as it might. -/
theorem bcell {W V : World} (h : Below W.heap.size W V) :
    (∀ n o, n < W.heap.size → V.cell? ⟨n, o, none⟩ = W.cell? ⟨n, o, none⟩) ∧ (∀ n o, n < W.heap.size → V.frozen? ⟨n, o, none⟩ = W.frozen? ⟨n, o, none⟩) := by
  constructor
  · intro n o hn
    exact h.cell (p := ⟨n, o, none⟩) hn
  · intro n o hn
    exact h.frozen (p := ⟨n, o, none⟩) hn

theorem sub64 (x y b : Int) (hx : 0 ≤ x) (hy : 0 ≤ y) (hy' : y < 18446744073709551616) (hb0 : 0 ≤ b) (hb : b ≤ 1) (w : World) : (callFunc 59 #[.int .u64 x, .int .u64 y, .int .u64 b]).run Try.prog w =
    .ok (.value (.tuple #[.int .u64 ((x - y - b) % 18446744073709551616), .int .u64 (borI x (y + b))])) w := by
  obtain ⟨x, rfl⟩ := Int.eq_ofNat_of_zero_le hx
  obtain ⟨y, rfl⟩ := Int.eq_ofNat_of_zero_le hy
  obtain ⟨b, rfl⟩ := Int.eq_ofNat_of_zero_le hb0
  have e1 : (((x + 18446744073709551616 - y - b) % 18446744073709551616 : Nat) : Int) = ((x : Int) - y - b) % 18446744073709551616 := by omega
  have e2 : ((if x < y + b then 1 else 0 : Nat) : Int) = borI x (y + b) := by unfold borI; split <;> split <;> omega
  rw [← e1, ← e2, run_callFunc_extern Try.func59 (by kernel_rfl) (by kernel_rfl) (by kernel_rfl) (e := sub64Entry) (by kernel_rfl), run_sub64 x y b (by omega)]
  rfl
theorem sub64_0 (x y : Int) (hx : 0 ≤ x) (hy : 0 ≤ y) (hy' : y < 18446744073709551616) (w : World) : (callFunc 59 #[.int .u64 x, .int .u64 y, .int .u64 0]).run Try.prog w =
    .ok (.value (.tuple #[.int .u64 ((x - y) % 18446744073709551616), .int .u64 (borI x y)])) w := by
  simpa using sub64 x y 0 hx hy hy' (Int.le_refl 0) (by decide) w
theorem size_any (a : Int) (w : World) (h0 : -9223372036854775808 ≤ a) (h1 : a ≤ 9223372036854775807) :
    Calls Try.prog 58 #[.int .i64 a] w fun e w' => e = .returned (.int .u64 (absI a)) ∧ w' = w := by
  unfold absI
  by_cases h : a < 0
  · rw [if_pos h]
    go_enter Try.func58, Try.ntmps58
    go_wp2
    go_ret
    exact ⟨by go_num, rfl⟩
  · rw [if_neg h]
    go_enter Try.func58, Try.ntmps58
    go_wp2
    go_ret
    exact ⟨by go_num, rfl⟩

theorem ret_pair {k l : IntKind} {a b c d : Int} (h : a = b) (h' : c = d) : Ending.returned (.tuple #[.int k a, .int l c]) = .returned (.tuple #[.int k b, .int l d]) := by rw [h, h']

set_option maxHeartbeats 1000000 in
theorem mul64_any (x y : Int) (hx0 : 0 ≤ x) (hx : x < 18446744073709551616) (hy0 : 0 ≤ y) (hy : y < 18446744073709551616) (w : World) :
    Calls Try.prog 57 #[.int .u64 x, .int .u64 y] w fun e w' => e = .returned (.tuple #[.int .u64 (hiW (x * y)), .int .u64 (loW (x * y))]) ∧ w' = w := by
  go_enter Try.func57, Try.ntmps57
  go_wp2
  go_ret2
  refine ⟨ret_pair ?_ ?_, rfl⟩
  · rw [and_low32 x hx0 hx, and_low32 y hy0 hy, and_low32 _ (wrap_u64_nonneg _) (by rw [IntKind.wrap_u64]; omega)]
    simp only [IntKind.wrap_u64]
    rw [mul64_arith x y hx0 hx hy0 hy]
    rfl
  · rw [IntKind.wrap_u64]; rfl

theorem turner_any (b : Bool) (w : World) :
    Calls Try.prog 49 #[.bool b] w fun e w' => e = .returned (.func (.func 60) #[] #[.pointer (some ⟨w.heap.size, 0, none⟩)]) ∧ w' = w.alloc (.cells #[.bool b] 4) := by
  have hmf : ∀ (fn : Fn) (first cap : Array Value) (w : World), (Instr.makeFunc fn first cap).run Try.prog w = .ok (.func fn first cap) w := fun _ _ _ _ => rfl
  go_enter Try.func49, Try.ntmps49
  go_wp2
  go_ret
  exact ⟨rfl, rfl⟩

theorem lo_wrap (a : Int) : loW a = IntKind.u64.wrap a := by rw [IntKind.wrap_u64]; rfl

theorem wbd (x : Int) : 0 ≤ IntKind.u64.wrap x ∧ IntKind.u64.wrap x < 18446744073709551616 := by rw [IntKind.wrap_u64]; omega

theorem minus_any (V U : Int) (w : World) (hV0 : -170141183460469231731687303715884105728 ≤ V) (hV1 : V < 170141183460469231731687303715884105728) (hU0 : -170141183460469231731687303715884105728 ≤ U) (hU1 : U < 170141183460469231731687303715884105728) (hD0 : -170141183460469231731687303715884105728 ≤ V - U) (hD1 : V - U < 170141183460469231731687303715884105728) :
    Calls Try.prog 48 #[.agg #[.int .i64 (hiW V), .int .u64 (loW V)], .agg #[.int .i64 (hiW U), .int .u64 (loW U)]] w fun e w' => e = .returned (.agg #[.int .i64 (hiW (V - U)), .int .u64 (loW (V - U))]) ∧ Below w.heap.size w w' := by
  obtain ⟨a1, a2⟩ := hi_bd hV0 hV1
  obtain ⟨b1, b2⟩ := hi_bd hU0 hU1
  obtain ⟨c1, c2⟩ := lo_bd' V
  obtain ⟨d1, d2⟩ := lo_bd' U
  obtain ⟨k0, k1⟩ := bor_bd (loW V) (loW U)
  obtain ⟨e1, e2⟩ := wbd (hiW V)
  obtain ⟨f1, f2⟩ := wbd (hiW U)
  have HL := sub_lo V U
  have HH := sub_hi V U hD0 hD1
  have HH2 : wrap64 ((IntKind.u64.wrap (hiW V) - IntKind.u64.wrap (hiW U) - borI (loW V) (loW U)) % 18446744073709551616) = hiW (V - U) := by
    rw [← HH]; simp only [IntKind.wrap_u64, wrap64]
  rw [← HL, ← HH2]
  clear hD0 hD1 hV0 hV1 hU0 hU1 HL HH HH2
  generalize loW V = vl at *
  generalize loW U = ul at *
  generalize hiW V = vh at *
  generalize hiW U = uh at *
  go_enter Try.func48, Try.ntmps48
  go_wp2_with (first | simp only [sub64_0 vl ul c1 d1 d2] | simp only [sub64 (IntKind.u64.wrap vh) (IntKind.u64.wrap uh) (borI vl ul) e1 f1 f2 k0 k1])
  exact bodyPost_ret (v := .agg #[.int .i64 (wrap64 ((IntKind.u64.wrap vh - IntKind.u64.wrap uh - borI vl ul) % 18446744073709551616)), .int .u64 ((vl - ul) % 18446744073709551616)]) (by simp [results, Try.results48, go_sem]) rfl ⟨rfl, (((Below.refl _ _).alloc (Nat.le_refl _) _).alloc (by simp) _).alloc (by simp; omega) _⟩

theorem below_any (V : Int) (w : World) :
    Calls Try.prog 50 #[.agg #[.int .i64 (hiW V), .int .u64 (loW V)]] w fun e w' => e = .returned (.bool (decide (hiW V < 0))) ∧ Below w.heap.size w w' := by
  go_enter Try.func50, Try.ntmps50
  go_wp2
  go_ret
  exact ⟨rfl, (Below.refl _ _).alloc (Nat.le_refl _) _⟩

theorem turn_any (V : Int) (b : Bool) (pb po : Nat) (w : World) (hp : pb < w.heap.size) (hc : w.cell? ⟨pb, po, none⟩ = some (.bool b)) (hV0 : -170141183460469231731687303715884105728 < V) (hV1 : V < 170141183460469231731687303715884105728) :
    Calls Try.prog 60 #[.agg #[.int .i64 (hiW V), .int .u64 (loW V)], .pointer (some ⟨pb, po, none⟩)] w fun e w' => e = .returned (.agg #[.int .i64 (hiW (turnI b V)), .int .u64 (loW (turnI b V))]) ∧ Below w.heap.size w w' := by
  cases b
  · rw [show turnI false V = V from rfl]
    go_enter Try.func60, Try.ntmps60
    go_wp2
    exact bodyPost_ret (v := .agg #[.int .i64 (hiW V), .int .u64 (loW V)]) (by simp [results, Try.results60, go_sem]) rfl ⟨rfl, ((Below.refl _ _).alloc (Nat.le_refl _) _).alloc (by simp) _⟩
  · rw [show turnI true V = -V by simp [turnI]]
    have km : ∀ w1, Calls Try.prog 48 #[.agg #[.int .i64 0, .int .u64 0], .agg #[.int .i64 (hiW V), .int .u64 (loW V)]] w1 fun e w' => e = .returned (.agg #[.int .i64 (hiW (-V)), .int .u64 (loW (-V))]) ∧ Below w1.heap.size w1 w' := by
      intro w1
      have h := minus_any 0 V w1 (by omega) (by omega) (by omega) (by omega) (by omega) (by omega)
      rw [Int.zero_sub] at h
      exact h
    go_enter Try.func60, Try.ntmps60
    go_wp2_with fail
    refine (km _).mono ?_
    rintro e w1 ⟨rfl, hb⟩
    obtain ⟨hc1, hf1⟩ := bcell hb
    go_wp2_with fail
    exact bodyPost_ret (v := .agg #[.int .i64 (hiW (-V)), .int .u64 (loW (-V))]) (by simp [results, Try.results60, go_sem, hc1]) rfl ⟨rfl, (((((Below.refl _ _).alloc (Nat.le_refl _) _).alloc (by simp) _).trans (hb.mono (by simp; omega))).setCell (by simp) _).setCell (by simp) _⟩

theorem times_any (a b : Int) (w : World) (ha0 : -9223372036854775808 ≤ a) (ha1 : a ≤ 9223372036854775807) (hb0 : -9223372036854775808 ≤ b) (hb1 : b ≤ 9223372036854775807) :
    Calls Try.prog 47 #[.int .i64 a, .int .i64 b] w fun e w' => e = .returned (.agg #[.int .i64 (hiW (a * b)), .int .u64 (loW (a * b))]) ∧ Below w.heap.size w w' := by
  obtain ⟨a1, a2⟩ := abs_bd ha0 ha1
  obtain ⟨b1, b2⟩ := abs_bd hb0 hb1
  have p0 : 0 ≤ absI a * absI b := Int.mul_nonneg a1 b1
  have p1 : absI a * absI b ≤ 9223372036854775808 * 9223372036854775808 := Int.mul_le_mul a2 b2 b1 (by omega)
  have hp1 := hi_bd (V := absI a * absI b) (by omega) (by omega)
  have hp2 : 0 ≤ hiW (absI a * absI b) := by unfold hiW; omega
  have HT : Hid (turnI (!(decide (a < 0) == decide (b < 0))) (absI a * absI b) = a * b) := turn_abs a b
  go_enter Try.func47, Try.ntmps47
  go_wp2_with fail
  refine (size_any a _ ha0 ha1).mono ?_
  rintro e w1 ⟨rfl, rfl⟩
  go_wp2_with fail
  refine (size_any b _ hb0 hb1).mono ?_
  rintro e w1 ⟨rfl, rfl⟩
  go_wp2_with fail
  refine (mul64_any (absI a) (absI b) a1 (by omega) b1 (by omega) _).mono ?_
  rintro e w1 ⟨rfl, rfl⟩
  go_wp2_with fail
  refine (turner_any _ _).mono ?_
  rintro e w1 ⟨rfl, rfl⟩
  go_wp2_with fail
  refine (turn_any (absI a * absI b) (!(decide (a < 0) == decide (b < 0))) (w.heap.size + 1) 0 _ (by simp) (by simp [go_sem]) (by omega) (by omega)).mono ?_
  rw [HT.out]
  rintro e w1 ⟨rfl, hb⟩
  obtain ⟨hc1, hf1⟩ := bcell hb
  have hk0 : w1.cell? ⟨w.heap.size, 0, none⟩ = some (.int .i64 0) := by rw [hc1 _ _ (by simp; omega)]; simp [go_sem, World.cell?_alloc_past]
  have hk1 : w1.cell? ⟨w.heap.size, 1, none⟩ = some (.int .u64 0) := by rw [hc1 _ _ (by simp; omega)]; simp [go_sem, World.cell?_alloc_past]
  go_wp2_with fail
  exact bodyPost_ret (v := .agg #[.int .i64 (hiW (a * b)), .int .u64 (loW (a * b))]) (by simp [results, Try.results47, go_sem, hk0, hk1]) rfl ⟨rfl, (((((Below.refl _ _).alloc (Nat.le_refl _) _).alloc (by simp) _).trans (hb.mono (by simp; omega))).setCell (by simp) _).setCell (by simp) _⟩

theorem cmp_eq {V U : Int} (h : hiW V = hiW U) (l : loW V = loW U) : cmpI V U = 0 := by
  unfold cmpI; rw [if_pos (hilo_eq h l)]
theorem cmp_lt1 {V U : Int} (h : hiW V = hiW U) (l : loW V < loW U) : cmpI V U = -1 := by
  have a := hilo V; have b := hilo U
  unfold cmpI; rw [if_neg (by omega), if_pos (by omega)]
theorem cmp_lt2 {V U : Int} (h : hiW V < hiW U) : cmpI V U = -1 := by
  have a := hilo V; have b := hilo U; have c := lo_bd V; have d := lo_bd U
  unfold cmpI; rw [if_neg (by omega), if_pos (by omega)]
theorem cmp_gt1 {V U : Int} (h : hiW V = hiW U) (l : ¬ loW V = loW U) (l' : ¬ loW V < loW U) : cmpI V U = 1 := by
  have a := hilo V; have b := hilo U
  unfold cmpI; rw [if_neg (by omega), if_neg (by omega)]
theorem cmp_gt2 {V U : Int} (h : ¬ hiW V = hiW U) (h' : ¬ hiW V < hiW U) : cmpI V U = 1 := by
  have a := hilo V; have b := hilo U; have c := lo_bd V; have d := lo_bd U
  unfold cmpI; rw [if_neg (by omega), if_neg (by omega)]

theorem compare_any (V U : Int) (w : World) :
    Calls Try.prog 51 #[.agg #[.int .i64 (hiW V), .int .u64 (loW V)], .agg #[.int .i64 (hiW U), .int .u64 (loW U)]] w fun e w' => e = .returned (.int .i64 (cmpI V U)) ∧ Below w.heap.size w w' := by
  by_cases h : hiW V = hiW U
  · by_cases l : loW V = loW U
    · rw [cmp_eq h l]
      go_enter Try.func51, Try.ntmps51
      go_wp2
      go_ret
      exact ⟨rfl, ((Below.refl _ _).alloc (Nat.le_refl _) _).alloc (by simp) _⟩
    · by_cases m : loW V < loW U
      · rw [cmp_lt1 h m]
        go_enter Try.func51, Try.ntmps51
        go_wp2
        go_ret
        exact ⟨rfl, ((Below.refl _ _).alloc (Nat.le_refl _) _).alloc (by simp) _⟩
      · rw [cmp_gt1 h l m]
        go_enter Try.func51, Try.ntmps51
        go_wp2
        go_ret
        exact ⟨rfl, ((Below.refl _ _).alloc (Nat.le_refl _) _).alloc (by simp) _⟩
  · by_cases m : hiW V < hiW U
    · rw [cmp_lt2 m]
      go_enter Try.func51, Try.ntmps51
      go_wp2
      go_ret
      exact ⟨rfl, ((Below.refl _ _).alloc (Nat.le_refl _) _).alloc (by simp) _⟩
    · rw [cmp_gt2 h m]
      go_enter Try.func51, Try.ntmps51
      go_wp2
      go_ret
      exact ⟨rfl, ((Below.refl _ _).alloc (Nat.le_refl _) _).alloc (by simp) _⟩

theorem wrap_lo {V : Int} (h : fitsB V = true) : wrap64 (loW V) = V := by
  unfold fitsB at h; simp at h; unfold wrap64 loW; omega
theorem wrap_lo_ne {V : Int} (h : fitsB V = false) : ¬ hiW V = hiW (wrap64 (loW V)) := by
  unfold fitsB at h; simp at h; unfold wrap64 loW hiW; omega
theorem wrap64_bd (x : Int) : -9223372036854775808 ≤ wrap64 x ∧ wrap64 x ≤ 9223372036854775807 := by
  unfold wrap64; omega

end Go.Proofs.Ytdfccjhmpgoacaa.Big
