/- Contracts of num's Mul, Cross and Div. -/
import Derived.Test.YtkeoccjobcdldaaBigWide
namespace Go.Proofs.Ytkeoccjobcdldaa.Big
open Go.RowKit
theorem mul_any (a b : Int) (w : World) (ha0 : -9223372036854775808 ≤ a) (ha1 : a ≤ 9223372036854775807) (hb0 : -9223372036854775808 ≤ b) (hb1 : b ≤ 9223372036854775807) :
    Calls Try.prog 26 #[.int .i64 a, .int .i64 b] w fun e w' => e = .returned (.tuple #[.int .i64 (toldI (a * b)), .bool (fitsB (a * b))]) ∧ Below w.heap.size w w' := by
  go_enter Try.func26, Try.ntmps26
  go_wp2_with fail
  refine (times_any a b _ ha0 ha1 hb0 hb1).mono ?_
  rintro e w1 ⟨rfl, hb⟩
  go_wp2_with fail
  refine (whole_any (a * b) _).mono ?_
  rintro e w2 ⟨rfl, hb2⟩
  go_wp2_with fail
  go_ret2
  exact ⟨rfl, hb.trans (hb2.mono hb.size)⟩
theorem cross_any (a b c d : Int) (w : World) (ha0 : -9223372036854775808 ≤ a) (ha1 : a ≤ 9223372036854775807) (hb0 : -9223372036854775808 ≤ b) (hb1 : b ≤ 9223372036854775807) (hc0 : -9223372036854775808 ≤ c) (hc1 : c ≤ 9223372036854775807) (hd0 : -9223372036854775808 ≤ d) (hd1 : d ≤ 9223372036854775807) :
    Calls Try.prog 37 #[.int .i64 a, .int .i64 b, .int .i64 c, .int .i64 d] w fun e w' => e = .returned (.int .i64 (cmpI (a * d) (c * b))) ∧ Below w.heap.size w w' := by
  go_enter Try.func37, Try.ntmps37
  go_wp2_with fail
  refine (times_any a d _ ha0 ha1 hd0 hd1).mono ?_
  rintro e w1 ⟨rfl, h1⟩
  go_wp2_with fail
  refine (times_any c b _ hc0 hc1 hb0 hb1).mono ?_
  rintro e w2 ⟨rfl, h2⟩
  go_wp2_with fail
  refine (compare_any (a * d) (c * b) _).mono ?_
  rintro e w3 ⟨rfl, h3⟩
  go_wp2_with fail
  go_ret
  exact ⟨rfl, (h1.trans (h2.mono h1.size)).trans (h3.mono (Nat.le_trans h1.size h2.size))⟩


/-- What a quotient and a rest are: the rest has the sign of what parted it, or is 0, and is less. -/
def DivOf (a b q r : Int) : Prop := q * b + r = a ∧ (0 < b ∧ 0 ≤ r ∧ r < b ∨ b < 0 ∧ r ≤ 0 ∧ b < r)

theorem natAbs_tdiv_le (a b : Int) : (a.tdiv b).natAbs ≤ a.natAbs := by
  rw [Int.natAbs_tdiv]; exact Nat.div_le_self _ _
theorem natAbs_tmod_lt (a : Int) {b : Int} (hb : ¬ b = 0) : (a.tmod b).natAbs < b.natAbs := by
  rw [Int.natAbs_tmod]; exact Nat.mod_lt _ (by omega)
theorem tdiv_bd {a b : Int} (ha0 : -9223372036854775808 ≤ a) (ha1 : a ≤ 9223372036854775807) (hb : ¬ b = 0) (hn : ¬ (a = -9223372036854775808 ∧ b = -1)) : -9223372036854775808 ≤ a.tdiv b ∧ a.tdiv b ≤ 9223372036854775807 := by
  have h := natAbs_tdiv_le a b
  refine ⟨by omega, ?_⟩
  by_cases ha : a = -9223372036854775808
  · subst ha
    have hb1 : ¬ b = -1 := by omega
    have h2 : ((-9223372036854775808 : Int).tdiv b).natAbs = 9223372036854775808 / b.natAbs := by rw [Int.natAbs_tdiv]; rfl
    by_cases hb2 : b = 1
    · subst hb2; decide
    · have h3 : 9223372036854775808 / b.natAbs ≤ 9223372036854775808 / 2 := Nat.div_le_div_left (by omega) (by omega)
      omega
  · omega
theorem tmod_bd {a b : Int} (hb0 : -9223372036854775808 ≤ b) (hb1 : b ≤ 9223372036854775807) (hb : ¬ b = 0) : -9223372036854775808 < a.tmod b ∧ a.tmod b ≤ 9223372036854775807 := by
  have h := natAbs_tmod_lt a hb
  omega
/-- Rounded down: what Go's quotient and rest come to. -/
theorem div_fix {a b : Int} (hb : ¬ b = 0) (h : ¬ a.tmod b = 0) (hs : ¬ (a.tmod b < 0 ↔ b < 0)) : DivOf a b (a.tdiv b - 1) (a.tmod b + b) := by
  have h1 := natAbs_tmod_lt a hb
  have h2 := Int.tdiv_mul_add_tmod a b
  refine ⟨by rw [Int.sub_mul]; omega, ?_⟩
  by_cases hb' : b < 0
  · exact Or.inr ⟨hb', by omega, by omega⟩
  · exact Or.inl ⟨by omega, by omega, by omega⟩
theorem div_stay {a b : Int} (hb : ¬ b = 0) (h : a.tmod b = 0 ∨ (a.tmod b < 0 ↔ b < 0)) : DivOf a b (a.tdiv b) (a.tmod b) := by
  have h1 := natAbs_tmod_lt a hb
  have h2 := Int.tdiv_mul_add_tmod a b
  refine ⟨h2, ?_⟩
  by_cases hb' : b < 0
  · exact Or.inr ⟨hb', by omega, by omega⟩
  · exact Or.inl ⟨by omega, by omega, by omega⟩

theorem div_no (a b : Int) (w : World) (h : b = 0 ∨ a = -9223372036854775808 ∧ b = -1) :
    Calls Try.prog 25 #[.int .i64 a, .int .i64 b] w fun e w' => e = .returned (.tuple #[.int .i64 0, .int .i64 0, .bool false]) ∧ w' = w := by
  rcases h with rfl | ⟨rfl, rfl⟩
  · go_enter Try.func25, Try.ntmps25
    go_wp2
    go_ret3
    exact ⟨rfl, rfl⟩
  · go_enter Try.func25, Try.ntmps25
    go_wp2
    go_ret3
    exact ⟨rfl, rfl⟩

theorem div_yes (a b : Int) (w : World) (ha0 : -9223372036854775808 ≤ a) (ha1 : a ≤ 9223372036854775807) (hb0 : -9223372036854775808 ≤ b) (hb1 : b ≤ 9223372036854775807) (hb : ¬ b = 0) (hn : ¬ (a = -9223372036854775808 ∧ b = -1)) :
    Calls Try.prog 25 #[.int .i64 a, .int .i64 b] w fun e w' => ∃ q r : Int, e = .returned (.tuple #[.int .i64 q, .int .i64 r, .bool true]) ∧ DivOf a b q r ∧ Below w.heap.size w w' := by
  obtain ⟨q0, q1⟩ := tdiv_bd ha0 ha1 hb hn
  obtain ⟨r0, r1⟩ := tmod_bd (a := a) hb0 hb1 hb
  have hbb : (b == 0) = false := by simpa using hb
  have hmn : (a == -9223372036854775808) = false ∨ (a == -9223372036854775808) = true ∧ (b == -1) = false := by
    by_cases h : a = -9223372036854775808
    · exact Or.inr ⟨by simpa using h, by simp; omega⟩
    · exact Or.inl (by simpa using h)
  clear hn
  by_cases hr : a.tmod b = 0
  · have hD : Hid (DivOf a b (a.tdiv b) (a.tmod b)) := div_stay hb (Or.inl hr)
    have hr' : (a.tmod b != 0) = false := by simp [hr]
    clear hr
    rcases hmn with hm | ⟨hm, hm2⟩
    all_goals
      go_enter Try.func25, Try.ntmps25
      go_wp2
      go_region
      all_goals
        go_wp2
        go_ret3
        exact ⟨_, _, rfl, hD.out, (Below.refl _ _).drew⟩
  · have hr' : (a.tmod b != 0) = true := by simp [hr]
    by_cases hs : a.tmod b < 0 ↔ b < 0
    · have hD : Hid (DivOf a b (a.tdiv b) (a.tmod b)) := div_stay hb (Or.inr hs)
      by_cases hb2 : b < 0
      · have hb3 : a.tmod b < 0 := hs.2 hb2
        clear hs hr
        rcases hmn with hm | ⟨hm, hm2⟩
        all_goals
          go_enter Try.func25, Try.ntmps25
          go_wp2
          go_region
          all_goals
            go_wp2
            go_ret3
            exact ⟨_, _, rfl, hD.out, (Below.refl _ _).drew⟩
      · have hb3 : decide (a.tmod b < 0) = false := by simp; omega
        have hb4 : decide (b < 0) = false := by simp; omega
        clear hs hr hb2
        rcases hmn with hm | ⟨hm, hm2⟩
        all_goals
          go_enter Try.func25, Try.ntmps25
          go_wp2
          go_region
          all_goals
            go_wp2
            go_ret3
            exact ⟨_, _, rfl, hD.out, (Below.refl _ _).drew⟩
    · have hD : Hid (DivOf a b (a.tdiv b - 1) (a.tmod b + b)) := div_fix hb hr hs
      have hq : -9223372036854775808 ≤ a.tdiv b - 1 := by
        have h1 : ¬ b = 1 := by rintro rfl; simp at hr
        have h2 : ¬ b = -1 := by rintro rfl; simp at hr
        have h3 : (a.tdiv b).natAbs = a.natAbs / b.natAbs := Int.natAbs_tdiv a b
        have h4 : a.natAbs / b.natAbs ≤ a.natAbs / 2 := Nat.div_le_div_left (by omega) (by omega)
        omega
      have hlt := natAbs_tmod_lt a hb
      have hrb0 : -9223372036854775808 ≤ a.tmod b + b := by omega
      have hrb1 : a.tmod b + b ≤ 9223372036854775807 := by omega
      clear hlt
      by_cases hb2 : b < 0
      · have hb3 : decide (a.tmod b < 0) = false := by simp; omega
        clear hs hr
        rcases hmn with hm | ⟨hm, hm2⟩
        all_goals
          go_enter Try.func25, Try.ntmps25
          go_wp2
          go_region
          all_goals
            go_wp2
            go_ret3
            exact ⟨_, _, rfl, hD.out, (Below.refl _ _).drew⟩
      · have hb3 : a.tmod b < 0 := by omega
        have hb4 : decide (b < 0) = false := by simp; omega
        clear hs hr hb2
        rcases hmn with hm | ⟨hm, hm2⟩
        all_goals
          go_enter Try.func25, Try.ntmps25
          go_wp2
          go_region
          all_goals
            go_wp2
            go_ret3
            exact ⟨_, _, rfl, hD.out, (Below.refl _ _).drew⟩

theorem ret_int {k : IntKind} {a b : Int} (h : a = b) : Ending.returned (.int k a) = .returned (.int k b) := by rw [h]

theorem ret_bool {a b : Bool} (h : a = b) : Ending.returned (.bool a) = .returned (.bool b) := by rw [h]

theorem keep {W w1 : World} (hb : Below W.heap.size W w1) {b o : Nat} {v : Value} (hlt : b < W.heap.size) (h : W.cell? ⟨b, o, none⟩ = some v) : w1.cell? ⟨b, o, none⟩ = some v := by
  rw [(bcell hb).1 _ _ hlt]; exact h
theorem keepA {W w1 : World} {ob : Obj} (hb : Below (W.alloc ob).heap.size (W.alloc ob) w1) {b o : Nat} {v : Value} (hlt : b < W.heap.size) (h : W.cell? ⟨b, o, none⟩ = some v) : w1.cell? ⟨b, o, none⟩ = some v := by
  rw [(bcell hb).1 _ _ (by simp; omega), World.cell?_alloc_past _ _ _ hlt]; exact h
theorem keepN {W w1 : World} {c : Array Value} {t : TypeId} (hb : Below (W.alloc (.cells c t)).heap.size (W.alloc (.cells c t)) w1) {o : Nat} {v : Value} (h : c[o]? = some v) : w1.cell? ⟨W.heap.size, o, none⟩ = some v := by
  rw [(bcell hb).1 _ _ (by simp), World.cell?_alloc_at _ _ _ _ rfl]; exact h
theorem keepS {W w1 : World} {ob : Obj} (hb : Below (W.alloc ob).heap.size (W.alloc ob) w1) : W.heap.size < w1.heap.size := by
  have := hb.size; simp at this; omega
theorem belowA {B : Nat} {w W w1 : World} {ob : Obj} (k : Below B w W) (m : B ≤ W.heap.size) (hb : Below (W.alloc ob).heap.size (W.alloc ob) w1) : Below B w w1 :=
  (k.alloc m _).trans (hb.mono (by simp; omega))
theorem keepF {W w1 : World} (hb : Below W.heap.size W w1) {b o : Nat} (hlt : b < W.heap.size) (h : W.frozen? ⟨b, o, none⟩ = false) : w1.frozen? ⟨b, o, none⟩ = false := by
  rw [(bcell hb).2 _ _ hlt]; exact h
theorem below2 {B : Nat} {w W w1 : World} (k : Below B w W) (m : B ≤ W.heap.size) (hb : Below W.heap.size W w1) : Below B w w1 := k.trans (hb.mono m)
theorem set2 {W : World} {b : Nat} {x y : Value} (u v : Value) (h0 : W.cell? ⟨b, 0, none⟩ = some x) (h1 : W.cell? ⟨b, 1, none⟩ = some y) :
    ((W.setCell ⟨b, 0, none⟩ u).setCell ⟨b, 1, none⟩ v).cell? ⟨b, 0, none⟩ = some u ∧ ((W.setCell ⟨b, 0, none⟩ u).setCell ⟨b, 1, none⟩ v).cell? ⟨b, 1, none⟩ = some v := by
  have e1 : (W.setCell ⟨b, 0, none⟩ u).cell? ⟨b, 1, none⟩ = some y := by rw [World.cell?_setCell_other _ _ _ _ (by simp)]; exact h1
  refine ⟨?_, World.cell?_setCell_same _ _ _ e1⟩
  rw [World.cell?_setCell_other _ _ _ _ (by simp)]
  exact World.cell?_setCell_same _ _ _ h0
theorem set2_other {W : World} {b c o : Nat} {x : Value} (u v : Value) (hc : c ≠ b) (h : W.cell? ⟨c, o, none⟩ = some x) :
    ((W.setCell ⟨b, 0, none⟩ u).setCell ⟨b, 1, none⟩ v).cell? ⟨c, o, none⟩ = some x := by
  rw [World.cell?_setCell_other _ _ _ _ (fun e => hc (congrArg Addr.block e).symm), World.cell?_setCell_other _ _ _ _ (fun e => hc (congrArg Addr.block e).symm)]; exact h
theorem told_fits {V : Int} (h : fitsB V = true) : toldI V = V := by simp [toldI, h]
theorem told_not {V : Int} (h : fitsB V = false) : toldI V = 0 := by simp [toldI, h]
theorem fits_mk {V : Int} (h0 : -9223372036854775808 ≤ V) (h1 : V ≤ 9223372036854775807) : fitsB V = true := by unfold fitsB; simp; omega
theorem fits_bd {V : Int} (h : fitsB V = true) : -9223372036854775808 ≤ V ∧ V ≤ 9223372036854775807 := by unfold fitsB at h; simpa using h
end Go.Proofs.Ytkeoccjobcdldaa.Big
