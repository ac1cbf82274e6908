/- Contracts of the reference's Has, All, Of, Below. -/
import Derived.Test.YtgoedlgilgnphaaDoorLives
import Derived.OwnWalk
namespace Go.Proofs.YtgoedlgilgnphaaDoor
open Go.RowKit Go.Shelf

theorem and_one_bit (m : Nat) (i : Int) (hm : m < 18446744073709551616) (h : 0 ≤ i ∧ i < 64) : (bits .and .u64 ((m : Int) / 2 ^ i.toNat) 1 == 1) = hasB m i := by
  have e1 : (m : Int) / 2 ^ i.toNat = ((m / 2 ^ i.toNat : Nat) : Int) := by simp
  have hlt : m / 2 ^ i.toNat < 18446744073709551616 := Nat.lt_of_le_of_lt (Nat.div_le_self _ _) hm
  have e2 := bits_and_u64_nat (m / 2 ^ i.toNat) 1 hlt (by decide)
  rw [e1]
  have e3 : bits .and .u64 ((m / 2 ^ i.toNat : Nat) : Int) 1 = ((m / 2 ^ i.toNat &&& 1 : Nat) : Int) := e2
  rw [e3, Nat.and_one_is_mod]
  unfold hasB
  rw [Nat.testBit_eq_decide_div_mod_eq]
  simp only [h, and_self, decide_true, Bool.true_and]
  by_cases hb : m / 2 ^ i.toNat % 2 = 1
  · rw [hb]; simp
  · have : m / 2 ^ i.toNat % 2 = 0 := by omega
    rw [this]; simp

theorem rhas_any (m : Nat) (i : Int) (hm : m < 18446744073709551616) (w : World) :
    Calls Tryd.prog 11 #[.int .u64 m, .int .i64 i] w fun e w' => e = .returned (.bool (hasB m i)) ∧ w' = w := by
  by_cases h : 0 ≤ i ∧ i < 64
  · have hb := and_one_bit m i hm h
    obtain ⟨h1, h2⟩ := h
    go_enter Tryd.func11, Tryd.ntmps11
    go_wp2_with fail
    go_ret
    exact ⟨rfl, rfl⟩
  · have e : hasB m i = false := by unfold hasB; simp [h]
    rw [e]
    by_cases h1 : i < 0
    · go_enter Tryd.func11, Tryd.ntmps11
      go_wp2_with fail
      go_ret
      exact ⟨rfl, rfl⟩
    · have h2 : 0 ≤ i := by omega
      have h3 : 64 ≤ i := by omega
      go_enter Tryd.func11, Tryd.ntmps11
      go_wp2_with fail
      go_ret
      exact ⟨rfl, rfl⟩

theorem Tryd.info3 : (Tryd.prog.info? 3).map (fun i => (i.zero, i.size, i.bytes)) = some (some (.int .i64 0), 1, 8) := by kernel_rfl

/-- A slice of ints that the call made. -/
def RowI (w : World) (base : Nat) (v : Value) (xs : List Int) : Prop := w.ownsRow base 3 1 v xs.length (xs.map (Value.int .i64))

theorem RowI.below {w w' : World} {base : Nat} {v : Value} {xs : List Int} (h : RowI w base v xs) (hb : Below w.heap.size w w') : RowI w' base v xs := by
  refine ⟨h.1, ?_⟩
  rcases h.2 with h | ⟨g, cap, cur, h1, h2, h3, h4⟩
  · exact .inl h
  · exact .inr ⟨g, cap, cur, h1, h2, (hb.block g (Array.getElem?_eq_some_iff.1 h3).1).trans h3, h4⟩

theorem RowI.ints {w : World} {base : Nat} {v : Value} {xs : List Int} (h : RowI w base v xs) : ∃ a c, v = .slice a xs.length c ∧ Ints w a xs := by
  have h' := h
  rcases h.2 with ⟨rfl, h0⟩ | ⟨g, cap, cur, rfl, _⟩
  · exact ⟨none, 0, by rw [h0], fun j x hx => by
      have := (List.getElem?_eq_some_iff.1 hx).1
      omega⟩
  · refine ⟨_, cap, rfl, fun j x hx => ⟨g, 0, rfl, ?_⟩⟩
    have hj := (List.getElem?_eq_some_iff.1 hx).1
    have := World.ownsRow.cellAt h' j (by omega)
    rw [Nat.zero_add, this, List.getElem?_map, hx]
    rfl

theorem RowI.nil (w : World) (base : Nat) : RowI w base (.slice none 0 0) [] := World.ownsRow_nil _ _ _ _

/-- As ints. -/
def toI (l : List Nat) : List Int := l.map fun x : Nat => (x : Int)
theorem toI_length (l : List Nat) : (toI l).length = l.length := by simp [toI]
theorem toI_append (a b : List Nat) : toI (a ++ b) = toI a ++ toI b := by simp [toI]

/-- The members as ints. -/
def memI (m : Nat) : List Int := toI (mem m)

theorem memF_snoc (k m : Nat) : memF (k + 1) m = memF k m ++ (if m.testBit k then [k] else []) := by
  unfold memF
  rw [List.range_succ, List.filter_append]
  congr 1
  cases h : m.testBit k <;> simp [h]

theorem memF_len (k m : Nat) : (memF k m).length ≤ k := by
  have := List.length_filter_le m.testBit (List.range k)
  simpa [memF] using this

theorem grown_below {w A w1 : World} {v : Value} {xs : List Int} {o : Obj} (hB : Below w.heap.size w A) (hr : RowI A w.heap.size v xs) (hg : (A.alloc o).grownBy w1 v.ownBlock) : Below w.heap.size w w1 := by
  have hb1 := hB.size
  have h1 : Below w.heap.size w (A.alloc o) := hB.alloc hB.size o
  refine h1.grown hg (by simp; omega) (fun k e => ?_)
  rcases hr.2 with ⟨rfl, _⟩ | ⟨g, cap, cur, rfl, hgb, _⟩
  · simp [Value.ownBlock] at e
  · simp [Value.ownBlock] at e
    omega

set_option maxHeartbeats 2000000 in
theorem rall_any (m : Nat) (hm : m < 18446744073709551616) (w : World) :
    Calls Tryd.prog 9 #[.int .u64 m] w fun e w' => ∃ v, e = .returned v ∧ RowI w' w.heap.size v (memI m) ∧ Below w.heap.size w w' := by
  obtain ⟨i0, hi, hz0, hz1, hz2⟩ := info_parts Tryd.info3
  go_enter Tryd.func9, Tryd.ntmps9
  go_wp2_with fail
  go_loopw [3, 4] (fun v q wr => ∃ k : Nat, k ≤ 64 ∧ q = .int .i64 k ∧ RowI wr w.heap.size v (toI (memF k m)) ∧ Below w.heap.size w wr) (fun _ q _ => 64 - (intOf q).toNat)
  case atStart => exact ⟨0, by omega, rfl, RowI.nil _ _, Below.refl _ _⟩
  case round =>
    obtain ⟨k, hk, rfl, hrow, hB⟩ := hrel
    by_cases hlt : k < 64
    · have h1 : (k : Int) < 64 := by omega
      have hbs := hB.size
      have hml := memF_len k m
      cases hb : m.testBit k with
      | true =>
        have hh : hasB m (k : Int) = true := by unfold hasB; simp [hb]; omega
        have em : toI (memF (k + 1) m) = toI (memF k m) ++ [(k : Int)] := by rw [memF_snoc, hb, toI_append]; rfl
        have hml2 := toI_length (memF k m)
        have hrow' := hrow
        unfold RowI at hrow'
        generalize toI (memF k m) = ys at hrow' hml2 em hrow
        go_wp2_with (first
          | (go_at_call 11; refine (rhas_any m k hm _).mono ?_; rintro e w' ⟨rfl, rfl⟩; rw [hh])
          | (at_builtin; refine wpList_append_own _ rfl _ _ 24 rfl w.heap.size 3 i0 (.int .i64 0) 1 8 Tryd.underlying24 hi hz0 hz1 hz2 rfl (by decide) _ _ _ rfl (hrow'.alloc _) ⟨_, 0, none⟩ 1 1 [.int .i64 k] rfl rfl (cell_one_new _ _ _) (by simp [Value.oneCell']) (by unfold maxLen; omega) (by omega) (by simp; omega) ?_; intro v' w1 hown' hgrow _))
        go_roundw
        case rel =>
          refine ⟨k + 1, by omega, by simp, ?_, grown_below hB hrow hgrow⟩
          rw [em]
          unfold RowI
          simpa using hown'
        case measure =>
          simp [intOf]
          omega
      | false =>
        have hh : hasB m (k : Int) = false := by unfold hasB; simp [hb]
        have em : memF (k + 1) m = memF k m := by rw [memF_snoc]; simp [hb]
        go_wp2_with (go_at_call 11; refine (rhas_any m k hm _).mono ?_; rintro e w' ⟨rfl, rfl⟩; rw [hh])
        go_roundw
        case rel => exact ⟨k + 1, by omega, by simp, by rw [em]; exact hrow, hB⟩
        case measure =>
          simp [intOf]
          omega
    · obtain rfl : k = 64 := by omega
      go_wp2_with fail
      go_ret
      exact ⟨_, rfl, hrow, hB⟩

set_option maxHeartbeats 2000000 in
theorem rof_any (a : Option Addr) (c : Nat) (xs : List Int) (w : World) (hn : xs.length ≤ 1000000) (h : Ints w a xs) :
    Calls Tryd.prog 28 #[.slice a xs.length c] w fun e w' => e = .returned (.int .u64 (ofN xs : Nat)) ∧ w' = w := by
  go_enter Tryd.func28, Tryd.ntmps28
  go_wp2_with fail
  go_loopw [3, 8] (fun p q wr => ∃ k : Nat, k ≤ xs.length ∧ p = .int .u64 (ofN (xs.take k) : Nat) ∧ q = .int .i64 k ∧ wr = w) (fun _ q _ => 1000000 - (intOf q).toNat)
  case atStart => exact ⟨0, by omega, rfl, rfl, rfl⟩
  case round =>
    obtain ⟨k, hk, rfl, rfl, rfl⟩ := hrel
    by_cases hlt : k < xs.length
    · obtain ⟨b, o, rfl, hc⟩ := h k xs[k] (by simp)
      have e1 : ofN (xs.take (k + 1)) = ofN (xs.take k) ||| bitN xs[k] := by
        rw [← ofN_snoc]
        congr 1
        rw [List.take_add_one]
        simp [hlt]
      have hl := ofN_lt (xs.take k)
      generalize xs[k] = x at hc e1
      have h1 : (k : Int) < (xs.length : Int) := by omega
      by_cases hx : 0 ≤ x ∧ x < 64
      · have hw := wrap_bit x hx
        have hor := bits_or_u64_nat _ _ hl (bitN_lt x)
        obtain ⟨hx0, hx1⟩ := hx
        go_wp2_with fail
        go_roundw
        case rel => exact ⟨k + 1, by omega, by rw [e1], by simp, by trivial⟩
        case measure =>
          simp [intOf]
          omega
      · have e2 : bitN x = 0 := by unfold bitN; rw [if_neg hx]
        rw [e2, Nat.or_zero] at e1
        by_cases hx0 : x < 0
        · go_wp2_with fail
          go_roundw
          case rel => exact ⟨k + 1, by omega, by rw [e1], by simp, by trivial⟩
          case measure =>
            simp [intOf]
            omega
        · have hx1 : 64 ≤ x := by omega
          have hx2 : 0 ≤ x := by omega
          go_wp2_with fail
          go_roundw
          case rel => exact ⟨k + 1, by omega, by rw [e1], by simp, by trivial⟩
          case measure =>
            simp [intOf]
            omega
    · obtain rfl : k = xs.length := by omega
      rw [List.take_length]
      go_wp2_with fail
      go_ret
      exact ⟨rfl, rfl⟩

theorem clampN_cases (n : Int) : (n ≤ 0 ∧ clampN n = 0) ∨ (64 ≤ n ∧ clampN n = 64) ∨ (0 < n ∧ n < 64 ∧ ((clampN n : Nat) : Int) = n) := by
  unfold clampN
  by_cases h1 : n ≤ 0
  · exact .inl ⟨h1, by rw [if_pos h1]⟩
  · by_cases h2 : 64 ≤ n
    · exact .inr (.inl ⟨h2, by rw [if_neg h1, if_pos h2]⟩)
    · refine .inr (.inr ⟨by omega, by omega, ?_⟩)
      rw [if_neg h1, if_neg h2]
      omega

theorem belowN_succ (k : Nat) : belowN (k + 1) = belowN k ||| 2 ^ k := by
  apply Nat.eq_of_testBit_eq
  intro i
  rw [Nat.testBit_or, testBit_below, testBit_below, Nat.testBit_two_pow]
  rw [← Bool.decide_or, decide_eq_decide]
  omega

set_option maxHeartbeats 2000000 in
theorem rbelow_any (n : Int) (w : World) :
    Calls Tryd.prog 30 #[.int .i64 n] w fun e w' => e = .returned (.int .u64 (belowN (clampN n) : Nat)) ∧ w' = w := by
  have hcl := clampN_le n
  go_enter Tryd.func30, Tryd.ntmps30
  go_wp2_with fail
  go_loopw [3, 4] (fun p q wr => ∃ k : Nat, k ≤ clampN n ∧ p = .int .u64 (belowN k : Nat) ∧ q = .int .i64 k ∧ wr = w) (fun _ q _ => 64 - (intOf q).toNat)
  case atStart => exact ⟨0, by omega, rfl, rfl, rfl⟩
  case round =>
    obtain ⟨k, hk, rfl, rfl, rfl⟩ := hrel
    by_cases hlt : k < clampN n
    · have h1 : (k : Int) < 64 := by omega
      have h2 : (k : Int) < n := by have := clampN_cases n; omega
      have h3 : (0 : Int) ≤ (k : Int) := by omega
      have hw := wrap_bit (k : Int) ⟨h3, h1⟩
      have eb : bitN (k : Int) = 2 ^ k := by unfold bitN; rw [if_pos ⟨h3, h1⟩]; rfl
      have hor := bits_or_u64_nat _ _ (below_lt (n := k) (by omega)) (bitN_lt (k : Int))
      have e2 : ((2 ^ k : Nat) : Int) = (2 : Int) ^ k := by simp
      rw [eb, e2] at hw hor
      rw [← belowN_succ] at hor
      rw [Int.toNat_natCast] at hw
      clear eb e2
      go_wp2_with fail
      go_roundw
      case rel => exact ⟨k + 1, by omega, rfl, by simp, by trivial⟩
      case measure =>
        simp [intOf]
        omega
    · obtain rfl : k = clampN n := by omega
      by_cases h1 : clampN n < 64
      · have h2 : n ≤ ((clampN n : Nat) : Int) := by have := clampN_cases n; omega
        have h3 : ((clampN n : Nat) : Int) < 64 := by omega
        go_wp2_with fail
        go_ret
        exact ⟨rfl, rfl⟩
      · have h3 : 64 ≤ ((clampN n : Nat) : Int) := by omega
        go_wp2_with fail
        go_ret
        exact ⟨rfl, rfl⟩

end Go.Proofs.YtgoedlgilgnphaaDoor
