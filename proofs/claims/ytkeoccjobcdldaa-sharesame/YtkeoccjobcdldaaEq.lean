/- Contracts of the statements' Ints and of slices.Equal; of lives. -/
import Derived.Test.YtkeoccjobcdldaaDiv
namespace Go.Proofs.Ytkeoccjobcdldaa
open Go.RowKit

section
variable {w : World} {xa ya : Option Addr} {xc yc : Nat} {xs ys : List Int}

set_option maxHeartbeats 1000000 in
theorem ints_any (hx : IX w xa xs) (hy : IX w ya ys) (hn : xs.length ≤ 1000) :
    Calls Try.prog 9 #[.slice xa xs.length xc, .slice ya ys.length yc] w fun e w' => e = .returned (.bool (decide (xs = ys))) ∧ Below w.heap.size w w' := by
  by_cases hl : xs.length = ys.length
  · have hl1 : Hid (xs.length = ys.length) := hl
    have hbe : ((xs.length : Int) != (ys.length : Int)) = false := by simp; omega
    clear hl
    go_enter Try.func9, Try.ntmps9
    go_wp2_with fail
    go_loopw [13, 5] (fun v _ wr => ∃ j : Nat, j ≤ xs.length ∧ v = .int .i64 j ∧ (∀ i, i < j → ix xs i = ix ys i) ∧ Below w.heap.size w wr) (fun v _ _ => 1000 - (intOf v).toNat)
    case atStart => exact ⟨0, Nat.zero_le _, rfl, fun i hi => by omega, Below.refl _ _⟩
    case round =>
      obtain ⟨j, hj, rfl, hall, hb⟩ := hrel
      by_cases hlt : j < xs.length
      · have hlt2 : j < ys.length := by rw [← hl1.out]; exact hlt
        obtain ⟨b, o, rfl, c0⟩ := hx.below hb j hlt
        obtain ⟨b2, o2, rfl, c2⟩ := hy.below hb j hlt2
        have hlt' : (j : Int) < (xs.length : Int) := by omega
        have hlt2' : (j : Int) < (ys.length : Int) := by omega
        by_cases he : ix xs j = ix ys j
        · have hall2 : ∀ i, i < j + 1 → ix xs i = ix ys i := fun i hi => by
            by_cases h : i = j
            · rw [h]; exact he
            · exact hall i (by omega)
          rw [← he] at c2
          clear he hall hbe
          have HALL : Hid (∀ i, i < j + 1 → ix xs i = ix ys i) := hall2
          clear hall2
          generalize ix xs j = x at *
          go_wp2_with fail
          go_quiet (fail)
          go_wp2_with fail
          go_roundw
          case rel => exact ⟨j + 1, by omega, by simp, HALL.out, below_drewN hb _⟩
          case measure =>
            simp [intOf]
            omega
        · have hne : Hid (decide (xs = ys) = false) := decide_eq_false (fun h => he (by rw [h]))
          have hx2 : (ix xs j != ix ys j) = true := by simpa using he
          clear he hall hbe
          generalize ix xs j = x at *
          generalize ix ys j = y at *
          go_wp2_with fail
          go_quiet (fail)
          go_wp2_with fail
          go_ret
          exact ⟨by rw [hne.out]; rfl, below_drewN hb _⟩
      · obtain rfl : j = xs.length := by omega
        have hyes : Hid (decide (xs = ys) = true) := decide_eq_true (by
          apply List.ext_getElem hl1.out
          intro i h1 h2
          have e := hall i h1
          unfold ix at e
          rw [List.getD_eq_getElem?_getD, List.getD_eq_getElem?_getD, List.getElem?_eq_getElem h1, List.getElem?_eq_getElem h2] at e
          simpa using e)
        clear hall hbe
        go_wp2_with fail
        go_ret
        exact ⟨by rw [hyes.out]; rfl, hb⟩
  · have hne : Hid (decide (xs = ys) = false) := decide_eq_false (fun h => hl (by rw [h]))
    have hbe : ((xs.length : Int) != (ys.length : Int)) = true := by simp; omega
    clear hl
    go_enter Try.func9, Try.ntmps9
    go_wp2_with fail
    go_ret
    exact ⟨by rw [hne.out]; rfl, Below.refl _ _⟩

set_option maxHeartbeats 1000000 in
theorem equal_any (hx : IX w xa xs) (hy : IX w ya ys) (hn : xs.length ≤ 1000) :
    Calls Try.prog 27 #[.slice xa xs.length xc, .slice ya ys.length yc] w fun e w' => e = .returned (.bool (decide (xs = ys))) ∧ Below w.heap.size w w' := by
  by_cases hl : xs.length = ys.length
  · have hl1 : Hid (xs.length = ys.length) := hl
    have hbe : ((xs.length : Int) != (ys.length : Int)) = false := by simp; omega
    clear hl
    go_enter Try.func27, Try.ntmps27
    go_wp2_with fail
    go_loopw [13, 5] (fun v _ wr => ∃ j : Nat, j ≤ xs.length ∧ v = .int .i64 j ∧ (∀ i, i < j → ix xs i = ix ys i) ∧ Below w.heap.size w wr) (fun v _ _ => 1000 - (intOf v).toNat)
    case atStart => exact ⟨0, Nat.zero_le _, rfl, fun i hi => by omega, Below.refl _ _⟩
    case round =>
      obtain ⟨j, hj, rfl, hall, hb⟩ := hrel
      by_cases hlt : j < xs.length
      · have hlt2 : j < ys.length := by rw [← hl1.out]; exact hlt
        obtain ⟨b, o, rfl, c0⟩ := hx.below hb j hlt
        obtain ⟨b2, o2, rfl, c2⟩ := hy.below hb j hlt2
        have hlt' : (j : Int) < (xs.length : Int) := by omega
        have hlt2' : (j : Int) < (ys.length : Int) := by omega
        by_cases he : ix xs j = ix ys j
        · have hall2 : ∀ i, i < j + 1 → ix xs i = ix ys i := fun i hi => by
            by_cases h : i = j
            · rw [h]; exact he
            · exact hall i (by omega)
          rw [← he] at c2
          clear he hall hbe
          have HALL : Hid (∀ i, i < j + 1 → ix xs i = ix ys i) := hall2
          clear hall2
          generalize ix xs j = x at *
          go_wp2_with fail
          go_quiet (fail)
          go_wp2_with fail
          go_roundw
          case rel => exact ⟨j + 1, by omega, by simp, HALL.out, below_drewN hb _⟩
          case measure =>
            simp [intOf]
            omega
        · have hne : Hid (decide (xs = ys) = false) := decide_eq_false (fun h => he (by rw [h]))
          have hx2 : (ix xs j != ix ys j) = true := by simpa using he
          clear he hall hbe
          generalize ix xs j = x at *
          generalize ix ys j = y at *
          go_wp2_with fail
          go_quiet (fail)
          go_wp2_with fail
          go_ret
          exact ⟨by rw [hne.out]; rfl, below_drewN hb _⟩
      · obtain rfl : j = xs.length := by omega
        have hyes : Hid (decide (xs = ys) = true) := decide_eq_true (by
          apply List.ext_getElem hl1.out
          intro i h1 h2
          have e := hall i h1
          unfold ix at e
          rw [List.getD_eq_getElem?_getD, List.getD_eq_getElem?_getD, List.getElem?_eq_getElem h1, List.getElem?_eq_getElem h2] at e
          simpa using e)
        clear hall hbe
        go_wp2_with fail
        go_ret
        exact ⟨by rw [hyes.out]; rfl, hb⟩
  · have hne : Hid (decide (xs = ys) = false) := decide_eq_false (fun h => hl (by rw [h]))
    have hbe : ((xs.length : Int) != (ys.length : Int)) = true := by simp; omega
    clear hl
    go_enter Try.func27, Try.ntmps27
    go_wp2_with fail
    go_ret
    exact ⟨by rw [hne.out]; rfl, Below.refl _ _⟩
end
end Go.Proofs.Ytkeoccjobcdldaa
