/- Contracts of Good, Count, canAsk and enough, and of the reference's Good, Count and right. -/
import Derived.Test.YtokigpmkhkldkaaMem
namespace Go.Proofs.Ytokigpmkhkldkaa
open Go.RowKit

/-- So few that a counter can go over them. -/
def Sz (os : List Int) : Prop := ∀ j : Nat, j < os.length → IntKind.i64.wrap ((j : Int) + 1) = (j : Int) + 1
theorem Sz.small {os : List Int} (h : os.length ≤ 100000) : Sz os := fun j hj => by
  simp only [IntKind.wrap, IntKind.bits, IntKind.signed]
  simp
  omega
theorem good_no {os : List Int} {n : Int} (h : 64 < os.length ∨ n < 0 ∨ 64 < n) : goodB os n = false := by
  rw [Bool.eq_false_iff]
  intro e
  have := good_iff.1 e
  omega
theorem good_no' {os : List Int} {n : Int} {c : Nat} (hc : c < os.length) (h : ix os c < 0 ∨ n < ix os c) : goodB os n = false := by
  rw [Bool.eq_false_iff]
  intro e
  have := (good_iff.1 e).2.2.2 c hc
  omega

section
variable {w : World} {xa ya : Option Addr} {xc yc : Nat} {os ts : List Int}

set_option maxHeartbeats 1000000 in
theorem good_any (hx : IX w xa os) (n : Int) :
    Calls Try.prog 18 #[.slice xa os.length xc, .int .i64 n] w fun e w' => e = .returned (.bool (goodB os n)) ∧ Below w.heap.size w w' := by
  by_cases h1 : 64 < os.length
  · rw [good_no (.inl h1)]
    have h1' : (64 : Int) < (os.length : Int) := by omega
    clear h1
    go_enter Try.func18, Try.ntmps18
    go_wp2_with fail
    go_ret
    exact ⟨rfl, Below.refl _ _⟩
  have h1' : decide ((64 : Int) < (os.length : Int)) = false := by simp; omega
  by_cases h2 : n < 0
  · rw [good_no (.inr (.inl h2))]
    clear h1
    go_enter Try.func18, Try.ntmps18
    go_wp2_with fail
    go_ret
    exact ⟨rfl, Below.refl _ _⟩
  have h2' : decide (n < 0) = false := by simp; omega
  by_cases h3 : 64 < n
  · rw [good_no (.inr (.inr h3))]
    clear h1 h2
    go_enter Try.func18, Try.ntmps18
    go_wp2_with fail
    go_ret
    exact ⟨rfl, Below.refl _ _⟩
  have h3' : decide (64 < n) = false := by simp; omega
  have hlen : os.length ≤ 64 := by omega
  have hn0 : 0 ≤ n := by omega
  have hn1 : n ≤ 64 := by omega
  clear h1 h2 h3
  go_enter Try.func18, Try.ntmps18
  go_wp2_with fail
  go_loopw [20, 6] (fun v _ wr => ∃ j : Nat, j ≤ os.length ∧ v = .int .i64 j ∧ (∀ i, i < j → 0 ≤ ix os i ∧ ix os i ≤ n) ∧ Below w.heap.size w wr) (fun v _ _ => 100 - (intOf v).toNat)
  case atStart => exact ⟨0, Nat.zero_le _, rfl, fun i hi => by omega, Below.refl _ _⟩
  case round =>
    obtain ⟨j, hj, rfl, hall, hb⟩ := hrel
    by_cases hlt : j < os.length
    · obtain ⟨b, o, rfl, c0⟩ := hx.below hb j hlt
      have hlt' : (j : Int) < (os.length : Int) := by omega
      by_cases q0 : ix os j < 0
      · have hno : Hid (goodB os n = false) := good_no' hlt (.inl q0)
        clear hall h1' h2' h3'
        generalize ix os j = x at *
        go_wp2_with fail
        go_ret
        exact ⟨by rw [hno.out]; rfl, hb⟩
      by_cases q1 : n < ix os j
      · have hno : Hid (goodB os n = false) := good_no' hlt (.inr q1)
        have q0' : decide (ix os j < 0) = false := by simp; omega
        clear hall h1' h2' h3' q0
        generalize ix os j = x at *
        go_wp2_with fail
        go_ret
        exact ⟨by rw [hno.out]; rfl, hb⟩
      · have HALL : Hid (∀ i, i < j + 1 → 0 ≤ ix os i ∧ ix os i ≤ n) := fun i hi => by
          by_cases h : i = j
          · rw [h]; omega
          · exact hall i (by omega)
        have q0' : decide (ix os j < 0) = false := by simp; omega
        have q1' : decide (n < ix os j) = false := by simp; omega
        clear hall h1' h2' h3' q0 q1
        generalize ix os j = x at *
        go_wp2_with fail
        go_roundw
        case rel => exact ⟨j + 1, by omega, by simp, HALL.out, hb⟩
        case measure =>
          simp [intOf]
          omega
    · obtain rfl : j = os.length := by omega
      have hyes : Hid (goodB os n = true) := good_iff.2 ⟨hlen, hn0, hn1, hall⟩
      clear hall h1' h2' h3'
      go_wp2_with fail
      go_ret
      exact ⟨by rw [hyes.out]; rfl, hb⟩

set_option maxHeartbeats 1000000 in
theorem rgood_any (hx : IX w xa os) (hz : Sz os) (n : Int) :
    Calls Try.prog 19 #[.slice xa os.length xc, .int .i64 n] w fun e w' => e = .returned (.bool (goodB os n)) ∧ Below w.heap.size w w' := by
  go_enter Try.func19, Try.ntmps19
  go_wp2_with fail
  go_loopw [9, 6] (fun v _ wr => ∃ j : Nat, j ≤ os.length ∧ v = .int .i64 j ∧ (∀ i, i < j → 0 ≤ ix os i ∧ ix os i ≤ n) ∧ Below w.heap.size w wr) (fun v _ _ => os.length - (intOf v).toNat)
  case atStart => exact ⟨0, Nat.zero_le _, rfl, fun i hi => by omega, Below.refl _ _⟩
  case round =>
    obtain ⟨j, hj, rfl, hall, hb⟩ := hrel
    by_cases hlt : j < os.length
    · obtain ⟨b, o, rfl, c0⟩ := hx.below hb j hlt
      have hlt' : (j : Int) < (os.length : Int) := by omega
      have hw := hz j hlt
      by_cases q0 : ix os j < 0
      · have hno : Hid (goodB os n = false) := good_no' hlt (.inl q0)
        clear hall
        generalize ix os j = x at *
        go_wp2_with fail
        go_ret
        exact ⟨by rw [hno.out]; rfl, hb⟩
      by_cases q1 : n < ix os j
      · have hno : Hid (goodB os n = false) := good_no' hlt (.inr q1)
        have q0' : decide (ix os j < 0) = false := by simp; omega
        clear hall q0
        generalize ix os j = x at *
        go_wp2_with fail
        go_ret
        exact ⟨by rw [hno.out]; rfl, hb⟩
      · have HALL : Hid (∀ i, i < j + 1 → 0 ≤ ix os i ∧ ix os i ≤ n) := fun i hi => by
          by_cases h : i = j
          · rw [h]; omega
          · exact hall i (by omega)
        have q0' : decide (ix os j < 0) = false := by simp; omega
        have q1' : decide (n < ix os j) = false := by simp; omega
        clear hall q0 q1
        generalize ix os j = x at *
        go_wp2_with fail
        go_roundw
        case rel => exact ⟨j + 1, by omega, by simp, HALL.out, hb⟩
        case measure =>
          simp [intOf]
          omega
    · obtain rfl : j = os.length := by omega
      by_cases h1 : 64 < os.length
      · have hno : Hid (goodB os n = false) := good_no (.inl h1)
        have h1' : decide ((os.length : Int) ≤ 64) = false := by simp; omega
        clear hall h1
        go_wp2_with fail
        go_ret
        exact ⟨by rw [hno.out]; rfl, hb⟩
      have h1' : (os.length : Int) ≤ 64 := by omega
      by_cases h2 : n < 0
      · have hno : Hid (goodB os n = false) := good_no (.inr (.inl h2))
        have h2' : decide (0 ≤ n) = false := by simp; omega
        clear hall h1 h2
        go_wp2_with fail
        go_ret
        exact ⟨by rw [hno.out]; rfl, hb⟩
      have h2' : 0 ≤ n := by omega
      by_cases h3 : 64 < n
      · have hno : Hid (goodB os n = false) := good_no (.inr (.inr h3))
        have h3' : decide (n ≤ 64) = false := by simp; omega
        clear hall h1 h2 h3
        go_wp2_with fail
        go_ret
        exact ⟨by rw [hno.out]; rfl, hb⟩
      have h3' : n ≤ 64 := by omega
      have hyes : Hid (goodB os n = true) := good_iff.2 ⟨by omega, by omega, by omega, hall⟩
      clear hall h1 h2 h3
      go_wp2_with fail
      go_ret
      exact ⟨by rw [hyes.out]; rfl, hb⟩
end
end Go.Proofs.Ytokigpmkhkldkaa
