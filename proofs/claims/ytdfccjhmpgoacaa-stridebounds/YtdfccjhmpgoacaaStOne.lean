/- Lists of tickets: is there an i-th, and may all be; their sums. -/
import Derived.Test.YtdfccjhmpgoacaaStMem
namespace Go.Proofs.Ytdfccjhmpgoacaa.Str
open Go.RowKit Go.Proofs.Ytdfccjhmpgoacaa.Big

/-- A number by its place. -/
def ix (xs : List Int) (i : Nat) : Int := xs.getD i 0
theorem ix_get {xs : List Int} {i : Nat} (h : i < xs.length) : xs[i]? = some (ix xs i) := by
  unfold ix
  rw [List.getD_eq_getElem?_getD, List.getElem?_eq_getElem h, Option.getD_some]
theorem ix_mem {xs : List Int} {i : Nat} (h : i < xs.length) : ix xs i ∈ xs := List.mem_of_getElem? (ix_get h)
/-- Ints in memory. -/
def IX (w : World) (a : Option Addr) (xs : List Int) : Prop := ∀ j, j < xs.length → ∃ b o, a = some ⟨b, o, none⟩ ∧ w.cell? ⟨b, o + j, none⟩ = some (.int .i64 (ix xs j))
theorem IX.below {w w' : World} {a : Option Addr} {xs : List Int} (h : IX w a xs) (hb : Below w.heap.size w w') : IX w' a xs := fun j hj => by
  obtain ⟨b, o, e, h0⟩ := h j hj
  exact ⟨b, o, e, cell_on hb h0⟩

/-- May all be. -/
def allB (xs : List Int) : Bool := xs.all goodB
def oneB (xs : List Int) (i : Int) : Bool := ((decide (xs.length ≤ 32) && decide (0 ≤ i)) && decide (i < (xs.length : Int))) && allB xs
theorem all_ix {xs : List Int} (h : allB xs = true) {j : Nat} (hj : j < xs.length) : goodB (ix xs j) = true := List.all_eq_true.1 h _ (ix_mem hj)
theorem all_of {xs : List Int} (h : ∀ j, j < xs.length → goodB (ix xs j) = true) : allB xs = true := by
  refine List.all_eq_true.2 (fun x hx => ?_)
  obtain ⟨j, hj, rfl⟩ := List.mem_iff_getElem.1 hx
  have := h j hj
  unfold ix at this
  rw [List.getD_eq_getElem?_getD, List.getElem?_eq_getElem hj, Option.getD_some] at this
  exact this
theorem not_all {xs : List Int} {j : Nat} (hj : j < xs.length) (h : goodB (ix xs j) = false) : allB xs = false := by
  cases e : allB xs
  · rfl
  · rw [all_ix e hj] at h
    cases h
theorem one_iff {xs : List Int} {i : Int} : oneB xs i = true ↔ (xs.length ≤ 32 ∧ 0 ≤ i ∧ i < (xs.length : Int)) ∧ allB xs = true := by
  unfold oneB
  simp only [Bool.and_eq_true, decide_eq_true_eq, and_assoc]

theorem bad_any (t : Int) (w : World) : Calls Try.prog 54 #[.int .i64 t] w fun e w' => e = .returned (.bool (!goodB t)) ∧ w' = w := by
  have G := fun W => good_any t W
  generalize goodB t = z at *
  go_enter Try.func54, Try.ntmps54
  go_wp2_with (first | (go_at_call 27; (with_reducible refine (G _).mono ?_); rintro e w1 ⟨rfl, rfl⟩))
  go_ret
  exact ⟨rfl, rfl⟩

section
variable {w : World} {xa : Option Addr} {xc : Nat} {xs : List Int}

set_option maxHeartbeats 1000000 in
theorem idx_any (hx : IX w xa xs) (hn : xs.length ≤ 32) :
    Calls Try.prog 61 #[.slice xa xs.length xc, .func (.func 54) #[] #[]] w fun e w' => (∃ z : Int, e = .returned (.int .i64 z) ∧ decide (0 ≤ z) = !allB xs) ∧ w' = w := by
  go_enter Try.func61, Try.ntmps61
  go_wp2_with fail
  go_loopw [8, 5] (fun v _ wr => ∃ j : Nat, j ≤ xs.length ∧ v = .int .i64 j ∧ (∀ i, i < j → goodB (ix xs i) = true) ∧ Hid (wr = w)) (fun v _ _ => 40 - (intOf v).toNat)
  case atStart => exact ⟨0, Nat.zero_le _, rfl, fun i hi => by omega, rfl⟩
  case round =>
    obtain ⟨j, hj, rfl, hall, hw⟩ := hrel
    have hw' : wr = w := hw
    subst hw'
    clear hw
    by_cases hlt : j < xs.length
    · obtain ⟨b, o, rfl, c0⟩ := hx j hlt
      have hlt' : (j : Int) < (xs.length : Int) := by omega
      have HALL : Hid (∀ i, i < j → goodB (ix xs i) = true) := hall
      obtain ⟨x, hxx⟩ : ∃ x, Hid (ix xs j = x) := ⟨_, rfl⟩
      rw [hxx.out] at c0
      have CL := fun W => bad_any x W
      clear hall
      cases hg : goodB x
      · rw [hg] at CL
        have HE : Hid (allB xs = false) := not_all hlt (by rw [hxx.out]; exact hg)
        clear hg
        go_wp2_with (first | (go_at_call 54; (with_reducible refine (CL _).mono ?_); rintro e w1 ⟨rfl, rfl⟩))
        go_ret
        exact ⟨⟨_, rfl, by rw [HE.out]; simp⟩, rfl⟩
      · rw [hg] at CL
        have HE : Hid (∀ i, i < j + 1 → goodB (ix xs i) = true) := fun i hi => by
          by_cases h : i = j
          · rw [h, hxx.out]; exact hg
          · exact HALL.out i (by omega)
        clear hg
        go_wp2_with (first | (go_at_call 54; (with_reducible refine (CL _).mono ?_); rintro e w1 ⟨rfl, rfl⟩))
        go_roundw
        case rel => exact ⟨j + 1, by omega, by simp, HE.out, Hid.mk (by first | rfl | trivial)⟩
        case measure =>
          simp [intOf]
          omega
    · obtain rfl : j = xs.length := by omega
      have HALL : Hid (∀ i, i < xs.length → goodB (ix xs i) = true) := hall
      clear hall
      go_wp2_with fail
      go_ret
      exact ⟨⟨_, rfl, by rw [all_of HALL.out]; rfl⟩, rfl⟩
theorem contains_any (hx : IX w xa xs) (hn : xs.length ≤ 32) :
    Calls Try.prog 55 #[.slice xa xs.length xc, .func (.func 54) #[] #[]] w fun e w' => e = .returned (.bool (!allB xs)) ∧ w' = w := by
  have I := idx_any (xc := xc) hx hn
  generalize (!allB xs) = z at *
  go_enter Try.func55, Try.ntmps55
  go_wp2_with (first | (go_at_call 61; (with_reducible refine I.mono ?_); rintro e w1 ⟨⟨k, rfl, hk⟩, rfl⟩))
  go_ret
  exact ⟨by rw [← hk]; rfl, rfl⟩
theorem isone_any (hx : IX w xa xs) (i : Int) :
    Calls Try.prog 34 #[.slice xa xs.length xc, .int .i64 i] w fun e w' => e = .returned (.bool (oneB xs i)) ∧ w' = w := by
  by_cases h1 : xs.length ≤ 32
  · have C := contains_any (xc := xc) hx h1
    have h1' : (xs.length : Int) ≤ 32 := by omega
    by_cases h2 : 0 ≤ i
    · by_cases h3 : i < (xs.length : Int)
      · rw [show oneB xs i = allB xs by unfold oneB; simp [h1, h2, h3]]
        generalize allB xs = z at *
        go_enter Try.func34, Try.ntmps34
        go_wp2_with (first | (go_at_call 55; (with_reducible refine C.mono ?_); rintro e w1 ⟨rfl, rfl⟩))
        go_ret
        exact ⟨by simp, rfl⟩
      · rw [show oneB xs i = false by unfold oneB; simp [h3]]
        go_enter Try.func34, Try.ntmps34
        go_wp2_with fail
        go_ret
        exact ⟨rfl, rfl⟩
    · rw [show oneB xs i = false by unfold oneB; simp [h2]]
      go_enter Try.func34, Try.ntmps34
      go_wp2_with fail
      go_ret
      exact ⟨rfl, rfl⟩
  · rw [show oneB xs i = false by unfold oneB; simp [h1]]
    have h1' : ¬ (xs.length : Int) ≤ 32 := by omega
    go_enter Try.func34, Try.ntmps34
    go_wp2_with fail
    go_ret
    exact ⟨rfl, rfl⟩
set_option maxHeartbeats 1000000 in
theorem rall_any (hx : IX w xa xs) (hm : xs.length ≤ maxLen) (i : Int) :
    Calls Try.prog 38 #[.slice xa xs.length xc, .int .i64 i] w fun e w' => e = .returned (.bool (oneB xs i)) ∧ w' = w := by
  have hz : ∀ j : Nat, j < xs.length → IntKind.i64.wrap ((j : Int) + 1) = (j : Int) + 1 := fun j hj => by
    unfold maxLen at hm
    simp only [IntKind.wrap, IntKind.bits, IntKind.signed]
    simp
    omega
  obtain ⟨M, hM⟩ : ∃ M, Hid (maxLen = M) := ⟨_, rfl⟩
  rw [hM.out] at hm
  go_enter Try.func38, Try.ntmps38
  go_wp2_with fail
  go_loopw [9, 6] (fun v _ wr => ∃ j : Nat, j ≤ xs.length ∧ v = .int .i64 j ∧ (∀ i, i < j → goodB (ix xs i) = true) ∧ Hid (wr = w)) (fun v _ _ => M - (intOf v).toNat)
  case atStart => exact ⟨0, Nat.zero_le _, rfl, fun i hi => by omega, rfl⟩
  case round =>
    obtain ⟨j, hj, rfl, hall, hw⟩ := hrel
    have hw' : wr = w := hw
    subst hw'
    clear hw
    by_cases hlt : j < xs.length
    · obtain ⟨b, o, rfl, c0⟩ := hx j hlt
      have hlt' : (j : Int) < (xs.length : Int) := by omega
      have HALL : Hid (∀ i, i < j → goodB (ix xs i) = true) := hall
      obtain ⟨x, hxx⟩ : ∃ x, Hid (ix xs j = x) := ⟨_, rfl⟩
      rw [hxx.out] at c0
      have CL := fun W => rright_any x W
      have hzj := hz j hlt
      clear hall
      cases hg : goodB x
      · rw [hg] at CL
        have HE : Hid (allB xs = false) := not_all hlt (by rw [hxx.out]; exact hg)
        clear hg
        go_wp2_with (first | (go_at_call 28; (with_reducible refine (CL _).mono ?_); rintro e w1 ⟨rfl, rfl⟩))
        go_ret
        exact ⟨by unfold oneB; rw [HE.out]; simp, rfl⟩
      · rw [hg] at CL
        have HE : Hid (∀ i, i < j + 1 → goodB (ix xs i) = true) := fun i hi => by
          by_cases h : i = j
          · rw [h, hxx.out]; exact hg
          · exact HALL.out i (by omega)
        clear hg
        go_wp2_with (first | (go_at_call 28; (with_reducible refine (CL _).mono ?_); rintro e w1 ⟨rfl, rfl⟩))
        go_roundw
        case rel => exact ⟨j + 1, by omega, by simp, HE.out, Hid.mk (by first | rfl | trivial)⟩
        case measure =>
          simp [intOf]
          omega
    · obtain rfl : j = xs.length := by omega
      have HALL : Hid (allB xs = true) := all_of hall
      clear hall hz
      by_cases h1 : xs.length ≤ 32
      · have h1' : (xs.length : Int) ≤ 32 := by omega
        by_cases h2 : 0 ≤ i
        · have HE : Hid (oneB xs i = decide (i < (xs.length : Int))) := by unfold Hid oneB; rw [HALL.out]; simp [h1, h2]
          go_wp2_with fail
          go_ret
          exact ⟨by rw [HE.out]; rfl, rfl⟩
        · have HE : Hid (oneB xs i = false) := by unfold Hid oneB; simp [h2]
          go_wp2_with fail
          go_ret
          exact ⟨by rw [HE.out]; rfl, rfl⟩
      · have HE : Hid (oneB xs i = false) := by unfold Hid oneB; simp [h1]
        have h1' : ¬ (xs.length : Int) ≤ 32 := by omega
        go_wp2_with fail
        go_ret
        exact ⟨by rw [HE.out]; rfl, rfl⟩
end
end Go.Proofs.Ytdfccjhmpgoacaa.Str
