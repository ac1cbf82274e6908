/- Contracts of Good and of what it calls; of the reference's Good. -/
import Derived.Test.YtkeoccjobcdldaaFns
namespace Go.Proofs.Ytkeoccjobcdldaa
open Go.RowKit

theorem okC_no {c : Int × Int} (h : c.1 < 1 ∨ 65536 < c.1 ∨ c.2 < 0 ∨ 64 < c.2) : okC c = false := by unfold okC; simp; omega
theorem okC_yes {c : Int × Int} (h0 : 1 ≤ c.1) (h1 : c.1 ≤ 65536) (h2 : 0 ≤ c.2) (h3 : c.2 ≤ 64) : okC c = true := by unfold okC; simp; omega

theorem good1_any (x d : Int) (w : World) :
    Calls Try.prog 20 #[.agg #[.int .i64 x, .int .i64 d]] w fun e w' => e = .returned (.bool (!okC (x, d))) ∧ Below w.heap.size w w' := by
  by_cases h1 : x < 1
  · rw [okC_no (.inl h1), Bool.not_false]
    go_enter Try.func20, Try.ntmps20
    go_wp2
    go_ret
    exact ⟨rfl, (Below.refl _ _).alloc (Nat.le_refl _) _⟩
  by_cases h2 : 65536 < x
  · rw [okC_no (.inr (.inl h2)), Bool.not_false]
    go_enter Try.func20, Try.ntmps20
    go_wp2
    go_ret
    exact ⟨rfl, (Below.refl _ _).alloc (Nat.le_refl _) _⟩
  by_cases h3 : d < 0
  · rw [okC_no (.inr (.inr (.inl h3))), Bool.not_false]
    go_enter Try.func20, Try.ntmps20
    go_wp2
    go_ret
    exact ⟨rfl, (Below.refl _ _).alloc (Nat.le_refl _) _⟩
  by_cases h4 : 64 < d
  · rw [okC_no (.inr (.inr (.inr h4))), Bool.not_false]
    go_enter Try.func20, Try.ntmps20
    go_wp2
    go_ret
    exact ⟨rfl, (Below.refl _ _).alloc (Nat.le_refl _) _⟩
  · rw [okC_yes (by omega) (by omega) (by omega) (by omega), Bool.not_true]
    have h4' : decide (64 < d) = false := by simpa using h4
    clear h4
    go_enter Try.func20, Try.ntmps20
    go_wp2
    go_ret
    exact ⟨rfl, (Below.refl _ _).alloc (Nat.le_refl _) _⟩

theorem all_take_next {ls : List (Int × Int)} {j : Nat} (hj : j < ls.length) (h : (ls.take j).all okC = true) : (ls.take (j + 1)).all okC = okC (wt ls j, dm ls j) := by
  rw [List.take_add_one, cl_get hj, List.all_append, h]
  simp
theorem all_no {ls : List (Int × Int)} {j : Nat} (hj : j < ls.length) (h : okC (wt ls j, dm ls j) = false) : ls.all okC = false := by
  rw [List.all_eq_false]
  refine ⟨_, List.mem_of_getElem? (cl_get hj), by rw [h]; decide⟩

section
variable {w : World} {la : Option Addr} {lc : Nat} {ls : List (Int × Int)}

set_option maxHeartbeats 1000000 in
theorem index_any (hl : CL w la ls) (hn : ls.length ≤ 1000) :
    Calls Try.prog 32 #[.slice la ls.length lc, .func (.func 20) #[] #[]] w fun e w' => ∃ r : Int, e = .returned (.int .i64 r) ∧ decide (0 ≤ r) = !ls.all okC ∧ Below w.heap.size w w' := by
  go_enter Try.func32, Try.ntmps32
  go_wp2_with fail
  go_loopw [8, 5] (fun v _ wr => ∃ j : Nat, j ≤ ls.length ∧ v = .int .i64 j ∧ (ls.take j).all okC = true ∧ Below w.heap.size w wr) (fun v _ _ => 1000 - (intOf v).toNat)
  case atStart => exact ⟨0, Nat.zero_le _, rfl, rfl, Below.refl _ _⟩
  case round =>
    obtain ⟨j, hj, rfl, hall, hb⟩ := hrel
    by_cases hlt : j < ls.length
    · obtain ⟨b, o, rfl, c0, c1⟩ := hl.below hb j hlt
      have G := fun W => good1_any (wt ls j) (dm ls j) W
      have hlt' : (j : Int) < (ls.length : Int) := by omega
      have hnx := all_take_next hlt hall
      cases hk : okC (wt ls j, dm ls j)
      · have hno : Hid (ls.all okC = false) := all_no hlt hk
        rw [hk] at G
        clear hnx hk hall
        generalize wt ls j = x at *
        generalize dm ls j = d at *
        go_wp2_with (first | (go_at_call 20; refine (G _).mono ?_; rintro e w2 ⟨rfl, b2⟩))
        go_ret
        exact ⟨_, rfl, by rw [hno.out]; simp, below2 hb hb.size b2⟩
      · rw [hk] at G hnx
        clear hk hall
        generalize wt ls j = x at *
        generalize dm ls j = d at *
        go_wp2_with (first | (go_at_call 20; refine (G _).mono ?_; rintro e w2 ⟨rfl, b2⟩))
        go_roundw
        case rel => exact ⟨j + 1, by omega, by simp, hnx, below2 hb hb.size b2⟩
        case measure =>
          simp [intOf]
          omega
    · obtain rfl : j = ls.length := by omega
      rw [List.take_length] at hall
      have hyes : Hid (ls.all okC = true) := hall
      clear hall
      go_wp2_with fail
      go_ret
      exact ⟨_, rfl, by rw [hyes.out]; decide, hb⟩

theorem contains_any (hl : CL w la ls) (hn : ls.length ≤ 1000) :
    Calls Try.prog 21 #[.slice la ls.length lc, .func (.func 20) #[] #[]] w fun e w' => e = .returned (.bool (!ls.all okC)) ∧ Below w.heap.size w w' := by
  have I := index_any (lc := lc) hl hn
  go_enter Try.func21, Try.ntmps21
  go_wp2_with (first | (go_at_call 32; refine I.mono ?_; rintro e w2 ⟨r, rfl, hr, b2⟩))
  go_ret
  exact ⟨rfl, b2⟩

theorem good_any (hl : CL w la ls) (hn : ls.length ≤ 1000) :
    Calls Try.prog 12 #[.slice la ls.length lc] w fun e w' => e = .returned (.bool (goodB ls)) ∧ Below w.heap.size w w' := by
  have I := fun W (h : Below w.heap.size w W) => contains_any (lc := lc) (hl.below h) hn
  by_cases h : ls.length ≤ 64
  · have h' : (ls.length : Int) ≤ 64 := by omega
    have hg : goodB ls = ls.all okC := by simp [goodB, h]
    rw [hg]
    go_enter Try.func12, Try.ntmps12
    go_wp2_with (first | (go_at_call 21; refine (I _ (Below.refl _ _)).mono ?_; rintro e w2 ⟨rfl, b2⟩))
    go_ret
    exact ⟨by simp, b2⟩
  · have h' : decide ((ls.length : Int) ≤ 64) = false := by simp; omega
    have hg : goodB ls = false := by simp [goodB, h]
    rw [hg]
    clear h
    go_enter Try.func12, Try.ntmps12
    go_wp2_with fail
    go_ret
    exact ⟨rfl, Below.refl _ _⟩
end
end Go.Proofs.Ytkeoccjobcdldaa
