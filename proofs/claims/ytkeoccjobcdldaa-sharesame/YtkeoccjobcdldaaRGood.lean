/- The contract of the reference's Good. -/
import Derived.Test.YtkeoccjobcdldaaGood
namespace Go.Proofs.Ytkeoccjobcdldaa
open Go.RowKit

theorem okC_parts (x d : Int) : okC (x, d) = true ∨ okC (x, d) = false ∧ (x < 1 ∨ ¬ x < 1 ∧ 65536 < x ∨ ¬ x < 1 ∧ ¬ 65536 < x ∧ d < 0 ∨ ¬ x < 1 ∧ ¬ 65536 < x ∧ ¬ d < 0 ∧ 64 < d) := by
  by_cases h1 : x < 1
  · exact .inr ⟨okC_no (.inl h1), .inl h1⟩
  by_cases h2 : 65536 < x
  · exact .inr ⟨okC_no (.inr (.inl h2)), .inr (.inl ⟨h1, h2⟩)⟩
  by_cases h3 : d < 0
  · exact .inr ⟨okC_no (.inr (.inr (.inl h3))), .inr (.inr (.inl ⟨h1, h2, h3⟩))⟩
  by_cases h4 : 64 < d
  · exact .inr ⟨okC_no (.inr (.inr (.inr h4))), .inr (.inr (.inr ⟨h1, h2, h3, h4⟩))⟩
  exact .inl (okC_yes (by show 1 ≤ x; omega) (by show x ≤ 65536; omega) (by show 0 ≤ d; omega) (by show d ≤ 64; omega))
theorem okC_out {x d : Int} (h : okC (x, d) = true) : 1 ≤ x ∧ x ≤ 65536 ∧ 0 ≤ d ∧ d ≤ 64 := by
  unfold okC at h
  simpa using h

section
variable {w : World} {la : Option Addr} {lc : Nat} {ls : List (Int × Int)}

set_option maxHeartbeats 2000000 in
theorem rgood_any (hl : CL w la ls) (hn : ls.length ≤ 1000) :
    Calls Try.prog 13 #[.slice la ls.length lc] w fun e w' => e = .returned (.bool (goodB ls)) ∧ Below w.heap.size w w' := by
  have HG : Hid (goodB ls = (decide (ls.length ≤ 64) && ls.all okC)) := rfl
  rw [HG.out]
  clear HG
  go_enter Try.func13, Try.ntmps13
  go_wp2_with fail
  go_loopw [7, 4] (fun v _ wr => ∃ j : Nat, j ≤ ls.length ∧ v = .int .i64 j ∧ (ls.take j).all okC = true ∧ Below w.heap.size w wr) (fun v _ _ => 1000 - (intOf v).toNat)
  case atStart => exact ⟨0, Nat.zero_le _, rfl, rfl, Below.refl _ _⟩
  case round =>
    obtain ⟨j, hj, rfl, hall, hb⟩ := hrel
    by_cases hlt : j < ls.length
    · obtain ⟨b, o, rfl, c0, c1⟩ := hl.below hb j hlt
      have hlt' : (j : Int) < (ls.length : Int) := by omega
      have hnx := all_take_next hlt hall
      rcases okC_parts (wt ls j) (dm ls j) with hk | ⟨hk, hr⟩
      · rw [hk] at hnx
        have hnx' : Hid ((ls.take (j + 1)).all okC = true) := hnx
        obtain ⟨p1, p2, p3, p4⟩ := okC_out hk
        clear hk hall hnx
        generalize wt ls j = x at *
        generalize dm ls j = d at *
        have q1 : decide (x < 1) = false := by simp; omega
        have q2 : decide (65536 < x) = false := by simp; omega
        have q3 : decide (d < 0) = false := by simp; omega
        have q4 : decide (64 < d) = false := by simp; omega
        clear p1 p2 p3 p4
        go_wp2_with fail
        go_roundw
        case rel => exact ⟨j + 1, by omega, by simp, hnx'.out, hb.alloc hb.size _⟩
        case measure =>
          simp [intOf]
          omega
      · have hno : Hid ((decide (ls.length ≤ 64) && ls.all okC) = false) := by unfold Hid; rw [all_no hlt hk, Bool.and_false]
        clear hk hall hnx
        generalize wt ls j = x at *
        generalize dm ls j = d at *
        rcases hr with h1 | ⟨h1, h2⟩ | ⟨h1, h2, h3⟩ | ⟨h1, h2, h3, h4⟩
        all_goals
          go_wp2_with fail
          go_ret
          exact ⟨by rw [hno.out]; rfl, hb.alloc hb.size _⟩
    · obtain rfl : j = ls.length := by omega
      rw [List.take_length] at hall
      have hyes : Hid ((decide (ls.length ≤ 64) && ls.all okC) = decide (ls.length ≤ 64)) := by unfold Hid; rw [hall, Bool.and_true]
      have h64 : Hid (decide (ls.length ≤ 64) = decide ((ls.length : Int) ≤ 64)) := by unfold Hid; exact decide_eq_decide.2 (by omega)
      clear hall
      go_wp2_with fail
      go_ret
      exact ⟨by rw [hyes.out, h64.out]; rfl, hb⟩
end
end Go.Proofs.Ytkeoccjobcdldaa
