/- The reference's names, shapes, Good, Whole and Same. -/
import Derived.Test.YtllnpkijojpccaaDoorWhole
namespace Go.Proofs.YtllnpkijojpccaaDoor
open Go.RowKit

set_option maxRecDepth 100000 in
set_option maxHeartbeats 4000000 in
theorem rrow_in (w : World) (k : Nat) (hk : k < 27) : Calls Tryd.prog 38 #[.int .i64 (k : Int)] w fun e w' => e = .returned (.tuple #[.string ⟨(nmT.getD k []).toArray⟩, .string ⟨(shT.getD k []).toArray⟩]) ∧ w' = w := by
  match k, hk with
  | 0, _ =>
    go_enter Tryd.func38, Tryd.ntmps38
    go_wp2_with fail
    go_ret2
    exact ⟨rfl, rfl⟩
  | 1, _ =>
    go_enter Tryd.func38, Tryd.ntmps38
    go_wp2_with fail
    go_ret2
    exact ⟨rfl, rfl⟩
  | 2, _ =>
    go_enter Tryd.func38, Tryd.ntmps38
    go_wp2_with fail
    go_ret2
    exact ⟨rfl, rfl⟩
  | 3, _ =>
    go_enter Tryd.func38, Tryd.ntmps38
    go_wp2_with fail
    go_ret2
    exact ⟨rfl, rfl⟩
  | 4, _ =>
    go_enter Tryd.func38, Tryd.ntmps38
    go_wp2_with fail
    go_ret2
    exact ⟨rfl, rfl⟩
  | 5, _ =>
    go_enter Tryd.func38, Tryd.ntmps38
    go_wp2_with fail
    go_ret2
    exact ⟨rfl, rfl⟩
  | 6, _ =>
    go_enter Tryd.func38, Tryd.ntmps38
    go_wp2_with fail
    go_ret2
    exact ⟨rfl, rfl⟩
  | 7, _ =>
    go_enter Tryd.func38, Tryd.ntmps38
    go_wp2_with fail
    go_ret2
    exact ⟨rfl, rfl⟩
  | 8, _ =>
    go_enter Tryd.func38, Tryd.ntmps38
    go_wp2_with fail
    go_ret2
    exact ⟨rfl, rfl⟩
  | 9, _ =>
    go_enter Tryd.func38, Tryd.ntmps38
    go_wp2_with fail
    go_ret2
    exact ⟨rfl, rfl⟩
  | 10, _ =>
    go_enter Tryd.func38, Tryd.ntmps38
    go_wp2_with fail
    go_ret2
    exact ⟨rfl, rfl⟩
  | 11, _ =>
    go_enter Tryd.func38, Tryd.ntmps38
    go_wp2_with fail
    go_ret2
    exact ⟨rfl, rfl⟩
  | 12, _ =>
    go_enter Tryd.func38, Tryd.ntmps38
    go_wp2_with fail
    go_ret2
    exact ⟨rfl, rfl⟩
  | 13, _ =>
    go_enter Tryd.func38, Tryd.ntmps38
    go_wp2_with fail
    go_ret2
    exact ⟨rfl, rfl⟩
  | 14, _ =>
    go_enter Tryd.func38, Tryd.ntmps38
    go_wp2_with fail
    go_ret2
    exact ⟨rfl, rfl⟩
  | 15, _ =>
    go_enter Tryd.func38, Tryd.ntmps38
    go_wp2_with fail
    go_ret2
    exact ⟨rfl, rfl⟩
  | 16, _ =>
    go_enter Tryd.func38, Tryd.ntmps38
    go_wp2_with fail
    go_ret2
    exact ⟨rfl, rfl⟩
  | 17, _ =>
    go_enter Tryd.func38, Tryd.ntmps38
    go_wp2_with fail
    go_ret2
    exact ⟨rfl, rfl⟩
  | 18, _ =>
    go_enter Tryd.func38, Tryd.ntmps38
    go_wp2_with fail
    go_ret2
    exact ⟨rfl, rfl⟩
  | 19, _ =>
    go_enter Tryd.func38, Tryd.ntmps38
    go_wp2_with fail
    go_ret2
    exact ⟨rfl, rfl⟩
  | 20, _ =>
    go_enter Tryd.func38, Tryd.ntmps38
    go_wp2_with fail
    go_ret2
    exact ⟨rfl, rfl⟩
  | 21, _ =>
    go_enter Tryd.func38, Tryd.ntmps38
    go_wp2_with fail
    go_ret2
    exact ⟨rfl, rfl⟩
  | 22, _ =>
    go_enter Tryd.func38, Tryd.ntmps38
    go_wp2_with fail
    go_ret2
    exact ⟨rfl, rfl⟩
  | 23, _ =>
    go_enter Tryd.func38, Tryd.ntmps38
    go_wp2_with fail
    go_ret2
    exact ⟨rfl, rfl⟩
  | 24, _ =>
    go_enter Tryd.func38, Tryd.ntmps38
    go_wp2_with fail
    go_ret2
    exact ⟨rfl, rfl⟩
  | 25, _ =>
    go_enter Tryd.func38, Tryd.ntmps38
    go_wp2_with fail
    go_ret2
    exact ⟨rfl, rfl⟩
  | 26, _ =>
    go_enter Tryd.func38, Tryd.ntmps38
    go_wp2_with fail
    go_ret2
    exact ⟨rfl, rfl⟩
  | j + 27, h => exact absurd h (by omega)

set_option maxRecDepth 100000 in
set_option maxHeartbeats 4000000 in
theorem rrow_out (w : World) (op : Int) (ho : opB op = false) : Calls Tryd.prog 38 #[.int .i64 op] w fun e w' => e = .returned (.tuple #[.string ⟨#[]⟩, .string ⟨#[]⟩]) ∧ w' = w := by
  have h : op < 0 ∨ 26 < op := opB_not.1 ho
  have n0 : op ≠ 0 := by omega
  have n1 : op ≠ 1 := by omega
  have n2 : op ≠ 2 := by omega
  have n3 : op ≠ 3 := by omega
  have n4 : op ≠ 4 := by omega
  have n5 : op ≠ 5 := by omega
  have n6 : op ≠ 6 := by omega
  have n7 : op ≠ 7 := by omega
  have n8 : op ≠ 8 := by omega
  have n9 : op ≠ 9 := by omega
  have n10 : op ≠ 10 := by omega
  have n11 : op ≠ 11 := by omega
  have n12 : op ≠ 12 := by omega
  have n13 : op ≠ 13 := by omega
  have n14 : op ≠ 14 := by omega
  have n15 : op ≠ 15 := by omega
  have n16 : op ≠ 16 := by omega
  have n17 : op ≠ 17 := by omega
  have n18 : op ≠ 18 := by omega
  have n19 : op ≠ 19 := by omega
  have n20 : op ≠ 20 := by omega
  have n21 : op ≠ 21 := by omega
  have n22 : op ≠ 22 := by omega
  have n23 : op ≠ 23 := by omega
  have n24 : op ≠ 24 := by omega
  have n25 : op ≠ 25 := by omega
  have n26 : op ≠ 26 := by omega
  clear ho h
  go_enter Tryd.func38, Tryd.ntmps38
  go_wp2_with fail
  go_ret2
  exact ⟨rfl, rfl⟩

theorem rrow_any (w : World) (op : Int) : Calls Tryd.prog 38 #[.int .i64 op] w fun e w' => e = .returned (.tuple #[.string ⟨(nmL op).toArray⟩, .string ⟨(shL op).toArray⟩]) ∧ w' = w := by
  cases ho : opB op with
  | true =>
    obtain ⟨k, rfl, hk⟩ := opB_nat ho
    rw [nmL_nat hk, shL_nat hk]
    exact rrow_in w k hk
  | false =>
    rw [nmL_out ho, shL_out ho]
    exact rrow_out w op ho

theorem rshape_any (op : Int) (w : World) : Calls Tryd.prog 32 #[.int .i64 op] w fun e w' => e = .returned (.string ⟨(shL op).toArray⟩) ∧ w' = w := by
  have H := rrow_any w op
  go_enter Tryd.func32, Tryd.ntmps32
  go_wp2_with (go_at_call 38; (with_reducible refine H.mono ?_); rintro e w' ⟨rfl, rfl⟩)
  go_ret
  exact ⟨rfl, rfl⟩

theorem mayB_no {c : Nat} (h : NoL c) (v n : Int) : mayB c v n = decide (v = 0) := by
  unfold mayB
  rw [bdL_no h]
  by_cases e : v = 0
  · simp [e]
  · by_cases h1 : 0 ≤ v
    · have h2 : ¬ v ≤ 0 := by omega
      simp [e, h2]
    · simp [e, h1]

set_option maxHeartbeats 2000000 in
theorem rmay_any (c : Nat) (v n : Int) (w : World) : Calls Tryd.prog 33 #[.int .u8 (c : Int), .int .i64 v, .int .i64 n] w fun e w' => e = .returned (.bool (mayB c v n)) ∧ w' = w := by
  rcases letter c with rfl | rfl | rfl | rfl | rfl | rfl | rfl | rfl | h
  · have e : mayB 114 v n = (decide (0 ≤ v) && decide (v ≤ 7)) := rfl
    rw [e]
    clear e
    by_cases h1 : 0 ≤ v
    · by_cases h2 : v ≤ 7
      · simp only [h1, h2, decide_true, Bool.and_self]
        go_enter Tryd.func33, Tryd.ntmps33
        go_wp2_with fail
        go_ret
        exact ⟨rfl, rfl⟩
      · simp only [h1, h2, decide_true, decide_false, Bool.and_false]
        go_enter Tryd.func33, Tryd.ntmps33
        go_wp2_with fail
        go_ret
        exact ⟨rfl, rfl⟩
    · simp only [h1, decide_false, Bool.false_and]
      go_enter Tryd.func33, Tryd.ntmps33
      go_wp2_with fail
      go_ret
      exact ⟨rfl, rfl⟩
  · have e : mayB 118 v n = (decide (-1099511627776 ≤ v) && decide (v ≤ 1099511627776)) := rfl
    rw [e]
    clear e
    by_cases h1 : -1099511627776 ≤ v
    · by_cases h2 : v ≤ 1099511627776
      · simp only [h1, h2, decide_true, Bool.and_self]
        go_enter Tryd.func33, Tryd.ntmps33
        go_wp2_with fail
        go_ret
        exact ⟨rfl, rfl⟩
      · simp only [h1, h2, decide_true, decide_false, Bool.and_false]
        go_enter Tryd.func33, Tryd.ntmps33
        go_wp2_with fail
        go_ret
        exact ⟨rfl, rfl⟩
    · simp only [h1, decide_false, Bool.false_and]
      go_enter Tryd.func33, Tryd.ntmps33
      go_wp2_with fail
      go_ret
      exact ⟨rfl, rfl⟩
  · have e : mayB 116 v n = (decide (0 ≤ v) && decide (v ≤ n)) := rfl
    rw [e]
    clear e
    by_cases h1 : 0 ≤ v
    · by_cases h2 : v ≤ n
      · simp only [h1, h2, decide_true, Bool.and_self]
        go_enter Tryd.func33, Tryd.ntmps33
        go_wp2_with fail
        go_ret
        exact ⟨rfl, rfl⟩
      · simp only [h1, h2, decide_true, decide_false, Bool.and_false]
        go_enter Tryd.func33, Tryd.ntmps33
        go_wp2_with fail
        go_ret
        exact ⟨rfl, rfl⟩
    · simp only [h1, decide_false, Bool.false_and]
      go_enter Tryd.func33, Tryd.ntmps33
      go_wp2_with fail
      go_ret
      exact ⟨rfl, rfl⟩
  · have e : mayB 112 v n = (decide (0 ≤ v) && decide (v ≤ 7)) := rfl
    rw [e]
    clear e
    by_cases h1 : 0 ≤ v
    · by_cases h2 : v ≤ 7
      · simp only [h1, h2, decide_true, Bool.and_self]
        go_enter Tryd.func33, Tryd.ntmps33
        go_wp2_with fail
        go_ret
        exact ⟨rfl, rfl⟩
      · simp only [h1, h2, decide_true, decide_false, Bool.and_false]
        go_enter Tryd.func33, Tryd.ntmps33
        go_wp2_with fail
        go_ret
        exact ⟨rfl, rfl⟩
    · simp only [h1, decide_false, Bool.false_and]
      go_enter Tryd.func33, Tryd.ntmps33
      go_wp2_with fail
      go_ret
      exact ⟨rfl, rfl⟩
  · have e : mayB 107 v n = (decide (1 ≤ v) && decide (v ≤ 65536)) := rfl
    rw [e]
    clear e
    by_cases h1 : 1 ≤ v
    · by_cases h2 : v ≤ 65536
      · simp only [h1, h2, decide_true, Bool.and_self]
        go_enter Tryd.func33, Tryd.ntmps33
        go_wp2_with fail
        go_ret
        exact ⟨rfl, rfl⟩
      · simp only [h1, h2, decide_true, decide_false, Bool.and_false]
        go_enter Tryd.func33, Tryd.ntmps33
        go_wp2_with fail
        go_ret
        exact ⟨rfl, rfl⟩
    · simp only [h1, decide_false, Bool.false_and]
      go_enter Tryd.func33, Tryd.ntmps33
      go_wp2_with fail
      go_ret
      exact ⟨rfl, rfl⟩
  · have e : mayB 111 v n = (decide (0 ≤ v) && decide (v ≤ 3)) := rfl
    rw [e]
    clear e
    by_cases h1 : 0 ≤ v
    · by_cases h2 : v ≤ 3
      · simp only [h1, h2, decide_true, Bool.and_self]
        go_enter Tryd.func33, Tryd.ntmps33
        go_wp2_with fail
        go_ret
        exact ⟨rfl, rfl⟩
      · simp only [h1, h2, decide_true, decide_false, Bool.and_false]
        go_enter Tryd.func33, Tryd.ntmps33
        go_wp2_with fail
        go_ret
        exact ⟨rfl, rfl⟩
    · simp only [h1, decide_false, Bool.false_and]
      go_enter Tryd.func33, Tryd.ntmps33
      go_wp2_with fail
      go_ret
      exact ⟨rfl, rfl⟩
  · have e : mayB 110 v n = (decide (1 ≤ v) && decide (v ≤ 1000)) := rfl
    rw [e]
    clear e
    by_cases h1 : 1 ≤ v
    · by_cases h2 : v ≤ 1000
      · simp only [h1, h2, decide_true, Bool.and_self]
        go_enter Tryd.func33, Tryd.ntmps33
        go_wp2_with fail
        go_ret
        exact ⟨rfl, rfl⟩
      · simp only [h1, h2, decide_true, decide_false, Bool.and_false]
        go_enter Tryd.func33, Tryd.ntmps33
        go_wp2_with fail
        go_ret
        exact ⟨rfl, rfl⟩
    · simp only [h1, decide_false, Bool.false_and]
      go_enter Tryd.func33, Tryd.ntmps33
      go_wp2_with fail
      go_ret
      exact ⟨rfl, rfl⟩
  · have e : mayB 115 v n = (decide (0 ≤ v) && decide (v ≤ 1000)) := rfl
    rw [e]
    clear e
    by_cases h1 : 0 ≤ v
    · by_cases h2 : v ≤ 1000
      · simp only [h1, h2, decide_true, Bool.and_self]
        go_enter Tryd.func33, Tryd.ntmps33
        go_wp2_with fail
        go_ret
        exact ⟨rfl, rfl⟩
      · simp only [h1, h2, decide_true, decide_false, Bool.and_false]
        go_enter Tryd.func33, Tryd.ntmps33
        go_wp2_with fail
        go_ret
        exact ⟨rfl, rfl⟩
    · simp only [h1, decide_false, Bool.false_and]
      go_enter Tryd.func33, Tryd.ntmps33
      go_wp2_with fail
      go_ret
      exact ⟨rfl, rfl⟩
  · rw [mayB_no h]
    obtain ⟨z, hz⟩ : ∃ z : Int, (c : Int) = z := ⟨_, rfl⟩
    obtain ⟨h1, h2, h3, h4, h5, h6, h7, h8⟩ := h.int hz
    rw [hz]
    clear hz h
    by_cases hv : v = 0
    · subst hv
      go_enter Tryd.func33, Tryd.ntmps33
      go_wp2_with fail
      go_ret
      exact ⟨rfl, rfl⟩
    · have hv2 : (v == 0) = false := by simpa using hv
      simp only [hv, decide_false]
      go_enter Tryd.func33, Tryd.ntmps33
      go_wp2_with fail
      go_ret
      exact ⟨rfl, rfl⟩

section
variable {w : World} {xa ya : Option Addr} {xc yc : Nat} {xs ys : List Ins}
end

end Go.Proofs.YtllnpkijojpccaaDoor
