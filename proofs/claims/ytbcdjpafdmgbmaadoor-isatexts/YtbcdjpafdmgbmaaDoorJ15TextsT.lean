/- The reference's names, shapes, Good, Whole and Same. -/
/- Programs as bytes, plain. -/
import Derived.Test.YtbcdjpafdmgbmaaDoorJ12TextsT
namespace Go.Proofs.YtbcdjpafdmgbmaaDoor
open Go.RowKit

theorem rcall_any (op : Int) (w : World) : Calls Tryd.prog 14 #[.int .i64 op] w fun e w' => e = .returned (.bool (callB op)) ∧ w' = w := by
  unfold callB
  by_cases h1 : 11 ≤ op
  · by_cases h2 : op ≤ 26
    · simp only [h1, h2, decide_true, Bool.and_self]
      go_enter Tryd.func14, Tryd.ntmps14
      go_wp2_with fail
      go_ret
      exact ⟨rfl, rfl⟩
    · simp only [h1, h2, decide_true, decide_false, Bool.and_false]
      go_enter Tryd.func14, Tryd.ntmps14
      go_wp2_with fail
      go_ret
      exact ⟨rfl, rfl⟩
  · simp only [h1, decide_false, Bool.false_and]
    go_enter Tryd.func14, Tryd.ntmps14
    go_wp2_with fail
    go_ret
    exact ⟨rfl, rfl⟩

set_option maxRecDepth 100000 in
set_option maxHeartbeats 4000000 in
theorem rrow_in (w : World) (k : Nat) (hk : k < 27) : Calls Tryd.prog 30 #[.int .i64 (k : Int)] w fun e w' => e = .returned (.tuple #[.string ⟨(nmT.getD k []).toArray⟩, .string ⟨(shT.getD k []).toArray⟩]) ∧ w' = w := by
  match k, hk with
  | 0, _ =>
    go_enter Tryd.func30, Tryd.ntmps30
    go_wp2_with fail
    go_ret2
    exact ⟨rfl, rfl⟩
  | 1, _ =>
    go_enter Tryd.func30, Tryd.ntmps30
    go_wp2_with fail
    go_ret2
    exact ⟨rfl, rfl⟩
  | 2, _ =>
    go_enter Tryd.func30, Tryd.ntmps30
    go_wp2_with fail
    go_ret2
    exact ⟨rfl, rfl⟩
  | 3, _ =>
    go_enter Tryd.func30, Tryd.ntmps30
    go_wp2_with fail
    go_ret2
    exact ⟨rfl, rfl⟩
  | 4, _ =>
    go_enter Tryd.func30, Tryd.ntmps30
    go_wp2_with fail
    go_ret2
    exact ⟨rfl, rfl⟩
  | 5, _ =>
    go_enter Tryd.func30, Tryd.ntmps30
    go_wp2_with fail
    go_ret2
    exact ⟨rfl, rfl⟩
  | 6, _ =>
    go_enter Tryd.func30, Tryd.ntmps30
    go_wp2_with fail
    go_ret2
    exact ⟨rfl, rfl⟩
  | 7, _ =>
    go_enter Tryd.func30, Tryd.ntmps30
    go_wp2_with fail
    go_ret2
    exact ⟨rfl, rfl⟩
  | 8, _ =>
    go_enter Tryd.func30, Tryd.ntmps30
    go_wp2_with fail
    go_ret2
    exact ⟨rfl, rfl⟩
  | 9, _ =>
    go_enter Tryd.func30, Tryd.ntmps30
    go_wp2_with fail
    go_ret2
    exact ⟨rfl, rfl⟩
  | 10, _ =>
    go_enter Tryd.func30, Tryd.ntmps30
    go_wp2_with fail
    go_ret2
    exact ⟨rfl, rfl⟩
  | 11, _ =>
    go_enter Tryd.func30, Tryd.ntmps30
    go_wp2_with fail
    go_ret2
    exact ⟨rfl, rfl⟩
  | 12, _ =>
    go_enter Tryd.func30, Tryd.ntmps30
    go_wp2_with fail
    go_ret2
    exact ⟨rfl, rfl⟩
  | 13, _ =>
    go_enter Tryd.func30, Tryd.ntmps30
    go_wp2_with fail
    go_ret2
    exact ⟨rfl, rfl⟩
  | 14, _ =>
    go_enter Tryd.func30, Tryd.ntmps30
    go_wp2_with fail
    go_ret2
    exact ⟨rfl, rfl⟩
  | 15, _ =>
    go_enter Tryd.func30, Tryd.ntmps30
    go_wp2_with fail
    go_ret2
    exact ⟨rfl, rfl⟩
  | 16, _ =>
    go_enter Tryd.func30, Tryd.ntmps30
    go_wp2_with fail
    go_ret2
    exact ⟨rfl, rfl⟩
  | 17, _ =>
    go_enter Tryd.func30, Tryd.ntmps30
    go_wp2_with fail
    go_ret2
    exact ⟨rfl, rfl⟩
  | 18, _ =>
    go_enter Tryd.func30, Tryd.ntmps30
    go_wp2_with fail
    go_ret2
    exact ⟨rfl, rfl⟩
  | 19, _ =>
    go_enter Tryd.func30, Tryd.ntmps30
    go_wp2_with fail
    go_ret2
    exact ⟨rfl, rfl⟩
  | 20, _ =>
    go_enter Tryd.func30, Tryd.ntmps30
    go_wp2_with fail
    go_ret2
    exact ⟨rfl, rfl⟩
  | 21, _ =>
    go_enter Tryd.func30, Tryd.ntmps30
    go_wp2_with fail
    go_ret2
    exact ⟨rfl, rfl⟩
  | 22, _ =>
    go_enter Tryd.func30, Tryd.ntmps30
    go_wp2_with fail
    go_ret2
    exact ⟨rfl, rfl⟩
  | 23, _ =>
    go_enter Tryd.func30, Tryd.ntmps30
    go_wp2_with fail
    go_ret2
    exact ⟨rfl, rfl⟩
  | 24, _ =>
    go_enter Tryd.func30, Tryd.ntmps30
    go_wp2_with fail
    go_ret2
    exact ⟨rfl, rfl⟩
  | 25, _ =>
    go_enter Tryd.func30, Tryd.ntmps30
    go_wp2_with fail
    go_ret2
    exact ⟨rfl, rfl⟩
  | 26, _ =>
    go_enter Tryd.func30, Tryd.ntmps30
    go_wp2_with fail
    go_ret2
    exact ⟨rfl, rfl⟩
  | j + 27, h => exact absurd h (by omega)

set_option maxRecDepth 100000 in
set_option maxHeartbeats 4000000 in
theorem rrow_out (w : World) (op : Int) (ho : opB op = false) : Calls Tryd.prog 30 #[.int .i64 op] w fun e w' => e = .returned (.tuple #[.string ⟨#[]⟩, .string ⟨#[]⟩]) ∧ w' = w := by
  have h : op < 0 ∨ 26 < op := opB_not.1 ho
  have n0 : op ≠ 0 := by omega
  have n1 : op ≠ 1 := by omega
  have n2 : op ≠ 2 := by omega
  have n3 : op ≠ 3 := by omega
  have n4 : op ≠ 4 := by omega
  have n5 : op ≠ 5 := by omega
  have n6 : op ≠ 6 := by omega
  have n7 : op ≠ 7 := by omega
  have n8 : op ≠ 8 := by omega
  have n9 : op ≠ 9 := by omega
  have n10 : op ≠ 10 := by omega
  have n11 : op ≠ 11 := by omega
  have n12 : op ≠ 12 := by omega
  have n13 : op ≠ 13 := by omega
  have n14 : op ≠ 14 := by omega
  have n15 : op ≠ 15 := by omega
  have n16 : op ≠ 16 := by omega
  have n17 : op ≠ 17 := by omega
  have n18 : op ≠ 18 := by omega
  have n19 : op ≠ 19 := by omega
  have n20 : op ≠ 20 := by omega
  have n21 : op ≠ 21 := by omega
  have n22 : op ≠ 22 := by omega
  have n23 : op ≠ 23 := by omega
  have n24 : op ≠ 24 := by omega
  have n25 : op ≠ 25 := by omega
  have n26 : op ≠ 26 := by omega
  clear ho h
  go_enter Tryd.func30, Tryd.ntmps30
  go_wp2_with fail
  go_ret2
  exact ⟨rfl, rfl⟩

theorem rrow_any (w : World) (op : Int) : Calls Tryd.prog 30 #[.int .i64 op] w fun e w' => e = .returned (.tuple #[.string ⟨(nmL op).toArray⟩, .string ⟨(shL op).toArray⟩]) ∧ w' = w := by
  cases ho : opB op with
  | true =>
    obtain ⟨k, rfl, hk⟩ := opB_nat ho
    rw [nmL_nat hk, shL_nat hk]
    exact rrow_in w k hk
  | false =>
    rw [nmL_out ho, shL_out ho]
    exact rrow_out w op ho

theorem rname_any (op : Int) (w : World) : Calls Tryd.prog 10 #[.int .i64 op] w fun e w' => e = .returned (.string ⟨(nmL op).toArray⟩) ∧ w' = w := by
  have H := rrow_any w op
  go_enter Tryd.func10, Tryd.ntmps10
  go_wp2_with (go_at_call 30; (with_reducible refine H.mono ?_); rintro e w' ⟨rfl, rfl⟩)
  go_ret
  exact ⟨rfl, rfl⟩
theorem rshape_any (op : Int) (w : World) : Calls Tryd.prog 12 #[.int .i64 op] w fun e w' => e = .returned (.string ⟨(shL op).toArray⟩) ∧ w' = w := by
  have H := rrow_any w op
  go_enter Tryd.func12, Tryd.ntmps12
  go_wp2_with (go_at_call 30; (with_reducible refine H.mono ?_); rintro e w' ⟨rfl, rfl⟩)
  go_ret
  exact ⟨rfl, rfl⟩

theorem mayB_no {c : Nat} (h : NoL c) (v n : Int) : mayB c v n = decide (v = 0) := by
  unfold mayB
  rw [bdL_no h]
  by_cases e : v = 0
  · simp [e]
  · by_cases h1 : 0 ≤ v
    · have h2 : ¬ v ≤ 0 := by omega
      simp [e, h2]
    · simp [e, h1]

set_option maxHeartbeats 2000000 in
theorem rmay_any (c : Nat) (v n : Int) (w : World) : Calls Tryd.prog 33 #[.int .u8 (c : Int), .int .i64 v, .int .i64 n] w fun e w' => e = .returned (.bool (mayB c v n)) ∧ w' = w := by
  rcases letter c with rfl | rfl | rfl | rfl | rfl | rfl | rfl | rfl | h
  · have e : mayB 114 v n = (decide (0 ≤ v) && decide (v ≤ 7)) := rfl
    rw [e]
    clear e
    by_cases h1 : 0 ≤ v
    · by_cases h2 : v ≤ 7
      · simp only [h1, h2, decide_true, Bool.and_self]
        go_enter Tryd.func33, Tryd.ntmps33
        go_wp2_with fail
        go_ret
        exact ⟨rfl, rfl⟩
      · simp only [h1, h2, decide_true, decide_false, Bool.and_false]
        go_enter Tryd.func33, Tryd.ntmps33
        go_wp2_with fail
        go_ret
        exact ⟨rfl, rfl⟩
    · simp only [h1, decide_false, Bool.false_and]
      go_enter Tryd.func33, Tryd.ntmps33
      go_wp2_with fail
      go_ret
      exact ⟨rfl, rfl⟩
  · have e : mayB 118 v n = (decide (-1099511627776 ≤ v) && decide (v ≤ 1099511627776)) := rfl
    rw [e]
    clear e
    by_cases h1 : -1099511627776 ≤ v
    · by_cases h2 : v ≤ 1099511627776
      · simp only [h1, h2, decide_true, Bool.and_self]
        go_enter Tryd.func33, Tryd.ntmps33
        go_wp2_with fail
        go_ret
        exact ⟨rfl, rfl⟩
      · simp only [h1, h2, decide_true, decide_false, Bool.and_false]
        go_enter Tryd.func33, Tryd.ntmps33
        go_wp2_with fail
        go_ret
        exact ⟨rfl, rfl⟩
    · simp only [h1, decide_false, Bool.false_and]
      go_enter Tryd.func33, Tryd.ntmps33
      go_wp2_with fail
      go_ret
      exact ⟨rfl, rfl⟩
  · have e : mayB 116 v n = (decide (0 ≤ v) && decide (v ≤ n)) := rfl
    rw [e]
    clear e
    by_cases h1 : 0 ≤ v
    · by_cases h2 : v ≤ n
      · simp only [h1, h2, decide_true, Bool.and_self]
        go_enter Tryd.func33, Tryd.ntmps33
        go_wp2_with fail
        go_ret
        exact ⟨rfl, rfl⟩
      · simp only [h1, h2, decide_true, decide_false, Bool.and_false]
        go_enter Tryd.func33, Tryd.ntmps33
        go_wp2_with fail
        go_ret
        exact ⟨rfl, rfl⟩
    · simp only [h1, decide_false, Bool.false_and]
      go_enter Tryd.func33, Tryd.ntmps33
      go_wp2_with fail
      go_ret
      exact ⟨rfl, rfl⟩
  · have e : mayB 112 v n = (decide (0 ≤ v) && decide (v ≤ 7)) := rfl
    rw [e]
    clear e
    by_cases h1 : 0 ≤ v
    · by_cases h2 : v ≤ 7
      · simp only [h1, h2, decide_true, Bool.and_self]
        go_enter Tryd.func33, Tryd.ntmps33
        go_wp2_with fail
        go_ret
        exact ⟨rfl, rfl⟩
      · simp only [h1, h2, decide_true, decide_false, Bool.and_false]
        go_enter Tryd.func33, Tryd.ntmps33
        go_wp2_with fail
        go_ret
        exact ⟨rfl, rfl⟩
    · simp only [h1, decide_false, Bool.false_and]
      go_enter Tryd.func33, Tryd.ntmps33
      go_wp2_with fail
      go_ret
      exact ⟨rfl, rfl⟩
  · have e : mayB 107 v n = (decide (1 ≤ v) && decide (v ≤ 65536)) := rfl
    rw [e]
    clear e
    by_cases h1 : 1 ≤ v
    · by_cases h2 : v ≤ 65536
      · simp only [h1, h2, decide_true, Bool.and_self]
        go_enter Tryd.func33, Tryd.ntmps33
        go_wp2_with fail
        go_ret
        exact ⟨rfl, rfl⟩
      · simp only [h1, h2, decide_true, decide_false, Bool.and_false]
        go_enter Tryd.func33, Tryd.ntmps33
        go_wp2_with fail
        go_ret
        exact ⟨rfl, rfl⟩
    · simp only [h1, decide_false, Bool.false_and]
      go_enter Tryd.func33, Tryd.ntmps33
      go_wp2_with fail
      go_ret
      exact ⟨rfl, rfl⟩
  · have e : mayB 111 v n = (decide (0 ≤ v) && decide (v ≤ 3)) := rfl
    rw [e]
    clear e
    by_cases h1 : 0 ≤ v
    · by_cases h2 : v ≤ 3
      · simp only [h1, h2, decide_true, Bool.and_self]
        go_enter Tryd.func33, Tryd.ntmps33
        go_wp2_with fail
        go_ret
        exact ⟨rfl, rfl⟩
      · simp only [h1, h2, decide_true, decide_false, Bool.and_false]
        go_enter Tryd.func33, Tryd.ntmps33
        go_wp2_with fail
        go_ret
        exact ⟨rfl, rfl⟩
    · simp only [h1, decide_false, Bool.false_and]
      go_enter Tryd.func33, Tryd.ntmps33
      go_wp2_with fail
      go_ret
      exact ⟨rfl, rfl⟩
  · have e : mayB 110 v n = (decide (1 ≤ v) && decide (v ≤ 1000)) := rfl
    rw [e]
    clear e
    by_cases h1 : 1 ≤ v
    · by_cases h2 : v ≤ 1000
      · simp only [h1, h2, decide_true, Bool.and_self]
        go_enter Tryd.func33, Tryd.ntmps33
        go_wp2_with fail
        go_ret
        exact ⟨rfl, rfl⟩
      · simp only [h1, h2, decide_true, decide_false, Bool.and_false]
        go_enter Tryd.func33, Tryd.ntmps33
        go_wp2_with fail
        go_ret
        exact ⟨rfl, rfl⟩
    · simp only [h1, decide_false, Bool.false_and]
      go_enter Tryd.func33, Tryd.ntmps33
      go_wp2_with fail
      go_ret
      exact ⟨rfl, rfl⟩
  · have e : mayB 115 v n = (decide (0 ≤ v) && decide (v ≤ 1000)) := rfl
    rw [e]
    clear e
    by_cases h1 : 0 ≤ v
    · by_cases h2 : v ≤ 1000
      · simp only [h1, h2, decide_true, Bool.and_self]
        go_enter Tryd.func33, Tryd.ntmps33
        go_wp2_with fail
        go_ret
        exact ⟨rfl, rfl⟩
      · simp only [h1, h2, decide_true, decide_false, Bool.and_false]
        go_enter Tryd.func33, Tryd.ntmps33
        go_wp2_with fail
        go_ret
        exact ⟨rfl, rfl⟩
    · simp only [h1, decide_false, Bool.false_and]
      go_enter Tryd.func33, Tryd.ntmps33
      go_wp2_with fail
      go_ret
      exact ⟨rfl, rfl⟩
  · rw [mayB_no h]
    obtain ⟨z, hz⟩ : ∃ z : Int, (c : Int) = z := ⟨_, rfl⟩
    obtain ⟨h1, h2, h3, h4, h5, h6, h7, h8⟩ := h.int hz
    rw [hz]
    clear hz h
    by_cases hv : v = 0
    · subst hv
      go_enter Tryd.func33, Tryd.ntmps33
      go_wp2_with fail
      go_ret
      exact ⟨rfl, rfl⟩
    · have hv2 : (v == 0) = false := by simpa using hv
      simp only [hv, decide_false]
      go_enter Tryd.func33, Tryd.ntmps33
      go_wp2_with fail
      go_ret
      exact ⟨rfl, rfl⟩

section
variable {w : World} {xa ya : Option Addr} {xc yc : Nat} {xs ys : List Ins}
set_option maxHeartbeats 1000000 in
theorem rsame_any (hx : PV w xa xs) (hy : PV w ya ys) (hn : xs.length ≤ 50000) :
    Calls Tryd.prog 20 #[.slice xa xs.length xc, .slice ya ys.length yc] w fun e w' => e = .returned (.bool (decide (xs = ys))) ∧ Below w.heap.size w w' := by
  by_cases hl : xs.length = ys.length
  · have hl1 : Hid (xs.length = ys.length) := hl
    have hbe : ((xs.length : Int) != (ys.length : Int)) = false := by simp; omega
    clear hl
    go_enter Tryd.func20, Tryd.ntmps20
    go_wp2_with fail
    go_loopw [13, 5] (fun v _ wr => ∃ j : Nat, j ≤ xs.length ∧ v = .int .i64 j ∧ Hid (∀ i, i < j → ins xs i = ins ys i) ∧ Below w.heap.size w wr) (fun v _ _ => 50000 - (intOf v).toNat)
    case atStart => exact ⟨0, Nat.zero_le _, rfl, Hid.mk (fun i hi => by omega), Below.refl _ _⟩
    case round =>
      obtain ⟨j, hj, rfl, hall, hb⟩ := hrel
      by_cases hlt : j < xs.length
      · have hlt2 : j < ys.length := by rw [← hl1.out]; exact hlt
        obtain ⟨b, o, rfl, c0, c1, c2, c3⟩ := hx.below hb j hlt
        obtain ⟨b2, o2, rfl, d0, d1, d2, d3⟩ := hy.below hb j hlt2
        have hlt' : (j : Int) < (xs.length : Int) := by omega
        have hlt2' : (j : Int) < (ys.length : Int) := by omega
        by_cases he : ins xs j = ins ys j
        · have hall2 : ∀ i, i < j + 1 → ins xs i = ins ys i := fun i hi => by
            by_cases h : i = j
            · rw [h]; exact he
            · exact hall.out i (by omega)
          rw [← he] at d0 d1 d2 d3
          clear he hall hbe
          have HALL : Hid (∀ i, i < j + 1 → ins xs i = ins ys i) := hall2
          clear hall2
          generalize (ins xs j).1 = p at *
          generalize (ins xs j).2.1 = q at *
          generalize (ins xs j).2.2.1 = r at *
          generalize (ins xs j).2.2.2 = s at *
          go_wp2_with fail
          go_quiet (fail)
          go_wp2_with fail
          go_roundw
          case rel => exact ⟨j + 1, by omega, by simp, HALL, below_drewN hb _⟩
          case measure =>
            simp [intOf]
            omega
        · have hne : Hid (decide (xs = ys) = false) := decide_eq_false (fun h => he (by rw [h]))
          have he2 : (ins xs j).1 = (ins ys j).1 → (ins xs j).2.1 = (ins ys j).2.1 → (ins xs j).2.2.1 = (ins ys j).2.2.1 → (ins xs j).2.2.2 = (ins ys j).2.2.2 → False := fun h1 h2 h3 h4 => he (Prod.ext h1 (Prod.ext h2 (Prod.ext h3 h4)))
          clear he hall hbe
          generalize (ins xs j).1 = p at *
          generalize (ins xs j).2.1 = q at *
          generalize (ins xs j).2.2.1 = r at *
          generalize (ins xs j).2.2.2 = s at *
          generalize (ins ys j).1 = p2 at *
          generalize (ins ys j).2.1 = q2 at *
          generalize (ins ys j).2.2.1 = r2 at *
          generalize (ins ys j).2.2.2 = s2 at *
          have hbin : ∀ W : World, (binOp .neq 49 (.agg #[.int .i64 p, .int .i64 q, .int .i64 r, .int .i64 s]) (.agg #[.int .i64 p2, .int .i64 q2, .int .i64 r2, .int .i64 s2])).run Tryd.prog W = .ok (.bool true) W := fun W => neqI W he2
          clear he2
          go_wp2_with fail
          go_quiet (fail)
          go_wp2_with fail
          go_ret
          exact ⟨by rw [hne.out]; rfl, below_drewN hb _⟩
      · obtain rfl : j = xs.length := by omega
        have hyes : Hid (decide (xs = ys) = true) := decide_eq_true (by
          apply List.ext_getElem hl1.out
          intro i h1 h2
          have e := hall.out i h1
          have e1 := ins_get h1
          have e2 := ins_get h2
          rw [List.getElem?_eq_getElem h1, Option.some.injEq] at e1
          rw [List.getElem?_eq_getElem h2, Option.some.injEq] at e2
          rw [e1, e2, e])
        clear hall hbe
        go_wp2_with fail
        go_ret
        exact ⟨by rw [hyes.out]; rfl, hb⟩
  · have hne : Hid (decide (xs = ys) = false) := decide_eq_false (fun h => hl (by rw [h]))
    have hbe : ((xs.length : Int) != (ys.length : Int)) = true := by simp; omega
    clear hl
    go_enter Tryd.func20, Tryd.ntmps20
    go_wp2_with fail
    go_ret
    exact ⟨by rw [hne.out]; rfl, Below.refl _ _⟩
end

end Go.Proofs.YtbcdjpafdmgbmaaDoor
namespace Go.Proofs.YtbcdjpafdmgbmaaDoor

/-- An instruction's bytes; a program's. -/
def bytesI (x : Ins) : List UInt8 := UInt8.ofNat x.1.toNat :: intsF (usedL x)
def bytesP (p : List Ins) : List UInt8 := p.flatMap bytesI
def bytesL (p : List Ins) : List UInt8 := numL p.length ++ bytesP p
/-- What is told of any program. -/
def bytesA (p : List Ins) : List UInt8 := if wholeB p then bytesL p else []

theorem bytesI_len (x : Ins) : (bytesI x).length ≤ 34 := by
  have h1 := intsF_len (usedL x)
  have h2 : (usedL x).length ≤ 3 := by unfold usedL; rw [List.length_map]; exact usQ_len _
  unfold bytesI
  rw [List.length_cons]
  omega
theorem bytesP_len : ∀ p : List Ins, (bytesP p).length ≤ 34 * p.length
  | [] => by simp [bytesP]
  | x :: p => by
    have h1 := bytesI_len x
    have h2 := bytesP_len p
    unfold bytesP at h2 ⊢
    simp only [List.flatMap_cons, List.length_append, List.length_cons]
    omega
theorem bytesL_len (p : List Ins) : (bytesL p).length ≤ 11 + 34 * p.length := by
  unfold bytesL
  rw [List.length_append]
  have := numL_len p.length
  have := bytesP_len p
  omega
theorem bytesP_snoc {ps : List Ins} {i : Nat} {x : Ins} (h : ps[i]? = some x) : bytesP (ps.take (i + 1)) = bytesP (ps.take i) ++ bytesI x := by
  unfold bytesP
  rw [List.take_add_one, h, List.flatMap_append]
  simp
/-- The first j numbers that are used, as bytes. -/
def intsJ (x : Ins) (j : Nat) : List UInt8 := intsF ((usedL x).take j)
theorem intsJ_zero (x : Ins) : intsJ x 0 = [] := by simp [intsJ, intsF]
theorem intsJ_all (x : Ins) : intsJ x (usQ x.1).length = intsF (usedL x) := by
  unfold intsJ
  rw [List.take_of_length_le (by unfold usedL; rw [List.length_map]; exact Nat.le_refl _)]
theorem used_get {x : Ins} {j k : Nat} (h : (usQ x.1)[j]? = some k) : (usedL x)[j]? = some (nk x k) := by
  unfold usedL
  rw [List.getElem?_map, h]
  rfl
theorem intsJ_succ {x : Ins} {j k : Nat} (h : (usQ x.1)[j]? = some k) : intsJ x (j + 1) = intsJ x j ++ numL (zigN (nk x k)) := by
  unfold intsJ
  rw [List.take_add_one, used_get h, intsF_app]
  simp [intsF]
theorem intsJ_len (x : Ins) (j : Nat) : (intsJ x j).length ≤ 33 := by
  have h1 := intsF_len ((usedL x).take j)
  have h2 : ((usedL x).take j).length ≤ 3 := by
    rw [List.length_take]
    have : (usedL x).length ≤ 3 := by unfold usedL; rw [List.length_map]; exact usQ_len _
    omega
  unfold intsJ
  omega

end Go.Proofs.YtbcdjpafdmgbmaaDoor
