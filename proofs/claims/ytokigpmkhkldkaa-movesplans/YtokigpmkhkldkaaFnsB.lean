/- Contracts of Count, canAsk and enough, and of the reference's Count and right. -/
import Derived.Test.YtokigpmkhkldkaaFns
namespace Go.Proofs.Ytokigpmkhkldkaa
open Go.RowKit

section
variable {w : World} {xa ya : Option Addr} {xc yc : Nat} {os ts : List Int}

set_option maxHeartbeats 1000000 in
theorem count_any (hx : IX w xa os) (n : Int) :
    Calls Try.prog 20 #[.slice xa os.length xc, .int .i64 n] w fun e w' => ∃ a c, e = .returned (.slice a (countA os n).length c) ∧ IX w' a (countA os n) ∧ (∀ b o, a = some ⟨b, o, none⟩ → w.heap.size ≤ b) ∧ Below w.heap.size w w' := by
  have G := good_any (xc := xc) hx n
  cases hg : goodB os n
  · have hA : countA os n = [] := by unfold countA; rw [hg]; rfl
    rw [hA]
    rw [hg] at G
    clear hg
    go_enter Try.func20, Try.ntmps20
    go_wp2_with (first | (go_at_call 18; (with_reducible refine G.mono ?_); rintro e w2 ⟨rfl, b2⟩))
    go_ret
    exact ⟨none, 0, rfl, IX.nil _ _, (fun b o e => by cases e), b2⟩
  · have hA : countA os n = cntL os n.toNat := by unfold countA; rw [hg]; rfl
    rw [hA]
    obtain ⟨g1, g2, g3, g4⟩ := good_iff.1 hg
    rw [hg] at G
    obtain ⟨N, rfl⟩ := Int.eq_ofNat_of_zero_le g2
    rw [show ((N : Nat) : Int).toNat = N from Int.toNat_natCast N, cntL_len]
    have hN : N ≤ 64 := by omega
    have hmk := make22 (n := N) (by omega)
    clear hg hA g2 g3
    go_enter Try.func20, Try.ntmps20
    go_wp2_with (first | (go_at_call 18; (with_reducible refine G.mono ?_); rintro e w2 ⟨rfl, b2⟩))
    have hW := WB.new w2 N
    rw [← cntJ_zero os] at hW
    have hB : Below w.heap.size w (w2.alloc (.cells (madeCells #[.int .i64 0] N) 3)) := b2.alloc b2.size _
    have hg1 : Hid (w.heap.size ≤ w2.heap.size) := b2.size
    generalize w2.alloc (.cells (madeCells #[.int .i64 0] N) 3) = W0 at *
    generalize w2.heap.size = g at *
    clear hmk b2 G
    go_loopw [16, 7] (fun v _ wr => ∃ j : Nat, j ≤ os.length ∧ v = .int .i64 j ∧ WB wr g N (cntJ os N j) ∧ Below w.heap.size w wr) (fun v _ _ => 100 - (intOf v).toNat)
    case atStart => exact ⟨0, Nat.zero_le _, rfl, hW, hB⟩
    case round =>
      clear hW hB
      obtain ⟨j, hj, rfl, hW, hB⟩ := hrel
      by_cases hlt : j < os.length
      · obtain ⟨b, o, rfl, c0⟩ := hx.below hB j hlt
        have hlt' : (j : Int) < (os.length : Int) := by omega
        have hjj := g4 j hlt
        by_cases hp : 0 < ix os j
        · obtain ⟨p, hpp⟩ : ∃ p : Nat, ix os j = (p : Int) + 1 := ⟨(ix os j - 1).toNat, by omega⟩
          have hpN : p < N := by omega
          have hnx : Hid (cntJ os N (j + 1) = (cntJ os N j).set p (ix (cntJ os N j) p + 1)) := cntJ_next hpN hpp
          have c1 := hW.2.1 p hpN
          have f1 := hW.2.2 p hpN
          have hS : Hid (WB (wr.setCell ⟨g, p, none⟩ (.int .i64 (ix (cntJ os N j) p + 1))) g N (cntJ os N (j + 1))) := by
            rw [hnx.out]; exact hW.set hpN
          have hv : ix (cntJ os N j) p = ((ct os ((p : Int) + 1) j : Nat) : Int) := ix_cntJ hpN
          have hle := ct_le os ((p : Int) + 1) j
          have hx0 : 0 ≤ ix (cntJ os N j) p := by omega
          have hx1 : ix (cntJ os N j) p ≤ 64 := by omega
          have hpN' : (p : Int) < (N : Int) := by omega
          rw [hpp] at c0
          clear hv hle hnx hp hpp hW g4 hjj
          generalize ix (cntJ os N j) p = x at *
          go_wp2_with fail
          go_roundw
          case rel =>
            refine ⟨j + 1, by omega, by simp, ?_, hB.setCell (by have := hg1.out; simp; omega) _⟩
            exact hS.out
          case measure =>
            simp [intOf]
            omega
        · have hnx : Hid (cntJ os N (j + 1) = cntJ os N j) := cntJ_free hp
          have hp' : decide (0 < ix os j) = false := by simp; omega
          clear hp g4 hjj
          generalize ix os j = x at *
          go_wp2_with fail
          go_roundw
          case rel => exact ⟨j + 1, by omega, by simp, by rw [hnx.out]; exact hW, hB⟩
          case measure =>
            simp [intOf]
            omega
      · obtain rfl : j = os.length := by omega
        go_wp2_with fail
        go_ret
        exact ⟨some ⟨g, 0, none⟩, N, rfl, hW.ix, (fun b o e => by cases e; exact hg1.out), hB⟩

set_option maxHeartbeats 1000000 in
theorem rcount_any (hx : IX w xa os) (hz : Sz os) (n : Int) :
    Calls Try.prog 21 #[.slice xa os.length xc, .int .i64 n] w fun e w' => ∃ a c, e = .returned (.slice a (countA os n).length c) ∧ IX w' a (countA os n) ∧ (∀ b o, a = some ⟨b, o, none⟩ → w.heap.size ≤ b) ∧ Below w.heap.size w w' := by
  have G := rgood_any (xc := xc) hx hz n
  cases hg : goodB os n
  · have hA : countA os n = [] := by unfold countA; rw [hg]; rfl
    rw [hA]
    rw [hg] at G
    clear hg
    go_enter Try.func21, Try.ntmps21
    go_wp2_with (first | (go_at_call 19; (with_reducible refine G.mono ?_); rintro e w2 ⟨rfl, b2⟩))
    go_ret
    exact ⟨none, 0, rfl, IX.nil _ _, (fun b o e => by cases e), b2⟩
  · have hA : countA os n = cntL os n.toNat := by unfold countA; rw [hg]; rfl
    rw [hA]
    obtain ⟨g1, g2, g3, g4⟩ := good_iff.1 hg
    rw [hg] at G
    obtain ⟨N, rfl⟩ := Int.eq_ofNat_of_zero_le g2
    rw [show ((N : Nat) : Int).toNat = N from Int.toNat_natCast N, cntL_len]
    have hN : N ≤ 64 := by omega
    have hmk := make22 (n := N) (by omega)
    clear hg hA g2 g3
    go_enter Try.func21, Try.ntmps21
    go_wp2_with (first | (go_at_call 19; (with_reducible refine G.mono ?_); rintro e w2 ⟨rfl, b2⟩))
    have hW := WB.new w2 N
    rw [← cntJ_zero os] at hW
    have hB : Below w.heap.size w (w2.alloc (.cells (madeCells #[.int .i64 0] N) 3)) := b2.alloc b2.size _
    have hg1 : Hid (w.heap.size ≤ w2.heap.size) := b2.size
    generalize w2.alloc (.cells (madeCells #[.int .i64 0] N) 3) = W0 at *
    generalize w2.heap.size = g at *
    clear hmk b2 G
    go_loopw [16, 7] (fun v _ wr => ∃ j : Nat, j ≤ os.length ∧ v = .int .i64 j ∧ WB wr g N (cntJ os N j) ∧ Below w.heap.size w wr) (fun v _ _ => 100 - (intOf v).toNat)
    case atStart => exact ⟨0, Nat.zero_le _, rfl, hW, hB⟩
    case round =>
      clear hW hB
      obtain ⟨j, hj, rfl, hW, hB⟩ := hrel
      by_cases hlt : j < os.length
      · obtain ⟨b, o, rfl, c0⟩ := hx.below hB j hlt
        have hlt' : (j : Int) < (os.length : Int) := by omega
        have hjj := g4 j hlt
        by_cases hp : 0 < ix os j
        · obtain ⟨p, hpp⟩ : ∃ p : Nat, ix os j = (p : Int) + 1 := ⟨(ix os j - 1).toNat, by omega⟩
          have hpN : p < N := by omega
          have hnx : Hid (cntJ os N (j + 1) = (cntJ os N j).set p (ix (cntJ os N j) p + 1)) := cntJ_next hpN hpp
          have c1 := hW.2.1 p hpN
          have f1 := hW.2.2 p hpN
          have hS : Hid (WB (wr.setCell ⟨g, p, none⟩ (.int .i64 (ix (cntJ os N j) p + 1))) g N (cntJ os N (j + 1))) := by
            rw [hnx.out]; exact hW.set hpN
          have hv : ix (cntJ os N j) p = ((ct os ((p : Int) + 1) j : Nat) : Int) := ix_cntJ hpN
          have hle := ct_le os ((p : Int) + 1) j
          have hx0 : 0 ≤ ix (cntJ os N j) p := by omega
          have hx1 : ix (cntJ os N j) p ≤ 64 := by omega
          have hpN' : (p : Int) < (N : Int) := by omega
          rw [hpp] at c0
          clear hv hle hnx hp hpp hW g4 hjj
          generalize ix (cntJ os N j) p = x at *
          go_wp2_with fail
          go_roundw
          case rel =>
            refine ⟨j + 1, by omega, by simp, ?_, hB.setCell (by have := hg1.out; simp; omega) _⟩
            exact hS.out
          case measure =>
            simp [intOf]
            omega
        · have hnx : Hid (cntJ os N (j + 1) = cntJ os N j) := cntJ_free hp
          have hp' : decide (0 < ix os j) = false := by simp; omega
          clear hp g4 hjj
          generalize ix os j = x at *
          go_wp2_with fail
          go_roundw
          case rel => exact ⟨j + 1, by omega, by simp, by rw [hnx.out]; exact hW, hB⟩
          case measure =>
            simp [intOf]
            omega
      · obtain rfl : j = os.length := by omega
        go_wp2_with fail
        go_ret
        exact ⟨some ⟨g, 0, none⟩, N, rfl, hW.ix, (fun b o e => by cases e; exact hg1.out), hB⟩

set_option maxHeartbeats 1000000 in
theorem ask_any (hx : IX w xa os) (hy : IX w ya ts) (hzt : Sz ts) :
    Calls Try.prog 23 #[.slice xa os.length xc, .slice ya ts.length yc] w fun e w' => e = .returned (.bool (rightB os ts)) ∧ Below w.heap.size w w' := by
  have G := fun W (h : Below w.heap.size w W) => good_any (xc := xc) (hx.below h) (ts.length : Int)
  go_enter Try.func23, Try.ntmps23
  go_wp2_with fail
  go_loopw [9, 6] (fun v _ wr => ∃ j : Nat, j ≤ ts.length ∧ v = .int .i64 j ∧ (∀ i, i < j → 0 ≤ ix ts i) ∧ Below w.heap.size w wr) (fun v _ _ => ts.length - (intOf v).toNat)
  case atStart => exact ⟨0, Nat.zero_le _, rfl, fun i hi => by omega, Below.refl _ _⟩
  case round =>
    obtain ⟨j, hj, rfl, hall, hb⟩ := hrel
    by_cases hlt : j < ts.length
    · obtain ⟨b, o, rfl, c0⟩ := hy.below hb j hlt
      have hlt' : (j : Int) < (ts.length : Int) := by omega
      have hw := hzt j hlt
      by_cases q0 : ix ts j < 0
      · have hno : Hid (rightB os ts = false) := by
          show rightB os ts = false
          rw [Bool.eq_false_iff]
          intro e
          have := (right_iff.1 e).1 j hlt
          omega
        clear hall G
        generalize ix ts j = x at *
        go_wp2_with fail
        go_ret
        exact ⟨by rw [hno.out]; rfl, hb⟩
      · have HALL : Hid (∀ i, i < j + 1 → 0 ≤ ix ts i) := fun i hi => by
          by_cases h : i = j
          · rw [h]; omega
          · exact hall i (by omega)
        have q0' : decide (ix ts j < 0) = false := by simp; omega
        clear hall q0 G
        generalize ix ts j = x at *
        go_wp2_with fail
        go_roundw
        case rel => exact ⟨j + 1, by omega, by simp, HALL.out, hb⟩
        case measure =>
          simp [intOf]
          omega
    · obtain rfl : j = ts.length := by omega
      have hyes : Hid (rightB os ts = goodB os (ts.length : Int)) := by
        show rightB os ts = goodB os (ts.length : Int)
        cases hg : goodB os (ts.length : Int)
        · rw [Bool.eq_false_iff]
          intro e
          have := (right_iff.1 e).2
          rw [hg] at this
          cases this
        · exact right_iff.2 ⟨hall, hg⟩
      clear hall
      have G1 := G _ hb
      clear G
      generalize goodB os (ts.length : Int) = r at *
      go_wp2_with (first | (go_at_call 18; (with_reducible refine G1.mono ?_); rintro e w2 ⟨rfl, b2⟩))
      go_ret
      exact ⟨by rw [hyes.out]; rfl, below2 hb hb.size b2⟩

set_option maxHeartbeats 1000000 in
theorem right_any (hx : IX w xa os) (hy : IX w ya ts) (hz : Sz os) (hzt : Sz ts) :
    Calls Try.prog 29 #[.slice xa os.length xc, .slice ya ts.length yc] w fun e w' => e = .returned (.bool (rightB os ts)) ∧ Below w.heap.size w w' := by
  have G := fun W (h : Below w.heap.size w W) => rgood_any (xc := xc) (hx.below h) hz (ts.length : Int)
  go_enter Try.func29, Try.ntmps29
  go_wp2_with fail
  go_loopw [9, 6] (fun v _ wr => ∃ j : Nat, j ≤ ts.length ∧ v = .int .i64 j ∧ (∀ i, i < j → 0 ≤ ix ts i) ∧ Below w.heap.size w wr) (fun v _ _ => ts.length - (intOf v).toNat)
  case atStart => exact ⟨0, Nat.zero_le _, rfl, fun i hi => by omega, Below.refl _ _⟩
  case round =>
    obtain ⟨j, hj, rfl, hall, hb⟩ := hrel
    by_cases hlt : j < ts.length
    · obtain ⟨b, o, rfl, c0⟩ := hy.below hb j hlt
      have hlt' : (j : Int) < (ts.length : Int) := by omega
      have hw := hzt j hlt
      by_cases q0 : ix ts j < 0
      · have hno : Hid (rightB os ts = false) := by
          show rightB os ts = false
          rw [Bool.eq_false_iff]
          intro e
          have := (right_iff.1 e).1 j hlt
          omega
        clear hall G
        generalize ix ts j = x at *
        go_wp2_with fail
        go_ret
        exact ⟨by rw [hno.out]; rfl, hb⟩
      · have HALL : Hid (∀ i, i < j + 1 → 0 ≤ ix ts i) := fun i hi => by
          by_cases h : i = j
          · rw [h]; omega
          · exact hall i (by omega)
        have q0' : decide (ix ts j < 0) = false := by simp; omega
        clear hall q0 G
        generalize ix ts j = x at *
        go_wp2_with fail
        go_roundw
        case rel => exact ⟨j + 1, by omega, by simp, HALL.out, hb⟩
        case measure =>
          simp [intOf]
          omega
    · obtain rfl : j = ts.length := by omega
      have hyes : Hid (rightB os ts = goodB os (ts.length : Int)) := by
        show rightB os ts = goodB os (ts.length : Int)
        cases hg : goodB os (ts.length : Int)
        · rw [Bool.eq_false_iff]
          intro e
          have := (right_iff.1 e).2
          rw [hg] at this
          cases this
        · exact right_iff.2 ⟨hall, hg⟩
      clear hall
      have G1 := G _ hb
      clear G
      generalize goodB os (ts.length : Int) = r at *
      go_wp2_with (first | (go_at_call 19; (with_reducible refine G1.mono ?_); rintro e w2 ⟨rfl, b2⟩))
      go_ret
      exact ⟨by rw [hyes.out]; rfl, below2 hb hb.size b2⟩

set_option maxHeartbeats 1000000 in
theorem enough_any (hy : IX w ya ts) (ht : OkX ts) (hzt : Sz ts) (h0 : ∀ i, i < ts.length → 0 ≤ ix ts i) (l : Int) (hl : I64 l) :
    Calls Try.prog 24 #[.int .i64 l, .slice ya ts.length yc] w fun e w' => e = .returned (.bool (enB l ts)) ∧ Below w.heap.size w w' := by
  have hst : Hid (enB l ts = enB l (ts.drop 0)) := rfl
  go_enter Try.func24, Try.ntmps24
  go_wp2_with fail
  go_loopw [9, 0, 6] (fun v u _ wr => ∃ j : Nat, j ≤ ts.length ∧ v = .int .i64 j ∧ (∃ k : Int, u = .int .i64 k ∧ enB l ts = enB k (ts.drop j) ∧ I64 k) ∧ Below w.heap.size w wr) (fun v _ _ _ => ts.length - (intOf v).toNat)
  case atStart => exact ⟨0, Nat.zero_le _, rfl, ⟨l, rfl, rfl, hl⟩, Below.refl _ _⟩
  case round =>
    obtain ⟨j, hj, rfl, ⟨k, rfl, hk, k64⟩, hb⟩ := hrel
    by_cases hlt : j < ts.length
    · obtain ⟨b, o, rfl, c0⟩ := hy.below hb j hlt
      have hlt' : (j : Int) < (ts.length : Int) := by omega
      have hw := hzt j hlt
      rw [en_drop hlt] at hk
      have hj0 := h0 j hlt
      obtain ⟨t1, t2⟩ := ht j hlt
      obtain ⟨k1, k2⟩ := k64
      by_cases q : k < ix ts j
      · have hno : Hid (enB l ts = false) := by rw [if_pos q] at hk; exact hk
        clear hk
        generalize ix ts j = x at *
        go_wp2_with fail
        go_ret
        exact ⟨by rw [hno.out]; rfl, hb⟩
      · have hno : Hid (enB l ts = enB (k - ix ts j) (ts.drop (j + 1))) := by rw [if_neg q] at hk; exact hk
        have q' : decide (k < ix ts j) = false := by simp; omega
        clear hk
        generalize ix ts j = x at *
        have hws : IntKind.i64.wrap (k - x) = k - x := by
          simp only [IntKind.wrap, IntKind.bits, IntKind.signed]
          simp
          omega
        have hI : Hid (I64 (k - x)) := ⟨by omega, by omega⟩
        clear q t1 t2 k1 k2 hj0
        go_wp2_with fail
        go_roundw
        case rel => exact ⟨j + 1, by omega, by simp, ⟨k - x, by simp, hno.out, hI.out⟩, hb⟩
        case measure =>
          simp [intOf]
          omega
    · obtain rfl : j = ts.length := by omega
      have hyes : Hid (enB l ts = true) := by rw [en_all] at hk; exact hk
      clear hk
      go_wp2_with fail
      go_ret
      exact ⟨by rw [hyes.out]; rfl, hb⟩
end
end Go.Proofs.Ytokigpmkhkldkaa
