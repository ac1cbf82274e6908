/- Contracts of the statements' Ints and Same, of plain and of lives. -/
import Derived.Test.YtokigpmkhkldkaaPlan
import Derived.Test.YtokigpmkhkldkaaApply
namespace Go.Proofs.Ytokigpmkhkldkaa
open Go.RowKit

section
variable {w : World} {xa ya : Option Addr} {xc yc : Nat} {xs ys : List Int}

set_option maxHeartbeats 1000000 in
theorem ints_any (hx : IX w xa xs) (hy : IX w ya ys) (hn : xs.length ≤ 1000) :
    Calls Try.prog 13 #[.slice xa xs.length xc, .slice ya ys.length yc] w fun e w' => e = .returned (.bool (decide (xs = ys))) ∧ Below w.heap.size w w' := by
  by_cases hl : xs.length = ys.length
  · have hl1 : Hid (xs.length = ys.length) := hl
    have hbe : ((xs.length : Int) != (ys.length : Int)) = false := by simp; omega
    clear hl
    go_enter Try.func13, Try.ntmps13
    go_wp2_with fail
    go_loopw [13, 5] (fun v _ wr => ∃ j : Nat, j ≤ xs.length ∧ v = .int .i64 j ∧ (∀ i, i < j → ix xs i = ix ys i) ∧ Below w.heap.size w wr) (fun v _ _ => 1000 - (intOf v).toNat)
    case atStart => exact ⟨0, Nat.zero_le _, rfl, fun i hi => by omega, Below.refl _ _⟩
    case round =>
      obtain ⟨j, hj, rfl, hall, hb⟩ := hrel
      by_cases hlt : j < xs.length
      · have hlt2 : j < ys.length := by rw [← hl1.out]; exact hlt
        obtain ⟨b, o, rfl, c0⟩ := hx.below hb j hlt
        obtain ⟨b2, o2, rfl, c2⟩ := hy.below hb j hlt2
        have hlt' : (j : Int) < (xs.length : Int) := by omega
        have hlt2' : (j : Int) < (ys.length : Int) := by omega
        by_cases he : ix xs j = ix ys j
        · have hall2 : ∀ i, i < j + 1 → ix xs i = ix ys i := fun i hi => by
            by_cases h : i = j
            · rw [h]; exact he
            · exact hall i (by omega)
          rw [← he] at c2
          clear he hall hbe
          have HALL : Hid (∀ i, i < j + 1 → ix xs i = ix ys i) := hall2
          clear hall2
          generalize ix xs j = x at *
          go_wp2_with fail
          go_quiet (fail)
          go_wp2_with fail
          go_roundw
          case rel => exact ⟨j + 1, by omega, by simp, HALL.out, below_drewN hb _⟩
          case measure =>
            simp [intOf]
            omega
        · have hne : Hid (decide (xs = ys) = false) := decide_eq_false (fun h => he (by rw [h]))
          have hx2 : (ix xs j != ix ys j) = true := by simpa using he
          clear he hall hbe
          generalize ix xs j = x at *
          generalize ix ys j = y at *
          go_wp2_with fail
          go_quiet (fail)
          go_wp2_with fail
          go_ret
          exact ⟨by rw [hne.out]; rfl, below_drewN hb _⟩
      · obtain rfl : j = xs.length := by omega
        have hyes : Hid (decide (xs = ys) = true) := decide_eq_true (by
          apply List.ext_getElem hl1.out
          intro i h1 h2
          have e := hall i h1
          unfold ix at e
          rw [List.getD_eq_getElem?_getD, List.getD_eq_getElem?_getD, List.getElem?_eq_getElem h1, List.getElem?_eq_getElem h2] at e
          simpa using e)
        clear hall hbe
        go_wp2_with fail
        go_ret
        exact ⟨by rw [hyes.out]; rfl, hb⟩
  · have hne : Hid (decide (xs = ys) = false) := decide_eq_false (fun h => hl (by rw [h]))
    have hbe : ((xs.length : Int) != (ys.length : Int)) = true := by simp; omega
    clear hl
    go_enter Try.func13, Try.ntmps13
    go_wp2_with fail
    go_ret
    exact ⟨by rw [hne.out]; rfl, Below.refl _ _⟩

end

section
variable {w : World} {xa ya : Option Addr} {xc yc : Nat} {xs ys : List (Int × Int × Int)}

theorem neq44 (W : World) {p q r p2 q2 r2 : Int} (h : p = p2 → q = q2 → r = r2 → False) : (binOp .neq 44 (.agg #[.int .i64 p, .int .i64 q, .int .i64 r]) (.agg #[.int .i64 p2, .int .i64 q2, .int .i64 r2])).run Try.prog W = .ok (.bool true) W := by
  have u3 := Try.underlying3
  have a3 := Try.isAgg3
  have z3 := Try.sizeOf3
  have hS : Try.prog.underlying 44 = some (.struct (Try.prog.fieldsOf 44)) := by kernel_rfl
  have hp : Try.prog.stoodInHeld 44 = false := by kernel_rfl
  have key : (Op.equalIn 10000 44 (.agg #[.int .i64 p, .int .i64 q, .int .i64 r]) (.agg #[.int .i64 p2, .int .i64 q2, .int .i64 r2])).run Try.prog W = .ok false W := by
    rw [show (10000 : Nat) = 9999 + 1 from rfl, run_equalIn_agg W 9999 44 _ _ hS hp]
    simp only [Program.fieldsOf, Try.underlying44]
    go_simp
    by_cases h1 : p = p2
    · by_cases h2 : q = q2
      · by_cases h3 : r = r2
        · exact absurd (h h1 h2 h3) id
        · simp [h1, h2, h3]
      · simp [h1, h2]
    · simp [h1]
  rw [run_neq_struct, key]
  rfl

set_option maxHeartbeats 1000000 in
theorem same_any (hx : MV w xa xs) (hy : MV w ya ys) (hn : xs.length ≤ 50000) :
    Calls Try.prog 9 #[.slice xa xs.length xc, .slice ya ys.length yc] w fun e w' => e = .returned (.bool (decide (xs = ys))) ∧ Below w.heap.size w w' := by
  by_cases hl : xs.length = ys.length
  · have hl1 : Hid (xs.length = ys.length) := hl
    have hbe : ((xs.length : Int) != (ys.length : Int)) = false := by simp; omega
    clear hl
    go_enter Try.func9, Try.ntmps9
    go_wp2_with fail
    go_loopw [13, 5] (fun v _ wr => ∃ j : Nat, j ≤ xs.length ∧ v = .int .i64 j ∧ (∀ i, i < j → mc xs i = mc ys i) ∧ Below w.heap.size w wr) (fun v _ _ => 50000 - (intOf v).toNat)
    case atStart => exact ⟨0, Nat.zero_le _, rfl, fun i hi => by omega, Below.refl _ _⟩
    case round =>
      obtain ⟨j, hj, rfl, hall, hb⟩ := hrel
      by_cases hlt : j < xs.length
      · have hlt2 : j < ys.length := by rw [← hl1.out]; exact hlt
        obtain ⟨b, o, rfl, c0, c1, c2⟩ := hx.below hb j hlt
        obtain ⟨b2, o2, rfl, d0, d1, d2⟩ := hy.below hb j hlt2
        have hlt' : (j : Int) < (xs.length : Int) := by omega
        have hlt2' : (j : Int) < (ys.length : Int) := by omega
        by_cases he : mc xs j = mc ys j
        · have hall2 : ∀ i, i < j + 1 → mc xs i = mc ys i := fun i hi => by
            by_cases h : i = j
            · rw [h]; exact he
            · exact hall i (by omega)
          rw [← he] at d0 d1 d2
          clear he hall hbe
          have HALL : Hid (∀ i, i < j + 1 → mc xs i = mc ys i) := hall2
          clear hall2
          generalize (mc xs j).1 = p at *
          generalize (mc xs j).2.1 = q at *
          generalize (mc xs j).2.2 = r at *
          go_wp2_with fail
          go_quiet (fail)
          go_wp2_with fail
          go_roundw
          case rel => exact ⟨j + 1, by omega, by simp, HALL.out, below_drewN hb _⟩
          case measure =>
            simp [intOf]
            omega
        · have hne : Hid (decide (xs = ys) = false) := decide_eq_false (fun h => he (by rw [h]))
          have he2 : (mc xs j).1 = (mc ys j).1 → (mc xs j).2.1 = (mc ys j).2.1 → (mc xs j).2.2 = (mc ys j).2.2 → False := fun h1 h2 h3 => he (Prod.ext h1 (Prod.ext h2 h3))
          clear he hall hbe
          generalize (mc xs j).1 = p at *
          generalize (mc xs j).2.1 = q at *
          generalize (mc xs j).2.2 = r at *
          generalize (mc ys j).1 = p2 at *
          generalize (mc ys j).2.1 = q2 at *
          generalize (mc ys j).2.2 = r2 at *
          have hbin : ∀ W : World, (binOp .neq 44 (.agg #[.int .i64 p, .int .i64 q, .int .i64 r]) (.agg #[.int .i64 p2, .int .i64 q2, .int .i64 r2])).run Try.prog W = .ok (.bool true) W := fun W => neq44 W he2
          clear he2
          go_wp2_with fail
          go_quiet (fail)
          go_wp2_with fail
          go_ret
          exact ⟨by rw [hne.out]; rfl, below_drewN hb _⟩
      · obtain rfl : j = xs.length := by omega
        have hyes : Hid (decide (xs = ys) = true) := decide_eq_true (by
          apply List.ext_getElem hl1.out
          intro i h1 h2
          have e := hall i h1
          have e1 := mc_get h1
          have e2 := mc_get h2
          rw [List.getElem?_eq_getElem h1, Option.some.injEq] at e1
          rw [List.getElem?_eq_getElem h2, Option.some.injEq] at e2
          rw [e1, e2, e])
        clear hall hbe
        go_wp2_with fail
        go_ret
        exact ⟨by rw [hyes.out]; rfl, hb⟩
  · have hne : Hid (decide (xs = ys) = false) := decide_eq_false (fun h => hl (by rw [h]))
    have hbe : ((xs.length : Int) != (ys.length : Int)) = true := by simp; omega
    clear hl
    go_enter Try.func9, Try.ntmps9
    go_wp2_with fail
    go_ret
    exact ⟨by rw [hne.out]; rfl, Below.refl _ _⟩

theorem takeM_next {ms : List (Int × Int × Int)} {j : Nat} (hj : j < ms.length) : ms.take (j + 1) = ms.take j ++ [mc ms j] := by
  rw [List.take_add_one, mc_get hj]; rfl

theorem OM.at_ {w : World} {B n : Nat} {v : Value} {ms : List (Int × Int × Int)} (h : OM w B v ms) (hn : ms.length = n) : ∃ a c, v = .slice a n c := by
  obtain ⟨a, c, e, _⟩ := h.mv_
  exact ⟨a, c, by rw [e, hn]⟩

set_option maxHeartbeats 1000000 in
theorem plain_any (hx : MV w xa xs) (hn : xs.length ≤ 50000) :
    Calls Try.prog 10 #[.slice xa xs.length xc] w fun e w' => ∃ a c, e = .returned (.slice a xs.length c) ∧ MV w' a xs ∧ Below w.heap.size w w' := by
  go_enter Try.func10, Try.ntmps10
  go_wp2_with fail
  go_loopw [8, 3] (fun v u wr => ∃ j : Nat, j ≤ xs.length ∧ v = .int .i64 j ∧ (∃ a c, u = .slice a j c ∧ OM wr w.heap.size (.slice a j c) (xs.take j)) ∧ Below w.heap.size w wr) (fun v _ _ => 50000 - (intOf v).toNat)
  case atStart => exact ⟨0, Nat.zero_le _, rfl, ⟨none, 0, rfl, OM.nil _ _⟩, Below.refl _ _⟩
  case round =>
    obtain ⟨j, hj, rfl, ⟨a, c, rfl, ho⟩, hb⟩ := hrel
    by_cases hlt : j < xs.length
    · obtain ⟨b, o, rfl, c0, c1, c2⟩ := hx.below hb j hlt
      have hlt' : (j : Int) < (xs.length : Int) := by omega
      have hnx : Hid (xs.take (j + 1) = xs.take j ++ [mc xs j]) := takeM_next hlt
      obtain ⟨p, q, r, hpq⟩ : ∃ p q r, Hid (mc xs j = (p, q, r)) := ⟨_, _, _, rfl⟩
      rw [hpq.out] at c0 c1 c2
      have hnx2 : Hid (xs.take j ++ [(p, q, r)] = xs.take (j + 1)) := by unfold Hid; rw [hnx.out, hpq.out]
      have htl : Hid ((xs.take j).length = j) := by unfold Hid; rw [List.length_take]; omega
      have ho2 := (ho.below ((Below.refl _ _).alloc (Nat.le_refl _) (.cells #[.int .i64 p, .int .i64 q, .int .i64 r] 40))).below ((Below.refl _ _).alloc (Nat.le_refl _) (.cells #[.int .i64 p, .int .i64 q, .int .i64 r] 44))
      have hb2 := (hb.alloc hb.size (.cells #[.int .i64 p, .int .i64 q, .int .i64 r] 40))
      have hb2' := hb2.alloc hb2.size (.cells #[.int .i64 p, .int .i64 q, .int .i64 r] 44)
      have hm1 : MV ((wr.alloc (.cells #[.int .i64 p, .int .i64 q, .int .i64 r] 40)).alloc (.cells #[.int .i64 p, .int .i64 q, .int .i64 r] 44)) (some ⟨wr.heap.size + 1, 0, none⟩) [(p, q, r)] := by
        have h := mv_one (wr.alloc (.cells #[.int .i64 p, .int .i64 q, .int .i64 r] 40)) p q r 44
        rw [show (wr.alloc (.cells #[.int .i64 p, .int .i64 q, .int .i64 r] 40)).heap.size = wr.heap.size + 1 by simp] at h
        exact h
      have htl2 : Hid ((xs.take (j + 1)).length = j + 1) := by unfold Hid; rw [List.length_take]; omega
      clear hnx hpq ho
      go_wp2_with (first
        | (at_builtin; refine wpList_appM rfl _ _ rfl w.heap.size _ (xs.take j) rfl ho2 _ _ _ [(p, q, r)] rfl rfl hm1 (by rw [htl.out]; omega) hb2'.size ?_; intro v3 w3 ho3 hg3 _; rw [hnx2.out] at ho3; obtain ⟨a3, c3, rfl⟩ := ho3.at_ htl2.out))
      have hb3 := below_grown hb2' hg3 ho2 hb2'.size
      go_roundw
      case rel => exact ⟨j + 1, by omega, by simp, ⟨a3, c3, rfl, ho3⟩, hb3⟩
      case measure =>
        simp [intOf]
        omega
    · obtain rfl : j = xs.length := by omega
      rw [List.take_length] at ho
      obtain ⟨a', c', e', _, hmv⟩ := ho.mv_
      cases e'
      clear ho
      go_wp2_with fail
      go_ret
      exact ⟨a, c, rfl, hmv, hb⟩
end
end Go.Proofs.Ytokigpmkhkldkaa
