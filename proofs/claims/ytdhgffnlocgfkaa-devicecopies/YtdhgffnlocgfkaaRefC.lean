/- Contracts of the reference's Cancel and Same, and of the statements' plain. -/
import Derived.Test.YtdhgffnlocgfkaaRef
namespace Go.Proofs.Ytdhgffnlocgfkaa
open Go.RowKit

section
variable {w : World} {M N la dn : Nat} {R : List Nat} {xs : List Rq}

set_option maxHeartbeats 1000000 in
theorem rcancel_any (h : RQ w M R N la dn xs) (hl : xs.length ≤ 4096) (s : Int) :
    Calls Try.prog 23 #[.pointer (some ⟨M, 0, none⟩), .int .i64 s] w fun e w' => e = .returned (.int .i64 (canN xs s)) ∧ ∃ R', RQ w' M R' N la dn (canX xs s) ∧ Step R w R' w' := by
  obtain ⟨v, rfl, hm⟩ := h
  obtain ⟨sl, c, rfl, hrv, -, -⟩ := hm.shape
  have c1 := hm.c1
  have HR : Hid (RM w M N (.slice sl xs.length c) la dn xs) := hm
  have hN : Hid (canN xs s = (xs.length : Int) - ((canX xs s).length : Int)) := rfl
  have hle : (canX xs s).length ≤ xs.length := List.length_filter_le _ _
  obtain ⟨ys, hYS⟩ : ∃ ys, Hid (canX xs s = ys) := ⟨_, rfl⟩
  obtain ⟨cn, hcn⟩ : ∃ cn, Hid (canN xs s = cn) := ⟨_, rfl⟩
  rw [hYS.out] at hN hle ⊢
  rw [hcn.out] at hN ⊢
  have hmu := fun w2 v' ys => hm.row (w2 := w2) (v' := v') (ys := ys)
  go_enter Try.func23, Try.ntmps23
  go_wp2_with fail
  go_loopw [14, 5, 7] (fun v u _ wr => ∃ j : Nat, j ≤ xs.length ∧ v = .int .i64 j ∧ (∃ a c, u = .slice a (canX (xs.take j) s).length c ∧ Ow wr 60 w.heap.size (.slice a (canX (xs.take j) s).length c) (canX (xs.take j) s)) ∧ Below w.heap.size w wr) (fun v _ _ _ => 4096 - (intOf v).toNat)
  case atStart => exact ⟨0, Nat.zero_le _, rfl, ⟨none, 0, rfl, Ow.nil _ _ _⟩, Below.refl _ _⟩
  case round =>
    obtain ⟨j, hj, rfl, ⟨a, ca, rfl, ho⟩, hb⟩ := hrel
    by_cases hlt : j < xs.length
    · obtain ⟨b, o, rfl, c0, c1', c2, c3, c4⟩ := hrv.below hb j hlt
      have hlt' : (j : Int) < (xs.length : Int) := by omega
      obtain ⟨r, hr⟩ : ∃ r, Hid (rq xs j = r) := ⟨_, rfl⟩
      rw [hr.out] at c0 c1' c2 c3 c4
      obtain ⟨ri, rs, rt, rk, rz⟩ := r
      dsimp only at c0 c1' c2 c3 c4
      have hbl := canX_app (xs.take j) [rq xs j] s
      rw [← take_next hlt] at hbl
      have hlj : (canX (xs.take j) s).length ≤ 4096 := Nat.le_trans (List.length_filter_le _ _) (by rw [List.length_take]; omega)
      by_cases he : rs = s
      · have hsame : Hid (canX (xs.take (j + 1)) s = canX (xs.take j) s) := by
          unfold Hid
          rw [hbl, canX_one_out (by rw [hr.out]; exact he), List.append_nil]
        have hb1 := hb.alloc hb.size (.cells #[.int .i64 ri, .int .i64 rs, .int .i64 rt, .int .i64 rk, .int .i64 rz] 60)
        have ho1 := ho.below ((Below.refl _ _).alloc (Nat.le_refl _) (.cells #[.int .i64 ri, .int .i64 rs, .int .i64 rt, .int .i64 rk, .int .i64 rz] 60))
        subst he
        clear hbl hrv c1
        generalize canX (xs.take j) rs = ys at *
        go_wp2_with fail
        go_roundw
        case rel =>
          refine ⟨j + 1, by omega, by simp, ?_, hb1⟩
          rw [hsame.out]
          exact ⟨a, ca, rfl, ho1⟩
        case measure =>
          simp [intOf]
          omega
      · have hnext : Hid (canX (xs.take (j + 1)) s = canX (xs.take j) s ++ [(ri, rs, rt, rk, rz)]) := by
          unfold Hid
          rw [hbl, canX_one_in (by rw [hr.out]; exact he), hr.out]
        have hb1 := hb.alloc hb.size (.cells #[.int .i64 ri, .int .i64 rs, .int .i64 rt, .int .i64 rk, .int .i64 rz] 60)
        have hb2 := hb1.alloc hb1.size (.cells #[.int .i64 ri, .int .i64 rs, .int .i64 rt, .int .i64 rk, .int .i64 rz] 60)
        have ho2 := (ho.below ((Below.refl _ _).alloc (Nat.le_refl _) (.cells #[.int .i64 ri, .int .i64 rs, .int .i64 rt, .int .i64 rk, .int .i64 rz] 60))).below ((Below.refl _ _).alloc (Nat.le_refl _) (.cells #[.int .i64 ri, .int .i64 rs, .int .i64 rt, .int .i64 rk, .int .i64 rz] 60))
        have hr1 := rv_one (wr.alloc (.cells #[.int .i64 ri, .int .i64 rs, .int .i64 rt, .int .i64 rk, .int .i64 rz] 60)) ri rs rt rk rz 60
        rw [show (wr.alloc (.cells #[.int .i64 ri, .int .i64 rs, .int .i64 rt, .int .i64 rk, .int .i64 rz] 60)).heap.size = wr.heap.size + 1 by simp] at hr1
        have he' : (rs != s) = true := by simpa using he
        have he2 : (rs == s) = false := by simpa using he
        clear hbl hrv c1 ho
        generalize canX (xs.take j) s = ys at *
        go_wp2_with (first
          | (at_builtin; refine wpList_app60 rfl _ _ rfl w.heap.size _ ys rfl ho2 _ _ _ [(ri, rs, rt, rk, rz)] rfl rfl hr1 (by omega) hb2.size ?_; intro v3 w3 ho3 hg3 _; obtain ⟨a3, c3, rfl⟩ := ho3.at_ (n := ys.length + 1) (by simp)))
        have hb3 := below_grown hb2 hg3 ho2 hb2.size
        go_roundw
        case rel =>
          refine ⟨j + 1, by omega, by simp, ?_, hb3⟩
          rw [hnext.out]
          exact ⟨a3, c3, by simp, by simpa using ho3⟩
        case measure =>
          simp [intOf]
          omega
    · obtain rfl : j = xs.length := by omega
      rw [List.take_length, hYS.out] at ho ⊢
      have c1' := cell_on hb c1
      have fz : wr.frozen? ⟨M, 1, none⟩ = false := (World.frozen?_of_block (hb.block M (HR.out.lt bks_B))).trans (HR.out.fb 1)
      obtain ⟨k5, s5⟩ := hmu _ _ _ (.of_below hb) ho
      have hle' : (ys.length : Int) ≤ (xs.length : Int) := by omega
      have hw1 : IntKind.i64.wrap ((xs.length : Int) - (ys.length : Int)) = (xs.length : Int) - (ys.length : Int) := by rw [IntKind.wrap_i64]; omega
      clear hmu
      go_wp2_with fail
      go_ret
      exact ⟨by rw [hN.out]; rfl, _, ⟨_, rfl, k5⟩, s5⟩
end

section
variable {w : World} {xa ya : Option Addr} {xc yc : Nat} {xs ys : List Rq}

theorem neq60 (W : World) {p q r s t p2 q2 r2 s2 t2 : Int} (h : p = p2 → q = q2 → r = r2 → s = s2 → t = t2 → False) : (binOp .neq 60 (.agg #[.int .i64 p, .int .i64 q, .int .i64 r, .int .i64 s, .int .i64 t]) (.agg #[.int .i64 p2, .int .i64 q2, .int .i64 r2, .int .i64 s2, .int .i64 t2])).run Try.prog W = .ok (.bool true) W := by
  have u3 := Try.underlying3
  have a3 := Try.isAgg3
  have z3 := Try.sizeOf3
  have hS : Try.prog.underlying 60 = some (.struct (Try.prog.fieldsOf 60)) := by kernel_rfl
  have hp : Try.prog.stoodInHeld 60 = false := by kernel_rfl
  have key : (Op.equalIn 10000 60 (.agg #[.int .i64 p, .int .i64 q, .int .i64 r, .int .i64 s, .int .i64 t]) (.agg #[.int .i64 p2, .int .i64 q2, .int .i64 r2, .int .i64 s2, .int .i64 t2])).run Try.prog W = .ok false W := by
    rw [show (10000 : Nat) = 9999 + 1 from rfl, run_equalIn_agg W 9999 60 _ _ hS hp]
    simp only [Program.fieldsOf, Try.underlying60]
    go_simp
    by_cases h1 : p = p2
    · by_cases h2 : q = q2
      · by_cases h3 : r = r2
        · by_cases h4 : s = s2
          · by_cases h5 : t = t2
            · exact absurd (h h1 h2 h3 h4 h5) id
            · simp [h1, h2, h3, h4, h5]
          · simp [h1, h2, h3, h4]
        · simp [h1, h2, h3]
      · simp [h1, h2]
    · simp [h1]
  rw [run_neq_struct, key]
  rfl

set_option maxHeartbeats 1000000 in
theorem same_any (hx : RV w xa xs) (hy : RV w ya ys) (hn : xs.length ≤ 50000) :
    Calls Try.prog 13 #[.slice xa xs.length xc, .slice ya ys.length yc] w fun e w' => e = .returned (.bool (decide (xs = ys))) ∧ Below w.heap.size w w' := by
  by_cases hl : xs.length = ys.length
  · have hl1 : Hid (xs.length = ys.length) := hl
    have hbe : ((xs.length : Int) != (ys.length : Int)) = false := by simp; omega
    clear hl
    go_enter Try.func13, Try.ntmps13
    go_wp2_with fail
    go_loopw [13, 5] (fun v _ wr => ∃ j : Nat, j ≤ xs.length ∧ v = .int .i64 j ∧ (∀ i, i < j → rq xs i = rq ys i) ∧ Below w.heap.size w wr) (fun v _ _ => 50000 - (intOf v).toNat)
    case atStart => exact ⟨0, Nat.zero_le _, rfl, fun i hi => by omega, Below.refl _ _⟩
    case round =>
      obtain ⟨j, hj, rfl, hall, hb⟩ := hrel
      by_cases hlt : j < xs.length
      · have hlt2 : j < ys.length := by rw [← hl1.out]; exact hlt
        obtain ⟨b, o, rfl, c0, c1, c2, c3, c4⟩ := hx.below hb j hlt
        obtain ⟨b2, o2, rfl, d0, d1, d2, d3, d4⟩ := hy.below hb j hlt2
        have hlt' : (j : Int) < (xs.length : Int) := by omega
        have hlt2' : (j : Int) < (ys.length : Int) := by omega
        by_cases he : rq xs j = rq ys j
        · have hall2 : ∀ i, i < j + 1 → rq xs i = rq ys i := fun i hi => by
            by_cases h : i = j
            · rw [h]; exact he
            · exact hall i (by omega)
          rw [← he] at d0 d1 d2 d3 d4
          clear he hall hbe
          have HALL : Hid (∀ i, i < j + 1 → rq xs i = rq ys i) := hall2
          clear hall2
          generalize rq xs j = r at c0 c1 c2 c3 c4 d0 d1 d2 d3 d4
          obtain ⟨ri, rs, rt, rk, rz⟩ := r
          dsimp only at c0 c1 c2 c3 c4 d0 d1 d2 d3 d4
          go_wp2_with fail
          go_quiet (fail)
          go_wp2_with fail
          go_roundw
          case rel => exact ⟨j + 1, by omega, by simp, HALL.out, below_drewN hb _⟩
          case measure =>
            simp [intOf]
            omega
        · have hne : Hid (decide (xs = ys) = false) := decide_eq_false (fun h => he (by rw [h]))
          clear hall hbe
          generalize rq xs j = r at c0 c1 c2 c3 c4 he
          generalize rq ys j = r2 at d0 d1 d2 d3 d4 he
          obtain ⟨ri, rs, rt, rk, rz⟩ := r
          obtain ⟨qi, qs, qt, qk, qz⟩ := r2
          dsimp only at c0 c1 c2 c3 c4 d0 d1 d2 d3 d4
          have hbin : ∀ W : World, (binOp .neq 60 (.agg #[.int .i64 ri, .int .i64 rs, .int .i64 rt, .int .i64 rk, .int .i64 rz]) (.agg #[.int .i64 qi, .int .i64 qs, .int .i64 qt, .int .i64 qk, .int .i64 qz])).run Try.prog W = .ok (.bool true) W := fun W => neq60 W (fun h1 h2 h3 h4 h5 => he (by rw [h1, h2, h3, h4, h5]))
          clear he
          go_wp2_with fail
          go_quiet (fail)
          go_wp2_with fail
          go_ret
          exact ⟨by rw [hne.out]; rfl, below_drewN hb _⟩
      · obtain rfl : j = xs.length := by omega
        have hyes : Hid (decide (xs = ys) = true) := decide_eq_true (by
          apply List.ext_getElem hl1.out
          intro i h1 h2
          have e := hall i h1
          have e1 := rq_get h1
          have e2 := rq_get h2
          rw [List.getElem?_eq_getElem h1, Option.some.injEq] at e1
          rw [List.getElem?_eq_getElem h2, Option.some.injEq] at e2
          rw [e1, e2, e])
        clear hall hbe
        go_wp2_with fail
        go_ret
        exact ⟨by rw [hyes.out]; rfl, hb⟩
  · have hne : Hid (decide (xs = ys) = false) := decide_eq_false (fun h => hl (by rw [h]))
    have hbe : ((xs.length : Int) != (ys.length : Int)) = true := by simp; omega
    clear hl
    go_enter Try.func13, Try.ntmps13
    go_wp2_with fail
    go_ret
    exact ⟨by rw [hne.out]; rfl, Below.refl _ _⟩

set_option maxHeartbeats 1000000 in
theorem plain_any (hx : RV w xa xs) (hn : xs.length ≤ 50000) :
    Calls Try.prog 14 #[.slice xa xs.length xc] w fun e w' => ∃ a c, e = .returned (.slice a xs.length c) ∧ RV w' a xs ∧ Below w.heap.size w w' := by
  go_enter Try.func14, Try.ntmps14
  go_wp2_with fail
  go_loopw [8, 3, 5] (fun v u _ wr => ∃ j : Nat, j ≤ xs.length ∧ v = .int .i64 j ∧ (∃ a c, u = .slice a j c ∧ Ow wr 60 w.heap.size (.slice a j c) (xs.take j)) ∧ Below w.heap.size w wr) (fun v _ _ _ => 50000 - (intOf v).toNat)
  case atStart => exact ⟨0, Nat.zero_le _, rfl, ⟨none, 0, rfl, Ow.nil _ _ _⟩, Below.refl _ _⟩
  case round =>
    obtain ⟨j, hj, rfl, ⟨a, c, rfl, ho⟩, hb⟩ := hrel
    by_cases hlt : j < xs.length
    · obtain ⟨b, o, rfl, c0, c1, c2, c3, c4⟩ := hx.below hb j hlt
      have hlt' : (j : Int) < (xs.length : Int) := by omega
      have hnx : Hid (xs.take (j + 1) = xs.take j ++ [rq xs j]) := take_next hlt
      obtain ⟨r, hr⟩ : ∃ r, Hid (rq xs j = r) := ⟨_, rfl⟩
      rw [hr.out] at c0 c1 c2 c3 c4
      obtain ⟨ri, rs, rt, rk, rz⟩ := r
      dsimp only at c0 c1 c2 c3 c4
      have hnx2 : Hid (xs.take j ++ [(ri, rs, rt, rk, rz)] = xs.take (j + 1)) := by unfold Hid; rw [hnx.out, hr.out]
      have htl : Hid ((xs.take j).length = j) := by unfold Hid; rw [List.length_take]; omega
      have hb1 := hb.alloc hb.size (.cells #[.int .i64 ri, .int .i64 rs, .int .i64 rt, .int .i64 rk, .int .i64 rz] 29)
      have hb2 := hb1.alloc hb1.size (.cells #[.int .i64 ri, .int .i64 rs, .int .i64 rt, .int .i64 rk, .int .i64 rz] 60)
      have ho2 := (ho.below ((Below.refl _ _).alloc (Nat.le_refl _) (.cells #[.int .i64 ri, .int .i64 rs, .int .i64 rt, .int .i64 rk, .int .i64 rz] 29))).below ((Below.refl _ _).alloc (Nat.le_refl _) (.cells #[.int .i64 ri, .int .i64 rs, .int .i64 rt, .int .i64 rk, .int .i64 rz] 60))
      have hr1 := rv_one (wr.alloc (.cells #[.int .i64 ri, .int .i64 rs, .int .i64 rt, .int .i64 rk, .int .i64 rz] 29)) ri rs rt rk rz 60
      rw [show (wr.alloc (.cells #[.int .i64 ri, .int .i64 rs, .int .i64 rt, .int .i64 rk, .int .i64 rz] 29)).heap.size = wr.heap.size + 1 by simp] at hr1
      have htl2 : Hid ((xs.take (j + 1)).length = j + 1) := by unfold Hid; rw [List.length_take]; omega
      clear hnx hr ho
      go_wp2_with (first
        | (at_builtin; refine wpList_app60 rfl _ _ rfl w.heap.size _ (xs.take j) rfl ho2 _ _ _ [(ri, rs, rt, rk, rz)] rfl rfl hr1 (by rw [htl.out]; omega) hb2.size ?_; intro v3 w3 ho3 hg3 _; rw [hnx2.out] at ho3; obtain ⟨a3, c3, rfl⟩ := ho3.at_ htl2.out))
      have hb3 := below_grown hb2 hg3 ho2 hb2.size
      go_roundw
      case rel => exact ⟨j + 1, by omega, by simp, ⟨a3, c3, rfl, ho3⟩, hb3⟩
      case measure =>
        simp [intOf]
        omega
    · obtain rfl : j = xs.length := by omega
      rw [List.take_length] at ho
      have hrv := ho.rv
      clear ho
      go_wp2_with fail
      go_ret
      exact ⟨a, c, rfl, hrv, hb⟩
end
end Go.Proofs.Ytdhgffnlocgfkaa
