/- The walk of NumOrder. -/
import Derived.Test.YtlhiabfhokeihaaBackWalk
import Derived.Deep.RegionHeld3
import Derived.Deep.CutRange
namespace Go.Proofs.Ytlhiabfhokeihaa
open Go.RowKit

/-- Six cells that a call leaves alone. -/
theorem six_step {w W w1 : World} {bx by_ bz : Nat} {x0 x1 y0 y1 z0 z1 : Int} (h : W.cell? ⟨bx, 0, none⟩ = some (.int .i64 x0) ∧ W.cell? ⟨bx, 1, none⟩ = some (.int .i64 x1) ∧ W.cell? ⟨by_, 0, none⟩ = some (.int .i64 y0) ∧ W.cell? ⟨by_, 1, none⟩ = some (.int .i64 y1) ∧ W.cell? ⟨bz, 0, none⟩ = some (.int .i64 z0) ∧ W.cell? ⟨bz, 1, none⟩ = some (.int .i64 z1) ∧ bx < W.heap.size ∧ by_ < W.heap.size ∧ bz < W.heap.size ∧ Below w.heap.size w W ∧ w.heap.size ≤ W.heap.size) (hb : Below W.heap.size W w1) : w1.cell? ⟨bx, 0, none⟩ = some (.int .i64 x0) ∧ w1.cell? ⟨bx, 1, none⟩ = some (.int .i64 x1) ∧ w1.cell? ⟨by_, 0, none⟩ = some (.int .i64 y0) ∧ w1.cell? ⟨by_, 1, none⟩ = some (.int .i64 y1) ∧ w1.cell? ⟨bz, 0, none⟩ = some (.int .i64 z0) ∧ w1.cell? ⟨bz, 1, none⟩ = some (.int .i64 z1) ∧ bx < w1.heap.size ∧ by_ < w1.heap.size ∧ bz < w1.heap.size ∧ Below w.heap.size w w1 ∧ w.heap.size ≤ w1.heap.size := by
  obtain ⟨h1, h2, h3, h4, h5, h6, l1, l2, l3, k, m⟩ := h
  have hs := hb.size
  exact ⟨keep hb l1 h1, keep hb l1 h2, keep hb l2 h3, keep hb l2 h4, keep hb l3 h5, keep hb l3 h6, by omega, by omega, by omega, below2 k m hb, by omega⟩
theorem six_drew {w W : World} {bx by_ bz : Nat} {x0 x1 y0 y1 z0 z1 : Int} (h : W.cell? ⟨bx, 0, none⟩ = some (.int .i64 x0) ∧ W.cell? ⟨bx, 1, none⟩ = some (.int .i64 x1) ∧ W.cell? ⟨by_, 0, none⟩ = some (.int .i64 y0) ∧ W.cell? ⟨by_, 1, none⟩ = some (.int .i64 y1) ∧ W.cell? ⟨bz, 0, none⟩ = some (.int .i64 z0) ∧ W.cell? ⟨bz, 1, none⟩ = some (.int .i64 z1) ∧ bx < W.heap.size ∧ by_ < W.heap.size ∧ bz < W.heap.size ∧ Below w.heap.size w W ∧ w.heap.size ≤ W.heap.size) : W.drew.cell? ⟨bx, 0, none⟩ = some (.int .i64 x0) ∧ W.drew.cell? ⟨bx, 1, none⟩ = some (.int .i64 x1) ∧ W.drew.cell? ⟨by_, 0, none⟩ = some (.int .i64 y0) ∧ W.drew.cell? ⟨by_, 1, none⟩ = some (.int .i64 y1) ∧ W.drew.cell? ⟨bz, 0, none⟩ = some (.int .i64 z0) ∧ W.drew.cell? ⟨bz, 1, none⟩ = some (.int .i64 z1) ∧ bx < W.drew.heap.size ∧ by_ < W.drew.heap.size ∧ bz < W.drew.heap.size ∧ Below w.heap.size w W.drew ∧ w.heap.size ≤ W.drew.heap.size := by
  obtain ⟨h1, h2, h3, h4, h5, h6, l1, l2, l3, k, m⟩ := h
  exact ⟨h1, h2, h3, h4, h5, h6, l1, l2, l3, k.drew, m⟩

theorem cmp_neg (V U : Int) : cmpI U V = -(cmpI V U) := by
  unfold cmpI
  by_cases h : V = U
  · rw [if_pos h, if_pos h.symm]; rfl
  · rw [if_neg h, if_neg (fun e => h e.symm)]
    by_cases h2 : V < U
    · rw [if_pos h2, if_neg (by omega)]; rfl
    · rw [if_neg h2, if_pos (by omega)]
theorem cmp_bd (V U : Int) : -1 ≤ cmpI V U ∧ cmpI V U ≤ 1 := by
  unfold cmpI; split
  · omega
  · split <;> omega
theorem cmp_pos {V U : Int} : 0 < cmpI V U ↔ U < V := by
  unfold cmpI; split
  · omega
  · split <;> omega
/-- One that is not above a second, which is not above a third, is not above that. -/
theorem frac_trans {x0 x1 y0 y1 z0 z1 : Int} (hx : 0 < x1) (hy : 0 < y1) (hz : 0 < z1) (h1 : x0 * y1 ≤ y0 * x1) (h2 : y0 * z1 ≤ z0 * y1) : x0 * z1 ≤ z0 * x1 := by
  have e1 : x0 * y1 * z1 ≤ y0 * x1 * z1 := Int.mul_le_mul_of_nonneg_right h1 (by omega)
  have e2 : y0 * z1 * x1 ≤ z0 * y1 * x1 := Int.mul_le_mul_of_nonneg_right h2 (by omega)
  have e3 : x0 * z1 * y1 ≤ z0 * x1 * y1 := by
    rw [Int.mul_right_comm x0 z1 y1, Int.mul_right_comm z0 x1 y1]
    rw [Int.mul_right_comm y0 x1 z1] at e1
    omega
  exact Int.le_of_mul_le_mul_right e3 hy

set_option maxHeartbeats 2000000 in
theorem order_walk (a0 a1 b0 b1 c0 c1 : Int) (w : World) (ha0 : 0 ≤ a0) (ha0' : a0 ≤ 4294967295) (ha1 : 0 ≤ a1) (ha1' : a1 ≤ 4294967295) (hb0 : 0 ≤ b0) (hb0' : b0 ≤ 4294967295) (hb1 : 0 ≤ b1) (hb1' : b1 ≤ 4294967295) (hc0 : 0 ≤ c0) (hc0' : c0 ≤ 4294967295) (hc1 : 0 ≤ c1) (hc1' : c1 ≤ 4294967295) :
    Calls Try.prog 7 #[.agg #[.int .u32 a0, .int .u32 a1], .agg #[.int .u32 b0, .int .u32 b1], .agg #[.int .u32 c0, .int .u32 c1]] w fun e w' => e = .returned (.bool true) ∧ Below w.heap.size w w' := by
  have ea0 : IntKind.i64.wrap a0 = a0 := by rw [IntKind.wrap_i64]; omega
  have ea1 : IntKind.i64.wrap a1 = a1 := by rw [IntKind.wrap_i64]; omega
  have eb0 : IntKind.i64.wrap b0 = b0 := by rw [IntKind.wrap_i64]; omega
  have eb1 : IntKind.i64.wrap b1 = b1 := by rw [IntKind.wrap_i64]; omega
  have ec0 : IntKind.i64.wrap c0 = c0 := by rw [IntKind.wrap_i64]; omega
  have ec1 : IntKind.i64.wrap c1 = c1 := by rw [IntKind.wrap_i64]; omega
  have fa1 : IntKind.i64.wrap (1 + a1) = 1 + a1 := by rw [IntKind.wrap_i64]; omega
  have fb1 : IntKind.i64.wrap (1 + b1) = 1 + b1 := by rw [IntKind.wrap_i64]; omega
  have fc1 : IntKind.i64.wrap (1 + c1) = 1 + c1 := by rw [IntKind.wrap_i64]; omega
  go_enter Try.func7, Try.ntmps7
  go_wp2_with fail
  go_cut [7, 8, 9] from 14 to 37 (fun s7 s8 s9 wx => ∃ bx by_ bz : Nat, s7 = .pointer (some ⟨bx, 0, none⟩) ∧ s8 = .pointer (some ⟨by_, 0, none⟩) ∧ s9 = .pointer (some ⟨bz, 0, none⟩) ∧ wx.cell? ⟨bx, 0, none⟩ = some (.int .i64 a0) ∧ wx.cell? ⟨bx, 1, none⟩ = some (.int .i64 (1 + a1)) ∧ wx.cell? ⟨by_, 0, none⟩ = some (.int .i64 b0) ∧ wx.cell? ⟨by_, 1, none⟩ = some (.int .i64 (1 + b1)) ∧ wx.cell? ⟨bz, 0, none⟩ = some (.int .i64 c0) ∧ wx.cell? ⟨bz, 1, none⟩ = some (.int .i64 (1 + c1)) ∧ bx < wx.heap.size ∧ by_ < wx.heap.size ∧ bz < wx.heap.size ∧ Below w.heap.size w wx ∧ w.heap.size ≤ wx.heap.size)
  case first =>
    go_region_held3 (fun w' => w'.cell? ⟨w.heap.size, 0, none⟩ = some (.int .u32 a0) ∧ w'.cell? ⟨w.heap.size, 1, none⟩ = some (.int .u32 a1) ∧ w'.cell? ⟨w.heap.size + 1, 0, none⟩ = some (.int .u32 b0) ∧ w'.cell? ⟨w.heap.size + 1, 1, none⟩ = some (.int .u32 b1) ∧ w'.cell? ⟨w.heap.size + 1 + 1, 0, none⟩ = some (.int .u32 c0) ∧ w'.cell? ⟨w.heap.size + 1 + 1, 1, none⟩ = some (.int .u32 c1)) (simp [go_sem, World.cell?_alloc_past]) (fail)
    all_goals
      go_wp2_with fail
      go_meet
      case rel =>
        exact ⟨_, _, _, rfl, rfl, rfl, by simp [go_sem, World.cell?_alloc_past], by simp [go_sem, World.cell?_alloc_past], by simp [go_sem, World.cell?_alloc_past], by simp [go_sem, World.cell?_alloc_past], by simp [go_sem, World.cell?_alloc_past], by simp [go_sem, World.cell?_alloc_past], by simp <;> omega, by simp <;> omega, by simp <;> omega, by repeat (first | exact Below.refl _ _ | apply Below.drew | (refine Below.alloc ?_ (by simp <;> omega) _)), by simp <;> omega⟩
  case rest =>
    obtain ⟨bx, by_, bz, rfl, rfl, rfl, hS⟩ := hcut
    go_upto_region 2 with fail
    go_cut [10, 11, 12, 13] from 38 to 73 (fun s10 s11 s12 s13 wx => s10 = .int .i64 (cmpI (a0 * (1 + b1)) (b0 * (1 + a1))) ∧ s11 = .int .i64 (cmpI (b0 * (1 + a1)) (a0 * (1 + b1))) ∧ s12 = .int .i64 (cmpI (b0 * (1 + c1)) (c0 * (1 + b1))) ∧ s13 = .int .i64 (cmpI (a0 * (1 + c1)) (c0 * (1 + a1))) ∧ wx.cell? ⟨bx, 0, none⟩ = some (.int .i64 a0) ∧ wx.cell? ⟨bx, 1, none⟩ = some (.int .i64 (1 + a1)) ∧ wx.cell? ⟨by_, 0, none⟩ = some (.int .i64 b0) ∧ wx.cell? ⟨by_, 1, none⟩ = some (.int .i64 (1 + b1)) ∧ wx.cell? ⟨bz, 0, none⟩ = some (.int .i64 c0) ∧ wx.cell? ⟨bz, 1, none⟩ = some (.int .i64 (1 + c1)) ∧ bx < wx.heap.size ∧ by_ < wx.heap.size ∧ bz < wx.heap.size ∧ Below w.heap.size w wx ∧ w.heap.size ≤ wx.heap.size)
    case first =>
      go_region_held3 (fun w' => w'.cell? ⟨bx, 0, none⟩ = some (.int .i64 a0) ∧ w'.cell? ⟨bx, 1, none⟩ = some (.int .i64 (1 + a1)) ∧ w'.cell? ⟨by_, 0, none⟩ = some (.int .i64 b0) ∧ w'.cell? ⟨by_, 1, none⟩ = some (.int .i64 (1 + b1)) ∧ w'.cell? ⟨bz, 0, none⟩ = some (.int .i64 c0) ∧ w'.cell? ⟨bz, 1, none⟩ = some (.int .i64 (1 + c1)) ∧ bx < w'.heap.size ∧ by_ < w'.heap.size ∧ bz < w'.heap.size ∧ Below w.heap.size w w' ∧ w.heap.size ≤ w'.heap.size) (first | assumption | exact six_drew (by assumption)) (first | (go_at_call 20; refine (cross_any _ _ _ _ _ (by omega) (by omega) (by omega) (by omega) (by omega) (by omega) (by omega) (by omega)).mono ?_; rintro e w1 ⟨rfl, h1⟩; have key := six_step (by assumption) h1; clear h1))
      all_goals
        go_wp2_with fail
        go_meet
        case rel => exact ⟨rfl, rfl, rfl, rfl, by assumption⟩
    case rest =>
      obtain ⟨rfl, rfl, rfl, rfl, g0, g1, _, _, _, _, l1, _, _, k, m⟩ := hcut
      have hneg := cmp_neg (a0 * (1 + b1)) (b0 * (1 + a1))
      have htr : ¬ 0 < cmpI (a0 * (1 + b1)) (b0 * (1 + a1)) → ¬ 0 < cmpI (b0 * (1 + c1)) (c0 * (1 + b1)) → cmpI (a0 * (1 + c1)) (c0 * (1 + a1)) ≤ 0 := by
        intro h1 h2
        have h3 := frac_trans (x0 := a0) (x1 := 1 + a1) (y0 := b0) (y1 := 1 + b1) (z0 := c0) (z1 := 1 + c1) (by omega) (by omega) (by omega) (Int.not_lt.1 (fun h => h1 (cmp_pos.2 h))) (Int.not_lt.1 (fun h => h2 (cmp_pos.2 h)))
        exact Int.not_lt.1 (fun h => by have := cmp_pos.1 h; omega)
      obtain ⟨d1, d2⟩ := cmp_bd (a0 * (1 + b1)) (b0 * (1 + a1))
      have HN : Hid (absI (a0 * (1 + a1) - a0 * (1 + a1)) = 0) := by unfold Hid; rw [Int.sub_self]; rfl
      rw [hneg]
      clear hneg
      generalize cmpI (a0 * (1 + b1)) (b0 * (1 + a1)) = xy at *
      generalize cmpI (b0 * (1 + c1)) (c0 * (1 + b1)) = yz at *
      generalize cmpI (a0 * (1 + c1)) (c0 * (1 + a1)) = xz at *
      have hw1 : (xy != - -xy) = false := by simp
      have hw2 : decide (xy < -1) = false := by simp; omega
      have hw3 : decide (1 < xy) = false := by simp; omega
      by_cases p1 : 0 < xy
      · clear htr
        go_wp2_with fail
        refine (near_any a0 (1 + a1) a0 (1 + a1) 0 5 _ (by omega) (by omega) (by omega) (by omega) (by omega) (by omega) (by omega) (by omega) (by omega) (by omega) (by omega) (by omega)).mono ?_
        rw [HN.out]
        rintro e w5 ⟨rfl, h5⟩
        have k5 := below2 k m h5
        have m5 := k5.size
        go_wp2_with fail
        refine (lives_any _).mono ?_
        rintro e w6 ⟨rfl, h6⟩
        go_wp2_with fail
        go_ret
        exact ⟨rfl, below2 k5 m5 h6⟩
      · have p1' : decide (0 < xy) = false := by simpa using p1
        by_cases p2 : 0 < yz
        · clear htr p1
          go_wp2_with fail
          refine (near_any a0 (1 + a1) a0 (1 + a1) 0 5 _ (by omega) (by omega) (by omega) (by omega) (by omega) (by omega) (by omega) (by omega) (by omega) (by omega) (by omega) (by omega)).mono ?_
          rw [HN.out]
          rintro e w5 ⟨rfl, h5⟩
          have k5 := below2 k m h5
          have m5 := k5.size
          go_wp2_with fail
          refine (lives_any _).mono ?_
          rintro e w6 ⟨rfl, h6⟩
          go_wp2_with fail
          go_ret
          exact ⟨rfl, below2 k5 m5 h6⟩
        · have p2' : decide (0 < yz) = false := by simpa using p2
          have p3 := htr p1 p2
          clear htr p1 p2
          go_wp2_with fail
          refine (near_any a0 (1 + a1) a0 (1 + a1) 0 5 _ (by omega) (by omega) (by omega) (by omega) (by omega) (by omega) (by omega) (by omega) (by omega) (by omega) (by omega) (by omega)).mono ?_
          rw [HN.out]
          rintro e w5 ⟨rfl, h5⟩
          have k5 := below2 k m h5
          have m5 := k5.size
          go_wp2_with fail
          refine (lives_any _).mono ?_
          rintro e w6 ⟨rfl, h6⟩
          go_wp2_with fail
          go_ret
          exact ⟨rfl, below2 k5 m5 h6⟩
end Go.Proofs.Ytlhiabfhokeihaa
