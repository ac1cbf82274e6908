/- Contracts of lives and far. -/
import Derived.Test.YtokigpmkhkldkaaEq
namespace Go.Proofs.Ytokigpmkhkldkaa
open Go.RowKit

theorem ex1 : planA [1, 1, 1, 0] [1, 2] = [(3, 0, 2), (2, 1, 2), (1, 1, 0)] := by decide
theorem ix_four (w : World) (p q r s : Int) : IX (w.alloc (.cells #[.int .i64 p, .int .i64 q, .int .i64 r, .int .i64 s] 3)) (some ⟨w.heap.size, 0, none⟩) [p, q, r, s] := fun j hj => by
  refine ⟨_, _, rfl, ?_⟩
  match j, hj with
  | 0, _ => simp [go_sem, ix]
  | 1, _ => simp [go_sem, ix]
  | 2, _ => simp [go_sem, ix]
  | 3, _ => simp [go_sem, ix]
theorem ix_two (w : World) (p q : Int) : IX (w.alloc (.cells #[.int .i64 p, .int .i64 q] 3)) (some ⟨w.heap.size, 0, none⟩) [p, q] := fun j hj => by
  refine ⟨_, _, rfl, ?_⟩
  match j, hj with
  | 0, _ => simp [go_sem, ix]
  | 1, _ => simp [go_sem, ix]
def O3 : Obj := .cells #[.int .i64 3, .int .i64 0, .int .i64 2, .int .i64 2, .int .i64 1, .int .i64 2, .int .i64 1, .int .i64 1, .int .i64 0] 44
theorem mv_three (w : World) : MV (w.alloc O3) (some ⟨w.heap.size, 0, none⟩) [(3, 0, 2), (2, 1, 2), (1, 1, 0)] := fun j hj => by
  refine ⟨_, _, rfl, ?_⟩
  match j, hj with
  | 0, _ => simp [go_sem, mc, O3]
  | 1, _ => simp [go_sem, mc, O3]
  | 2, _ => simp [go_sem, mc, O3]
theorem lives_plan (w : World) : Calls Try.prog 11 #[.slice (some ⟨w.heap.size, 0, none⟩) 4 4, .slice (some ⟨w.heap.size + 1, 0, none⟩) 2 2] ((w.alloc (.cells #[.int .i64 1, .int .i64 1, .int .i64 1, .int .i64 0] 3)).alloc (.cells #[.int .i64 1, .int .i64 2] 3))
    fun e w' => ∃ a c, e = .returned (.slice a 3 c) ∧ MV w' a [(3, 0, 2), (2, 1, 2), (1, 1, 0)] ∧ Below w.heap.size w w' := by
  have h2 := ix_two (w.alloc (.cells #[.int .i64 1, .int .i64 1, .int .i64 1, .int .i64 0] 3)) 1 2
  rw [show (w.alloc (.cells #[.int .i64 1, .int .i64 1, .int .i64 1, .int .i64 0] 3)).heap.size = w.heap.size + 1 by simp] at h2
  have D := plan_any (xc := 4) (yc := 2) ((ix_four w 1 1 1 0).alloc (.cells #[.int .i64 1, .int .i64 2] 3)) h2 (Sz.small (by simp)) (fun i hi => by
    match i, hi with
    | 0, _ => exact ⟨by decide, by decide⟩
    | 1, _ => exact ⟨by decide, by decide⟩)
  rw [ex1] at D
  exact D.mono (fun e w' ⟨a, c, h1, h2, _, h3⟩ => ⟨a, c, h1, h2, (((Below.refl _ _).alloc (Nat.le_refl _) _).alloc (by simp) _).trans (h3.mono (by simp; omega))⟩)
theorem lives_plain {w : World} {a : Option Addr} {c : Nat} (h : MV w a [(3, 0, 2), (2, 1, 2), (1, 1, 0)]) : Calls Try.prog 10 #[.slice a 3 c] w fun e w' => ∃ a c, e = .returned (.slice a 3 c) ∧ MV w' a [(3, 0, 2), (2, 1, 2), (1, 1, 0)] ∧ Below w.heap.size w w' := plain_any (xc := c) h (by simp)
theorem lives_same {w : World} {a : Option Addr} {c : Nat} (h : MV w a [(3, 0, 2), (2, 1, 2), (1, 1, 0)]) : Calls Try.prog 9 #[.slice a 3 c, .slice (some ⟨w.heap.size, 0, none⟩) 3 3] (w.alloc O3) fun e w' => e = .returned (.bool true) ∧ Below w.heap.size w w' := by
  have D := same_any (xc := c) (yc := 3) (h.alloc O3) (mv_three w) (by simp)
  rw [show decide ([((3 : Int), (0 : Int), (2 : Int)), (2, 1, 2), (1, 1, 0)] = [(3, 0, 2), (2, 1, 2), (1, 1, 0)]) = true from decide_eq_true rfl] at D
  exact D.mono (fun e w' ⟨h1, h3⟩ => ⟨h1, ((Below.refl _ _).alloc (Nat.le_refl _) _).trans (h3.mono (by simp))⟩)

set_option maxHeartbeats 1000000 in
theorem lives_any (w : World) : Calls Try.prog 8 #[] w fun e w' => e = .returned (.bool true) ∧ Below w.heap.size w w' := by
  have S := fun (W : World) a c (h : MV W a [(3, 0, 2), (2, 1, 2), (1, 1, 0)]) => lives_same (c := c) h
  unfold O3 at S
  go_enter Try.func8, Try.ntmps8
  go_wp2_with (first
    | (go_at_call 11; (with_reducible refine (lives_plan _).mono ?_); rintro e w1 ⟨a1, c1, rfl, i1, b1⟩)
    | (go_at_call 10; (with_reducible refine (lives_plain i1).mono ?_); rintro e w2 ⟨a2, c2, rfl, i2, b2⟩)
    | (go_at_call 9; (with_reducible refine (S _ _ _ i2).mono ?_); rintro e w3 ⟨rfl, b3⟩))
  go_ret
  exact ⟨rfl, below2 (below2 b1 b1.size b2) (Nat.le_trans b1.size b2.size) b3⟩

section
variable {w : World} {xa ya : Option Addr} {xc yc : Nat} {os ts : List Int}
set_option maxHeartbeats 1000000 in
theorem far_any (hx : IX w xa os) (hy : IX w ya ts) (hzt : Sz ts) (ot : OkX ts) (hV : V os ts) :
    Calls Try.prog 22 #[.slice xa os.length xc, .slice ya ts.length yc] w fun e w' => e = .returned (.int .i64 (fr os ts ts.length)) ∧ Below w.heap.size w w' := by
  have N := need_any (xc := xc) (yc := yc) hx hy hzt ot
  rw [exA_v hV, lkA_v hV, exL_len, lkL_len] at N
  have hts := hV.good.2.1
  go_enter Try.func22, Try.ntmps22
  go_wp2_with (first | (go_at_call 16; (with_reducible refine N.mono ?_); rintro e w4 ⟨na, nc, nb, nd, rfl, hnd⟩; obtain ⟨⟨nx, nl, _⟩, ⟨ny, nm, _⟩, _, b4⟩ := hnd))
  clear nl nm N
  go_loopw [17, 7] (fun v u wr => ∃ j : Nat, j ≤ ts.length ∧ v = .int .i64 j ∧ u = .int .i64 (fr os ts j) ∧ Below w4.heap.size w4 wr) (fun v _ _ => 100 - (intOf v).toNat)
  case atStart => exact ⟨0, Nat.zero_le _, rfl, rfl, Below.refl _ _⟩
  case round =>
    obtain ⟨j, hj, rfl, rfl, hb⟩ := hrel
    by_cases hlt : j < ts.length
    · obtain ⟨b, o, rfl, c0⟩ := nx.below hb j (by rw [exL_len]; exact hlt)
      obtain ⟨b2, o2, rfl, c1⟩ := ny.below hb j (by rw [lkL_len]; exact hlt)
      rw [ix_exL hlt] at c0
      rw [ix_lkL hlt] at c1
      have hlt' : (j : Int) < (ts.length : Int) := by omega
      obtain ⟨x0, x1⟩ := hV.ex_bd hlt
      obtain ⟨y0, y1⟩ := hV.lk_bd hlt
      obtain ⟨f0, f1⟩ := hV.fr_bd j hj
      have f2 : fr os ts j ≤ 10000 := by omega
      have hnx : Hid (fr os ts (j + 1) = fr os ts j + (exI os ts j + lkI os ts j)) := rfl
      clear f1
      generalize fr os ts j = f at *
      generalize exI os ts j = x at *
      generalize lkI os ts j = y at *
      go_wp2_with fail
      go_quiet (fail)
      go_wp2_with fail
      go_roundw
      case rel => exact ⟨j + 1, by omega, by simp, by rw [hnx.out], below_drewN hb _⟩
      case measure =>
        simp [intOf]
        omega
    · obtain rfl : j = ts.length := by omega
      go_wp2_with fail
      go_ret
      exact ⟨rfl, below2 b4 b4.size hb⟩
end
end Go.Proofs.Ytokigpmkhkldkaa
