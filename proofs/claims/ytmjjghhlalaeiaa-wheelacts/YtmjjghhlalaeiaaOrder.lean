/- Contracts of cmp.Or and of the closure that order tells. -/
import Derived.Test.YtmjjghhlalaeiaaWem
import Derived.Test.YtmjjghhlalaeiaaShelf
import Derived.Shelf.SlSortCmp.NoneTotal
namespace Go.Proofs.Ytmjjghhlalaeiaa
open Go.RowKit Go.Sort

/-- The first that is not 0. -/
def orI (x y : Int) : Int := if x = 0 then y else x

set_option maxHeartbeats 1000000 in
theorem or_any (g c : Nat) (x y : Int) (w : World) (h0 : w.cell? ⟨g, 0, none⟩ = some (.int .i64 x)) (h1 : w.cell? ⟨g, 1, none⟩ = some (.int .i64 y)) :
    Calls Try.prog 54 #[.slice (some ⟨g, 0, none⟩) 2 c] w fun e w' => e = .returned (.int .i64 (orI x y)) ∧ w' = w := by
  unfold orI
  go_enter Try.func54, Try.ntmps54
  go_wp2_with fail
  go_loopw [8] (fun p wr => (p = .int .i64 0 ∨ (p = .int .i64 1 ∧ x = 0) ∨ (p = .int .i64 2 ∧ x = 0 ∧ y = 0)) ∧ wr = w) (fun p _ => 2 - (intOf p).toNat)
  case atStart => exact ⟨.inl rfl, rfl⟩
  case round =>
    obtain ⟨hp, rfl⟩ := hrel
    rcases hp with rfl | ⟨rfl, hx⟩ | ⟨rfl, hx, hy⟩
    · by_cases hx : x = 0
      · subst hx
        go_wp2_with fail
        go_roundw
        case rel => exact ⟨by simp, trivial⟩
        case measure => simp [intOf]
      · have hxb : (x == 0) = false := by simpa using hx
        go_wp2_with fail
        go_ret
        exact ⟨rfl, rfl⟩
    · subst hx
      by_cases hy : y = 0
      · subst hy
        go_wp2_with fail
        go_roundw
        case rel => exact ⟨by simp, trivial⟩
        case measure => simp [intOf]
      · have hyb : (y == 0) = false := by simpa using hy
        go_wp2_with fail
        go_ret
        exact ⟨rfl, rfl⟩
    · subst hx hy
      go_wp2_with fail
      go_ret
      exact ⟨rfl, rfl⟩

theorem alloc_grow (W : World) (o : Obj) : (W.alloc o).drew = grow (W.drewN 1) #[o] := by
  unfold grow
  rw [Array.append_singleton]
  rfl

theorem c4_on {w w' : World} {p q r s : Addr} {x y z u : Value} (hb : But [] w w') (h : w.cell? p = some x ∧ w.cell? q = some y ∧ w.cell? r = some z ∧ w.cell? s = some u) : w'.cell? p = some x ∧ w'.cell? q = some y ∧ w'.cell? r = some z ∧ w'.cell? s = some u :=
  ⟨hb.cell h.1, hb.cell h.2.1, hb.cell h.2.2.1, hb.cell h.2.2.2⟩

set_option maxRecDepth 100000 in
set_option maxHeartbeats 2000000 in
/-- Two ids held against each other. -/
theorem order_at {W : World} {X B G N c a b : Nat} {ua ub : Int} (ha : a < N) (hb : b < N) (hx : W.cell? ⟨X, 0, none⟩ = some (.pointer (some ⟨B, 0, none⟩))) (h1 : W.cell? ⟨B, 1, none⟩ = some (.slice (some ⟨G, 0, none⟩) N c)) (ga : W.cell? ⟨G, a, none⟩ = some (.int .i64 ua)) (gb : W.cell? ⟨G, b, none⟩ = some (.int .i64 ub)) :
    Calls Try.prog 53 #[.int .i64 a, .int .i64 b, .pointer (some ⟨X, 0, none⟩)] W fun e w' => e = .returned (.int .i64 (orI (Lib.compareInt ua ub) (Lib.compareInt a b))) ∧ ∃ q os', w' = grow (W.drewN q) os' := by
  have C1 := fun W => Try.cmp_Compare_int ua ub W
  have C2 := fun W => Try.cmp_Compare_int (a : Int) (b : Int) W
  have ha' : (a : Int) < (N : Int) := by omega
  have ha0 : (0 : Int) ≤ (a : Int) := by omega
  have hb' : (b : Int) < (N : Int) := by omega
  have hb0 : (0 : Int) ≤ (b : Int) := by omega
  generalize Lib.compareInt ua ub = x at *
  generalize Lib.compareInt (a : Int) (b : Int) = y at *
  have hS : W.cell? ⟨X, 0, none⟩ = some (.pointer (some ⟨B, 0, none⟩)) ∧ W.cell? ⟨B, 1, none⟩ = some (.slice (some ⟨G, 0, none⟩) N c) ∧ W.cell? ⟨G, a, none⟩ = some (.int .i64 ua) ∧ W.cell? ⟨G, b, none⟩ = some (.int .i64 ub) := ⟨hx, h1, ga, gb⟩
  have hSd := c4_on (But.refl [] W).drew hS
  have hSa := c4_on ((But.refl [] W).alloc (.cells #[.int .i64 x, .int .i64 y] 3)).drew hS
  have z0 : (W.alloc (.cells #[.int .i64 x, .int .i64 y] 3)).cell? ⟨W.heap.size, 0, none⟩ = some (.int .i64 x) := by simp [go_sem]
  have z1 : (W.alloc (.cells #[.int .i64 x, .int .i64 y] 3)).cell? ⟨W.heap.size, 1, none⟩ = some (.int .i64 y) := by simp [go_sem]
  have OR := or_any W.heap.size 2 x y (W.alloc (.cells #[.int .i64 x, .int .i64 y] 3)).drew z0 z1
  go_enter Try.func53, Try.ntmps53
  go_wp2_with fail
  go_region_held3 (fun w' => w'.cell? ⟨X, 0, none⟩ = some (.pointer (some ⟨B, 0, none⟩)) ∧ w'.cell? ⟨B, 1, none⟩ = some (.slice (some ⟨G, 0, none⟩) N c) ∧ w'.cell? ⟨G, a, none⟩ = some (.int .i64 ua) ∧ w'.cell? ⟨G, b, none⟩ = some (.int .i64 ub)) (first | with_reducible assumption | with_reducible exact hSd | with_reducible exact hSa) (first
    | (go_at_call 55; (with_reducible refine (C1 _).mono ?_); rintro e w' ⟨rfl, hw⟩; subst w')
    | (go_at_call 55; (with_reducible refine (C2 _).mono ?_); rintro e w' ⟨rfl, hw⟩; subst w')
    | (go_at_call 54; refine OR.mono ?_; rintro e w' ⟨rfl, hw⟩; subst w'))
  all_goals
    go_wp2_with fail
    go_ret
    refine ⟨rfl, 1, #[.cells #[.int .i64 x, .int .i64 y] 3], ?_⟩
    exact alloc_grow W _
end Go.Proofs.Ytmjjghhlalaeiaa
