/- The walk of MaskMakes. -/
import Derived.Test.YtgoedlgilgnphaaDoorRefT
import Derived.Deep.RegionHeld3
namespace Go.Proofs.YtgoedlgilgnphaaDoor
open Go.RowKit Go.Shelf

/-- What is hidden from a walk. -/
structure Veil (p : Prop) : Prop where
  out : p

theorem s2_step {w W w1 : World} {x y : Int} (h : W.cell? ⟨w.heap.size, 0, none⟩ = some (.int .i64 x) ∧ W.cell? ⟨w.heap.size, 1, none⟩ = some (.int .i64 y) ∧ w.heap.size < W.heap.size ∧ Below w.heap.size w W) (hb : Below W.heap.size W w1) :
    w1.cell? ⟨w.heap.size, 0, none⟩ = some (.int .i64 x) ∧ w1.cell? ⟨w.heap.size, 1, none⟩ = some (.int .i64 y) ∧ w.heap.size < w1.heap.size ∧ Below w.heap.size w w1 := by
  obtain ⟨h0, h1, l, k⟩ := h
  have hs := hb.size
  exact ⟨(hb.cell (p := ⟨w.heap.size, 0, none⟩) l).trans h0, (hb.cell (p := ⟨w.heap.size, 1, none⟩) l).trans h1, by omega, k.trans (hb.mono k.size)⟩

theorem s2_drew {w W : World} {x y : Int} (h : W.cell? ⟨w.heap.size, 0, none⟩ = some (.int .i64 x) ∧ W.cell? ⟨w.heap.size, 1, none⟩ = some (.int .i64 y) ∧ w.heap.size < W.heap.size ∧ Below w.heap.size w W) :
    W.drew.cell? ⟨w.heap.size, 0, none⟩ = some (.int .i64 x) ∧ W.drew.cell? ⟨w.heap.size, 1, none⟩ = some (.int .i64 y) ∧ w.heap.size < W.drew.heap.size ∧ Below w.heap.size w W.drew :=
  ⟨h.1, h.2.1, h.2.2.1, h.2.2.2.drew⟩

theorem s2_bel {w W : World} {x y : Int} (h : W.cell? ⟨w.heap.size, 0, none⟩ = some (.int .i64 x) ∧ W.cell? ⟨w.heap.size, 1, none⟩ = some (.int .i64 y) ∧ w.heap.size < W.heap.size ∧ Below w.heap.size w W) : Below w.heap.size w W := h.2.2.2

theorem same_below {w w' : World} (h : w' = w) : Below w.heap.size w w' := by rw [h]; exact Below.refl _ _

set_option maxRecDepth 100000 in
set_option maxHeartbeats 4000000 in
theorem makes_any (a : Option Addr) (c : Nat) (xs : List Int) (m : Nat) (x y : Int) (hm : m < 18446744073709551616) (hx0 : -9223372036854775808 ≤ x) (hx1 : x ≤ 9223372036854775807) (w : World) (hT : Tab w) (h : Ints w a xs) :
    Calls Tryd.prog 4 #[.slice a xs.length c, .int .u64 m, .agg #[.int .i64 x, .int .i64 y]] w fun e w' => e = .returned (.bool true) ∧ Below w.heap.size w w' := by
  by_cases hl : xs.length ≤ 300
  · have O1 : Veil (∀ W, Below w.heap.size w W → Calls Tryd.prog 27 #[.slice a xs.length c] W fun e w' => e = .returned (.int .u64 (ofN xs : Nat)) ∧ Below W.heap.size W w') :=
      ⟨fun W hb => (of_any a c xs W (by omega) (ints_below h hb)).mono fun e w' h => ⟨h.1, same_below h.2⟩⟩
    have O2 : Veil (∀ W, Below w.heap.size w W → Calls Tryd.prog 28 #[.slice a xs.length c] W fun e w' => e = .returned (.int .u64 (ofN xs : Nat)) ∧ Below W.heap.size W w') :=
      ⟨fun W hb => (rof_any a c xs W (by omega) (ints_below h hb)).mono fun e w' h => ⟨h.1, same_below h.2⟩⟩
    have B1 : Veil (∀ W, Calls Tryd.prog 29 #[.int .i64 x] W fun e w' => e = .returned (.int .u64 (belowN (clampN x) : Nat)) ∧ Below W.heap.size W w') :=
      ⟨fun W => (below_any x W hx0 hx1).mono fun e w' h => ⟨h.1, same_below h.2⟩⟩
    have B2 : Veil (∀ W, Calls Tryd.prog 30 #[.int .i64 x] W fun e w' => e = .returned (.int .u64 (belowN (clampN x) : Nat)) ∧ Below W.heap.size W w') :=
      ⟨fun W => (rbelow_any x W).mono fun e w' h => ⟨h.1, same_below h.2⟩⟩
    have T1 : Veil (∀ W, Below w.heap.size w W → Calls Tryd.prog 31 #[.int .u64 m, .int .i64 x, .int .i64 y] W fun e w' => e = .returned (.int .u64 (turnN m x y : Nat)) ∧ Below W.heap.size W w') :=
      ⟨fun W hb => turn_any m x y hm W (hT.below hb (Nat.le_refl _))⟩
    have T2 : Veil (∀ W, Calls Tryd.prog 32 #[.int .u64 m, .int .i64 x, .int .i64 y] W fun e w' => e = .returned (.int .u64 (turnN m x y : Nat)) ∧ Below W.heap.size W w') :=
      ⟨fun W => rturn_any m x y hm W⟩
    have LV : Veil (∀ W, Below w.heap.size w W → Calls Tryd.prog 26 #[] W fun e w' => e = .returned (.bool true) ∧ Below W.heap.size W w') :=
      ⟨fun W hb => lives_any W (hT.below hb (Nat.le_refl _))⟩
    have hS : (w.alloc (.cells #[.int .i64 x, .int .i64 y] 38)).cell? ⟨w.heap.size, 0, none⟩ = some (.int .i64 x) ∧ (w.alloc (.cells #[.int .i64 x, .int .i64 y] 38)).cell? ⟨w.heap.size, 1, none⟩ = some (.int .i64 y) ∧ w.heap.size < (w.alloc (.cells #[.int .i64 x, .int .i64 y] 38)).heap.size ∧ Below w.heap.size w (w.alloc (.cells #[.int .i64 x, .int .i64 y] 38)) :=
      ⟨by simp [go_sem], by simp [go_sem], by simp, (Below.refl _ w).alloc (Nat.le_refl _) _⟩
    generalize ((ofN xs : Nat) : Int) = v1 at O1 O2
    generalize ((belowN (clampN x) : Nat) : Int) = v2 at B1 B2
    generalize ((turnN m x y : Nat) : Int) = v3 at T1 T2
    have hl' : ((xs.length : Nat) : Int) ≤ 300 := by omega
    clear h hT hm hx0 hx1
    generalize xs.length = L at hl' O1 O2 hl ⊢
    go_enter Tryd.func4, Tryd.ntmps4
    go_wp2_with fail
    go_region_held3 (fun w' => w'.cell? ⟨w.heap.size, 0, none⟩ = some (.int .i64 x) ∧ w'.cell? ⟨w.heap.size, 1, none⟩ = some (.int .i64 y) ∧ w.heap.size < w'.heap.size ∧ Below w.heap.size w w') (first | assumption | exact s2_drew (by assumption)) (first | (go_at_call 27; refine (O1.out _ (s2_bel (by assumption))).mono ?_; rintro r w1 ⟨rfl, hb⟩; have key := s2_step (by assumption) hb; clear hb) | (go_at_call 28; refine (O2.out _ (s2_bel (by assumption))).mono ?_; rintro r w1 ⟨rfl, hb⟩; have key := s2_step (by assumption) hb; clear hb) | (go_at_call 29; refine (B1.out _).mono ?_; rintro r w1 ⟨rfl, hb⟩; have key := s2_step (by assumption) hb; clear hb) | (go_at_call 30; refine (B2.out _).mono ?_; rintro r w1 ⟨rfl, hb⟩; have key := s2_step (by assumption) hb; clear hb) | (go_at_call 31; refine (T1.out _ (s2_bel (by assumption))).mono ?_; rintro r w1 ⟨rfl, hb⟩; have key := s2_step (by assumption) hb; clear hb) | (go_at_call 32; refine (T2.out _).mono ?_; rintro r w1 ⟨rfl, hb⟩; have key := s2_step (by assumption) hb; clear hb) | (go_at_call 26; refine (LV.out _ (s2_bel (by assumption))).mono ?_; rintro r w1 ⟨rfl, hb⟩; have key := s2_step (by assumption) hb; clear hb))
    all_goals
      go_wp2_with fail
      go_ret
      exact ⟨rfl, key.2.2.2⟩
  · have hl' : (300 : Int) < ((xs.length : Nat) : Int) := by omega
    have hB := (Below.refl w.heap.size w).alloc (Nat.le_refl _) (Obj.cells #[.int .i64 x, .int .i64 y] 38)
    have hT1 := hT.below hB (Nat.le_refl _)
    go_enter Tryd.func4, Tryd.ntmps4
    go_wp2_with fail
    refine (lives_any _ hT1).mono ?_
    rintro e w' ⟨rfl, hb⟩
    go_wp2_with fail
    go_ret
    exact ⟨rfl, hB.trans (hb.mono hB.size)⟩

end Go.Proofs.YtgoedlgilgnphaaDoor
