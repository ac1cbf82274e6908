/- The statements' lives and light. -/
import Derived.Test.YtbcdjpafdmgbmaaDoorPrint
namespace Go.Proofs.YtbcdjpafdmgbmaaDoor
open Go.RowKit

theorem it0 : Lib.itoa 0 = [48] := by unfold Lib.itoa; rw [if_neg (by decide)]; exact Lib.decDigits_one (by decide)
theorem it1 : Lib.itoa 1 = [49] := by unfold Lib.itoa; rw [if_neg (by decide)]; exact Lib.decDigits_one (by decide)
theorem it5 : Lib.itoa 5 = [53] := by unfold Lib.itoa; rw [if_neg (by decide)]; exact Lib.decDigits_one (by decide)
def liveP : List Ins := [(1, 0, 5, 0), (8, 0, 1, 0), (11, 0, 0, 0)]
theorem live_whole : wholeB liveP = true := by decide
theorem live_print : printA liveP = [115, 101, 116, 32, 48, 32, 53, 10, 108, 111, 111, 112, 32, 48, 32, 49, 10, 101, 120, 105, 116, 32, 48, 10] := by
  have u1 : usedL (1, 0, 5, 0) = [0, 5] := by decide
  have u2 : usedL (8, 0, 1, 0) = [0, 1] := by decide
  have u3 : usedL (11, 0, 0, 0) = [0] := by decide
  have n1 : nmL 1 = [115, 101, 116] := by decide
  have n2 : nmL 8 = [108, 111, 111, 112] := by decide
  have n3 : nmL 11 = [101, 120, 105, 116] := by decide
  unfold printA
  rw [live_whole]
  simp only [if_true, printL, liveP, List.flatMap_cons, List.flatMap_nil, printI, numsL, u1, u2, u3, n1, n2, n3, it0, it1, it5]
  rfl

theorem light_any {ps : List Ins} {a : Option Addr} (c : Nat) (w : World) :
    Calls Tryd.prog 7 #[.slice a ps.length c] w fun e w' => e = .returned (.bool (decide (ps.length ≤ 80))) ∧ w' = w := by
  by_cases h : ps.length ≤ 80
  · have h1 : (ps.length : Int) ≤ 80 := by omega
    simp only [h, decide_true]
    go_enter Tryd.func7, Tryd.ntmps7
    go_wp2_with fail
    go_ret
    exact ⟨rfl, rfl⟩
  · have h2 : decide ((ps.length : Int) ≤ 80) = false := by simp; omega
    simp only [h, decide_false]
    go_enter Tryd.func7, Tryd.ntmps7
    go_wp2_with fail
    go_ret
    exact ⟨rfl, rfl⟩

set_option maxHeartbeats 1000000 in
theorem lives_any {w : World} (hE : Env w) : Calls Tryd.prog 8 #[] w fun e w' => e = .returned (.bool true) ∧ Below w.heap.size w w' := by
  have hp : PV (w.alloc (.cells #[.int .i64 1, .int .i64 0, .int .i64 5, .int .i64 0, .int .i64 8, .int .i64 0, .int .i64 1, .int .i64 0, .int .i64 11, .int .i64 0, .int .i64 0, .int .i64 0] 49)) (some ⟨w.heap.size, 0, none⟩) liveP := by
    intro j hj
    refine ⟨_, _, rfl, ?_⟩
    match j, hj with
    | 0, _ => exact ⟨by simp [go_sem]; rfl, by simp [go_sem]; rfl, by simp [go_sem]; rfl, by simp [go_sem]; rfl⟩
    | 1, _ => exact ⟨by simp [go_sem]; rfl, by simp [go_sem]; rfl, by simp [go_sem]; rfl, by simp [go_sem]; rfl⟩
    | 2, _ => exact ⟨by simp [go_sem]; rfl, by simp [go_sem]; rfl, by simp [go_sem]; rfl, by simp [go_sem]; rfl⟩
  have hb : Below w.heap.size w (w.alloc (.cells #[.int .i64 1, .int .i64 0, .int .i64 5, .int .i64 0, .int .i64 8, .int .i64 0, .int .i64 1, .int .i64 0, .int .i64 11, .int .i64 0, .int .i64 0, .int .i64 0] 49)) := (Below.refl _ w).alloc (Nat.le_refl _) _
  have HP := print_any 3 hp (hE.on hb)
  rw [live_print] at HP
  have HW : ∀ W, Below w.heap.size w W → PV W (some ⟨w.heap.size, 0, none⟩) liveP → Calls Tryd.prog 17 #[.slice (some ⟨w.heap.size, 0, none⟩) 3 3] W fun e w' => e = .returned (.bool true) ∧ Below W.heap.size W w' := fun W hW hpW => by
    have := whole_any 3 hpW (hE.on hW).tab
    rw [live_whole] at this
    exact this
  change Calls Tryd.prog 27 #[.slice (some ⟨w.heap.size, 0, none⟩) 3 3] _ _ at HP
  go_enter Tryd.func8, Tryd.ntmps8
  go_wp2_with (first
    | (go_at_call 27; (with_reducible refine HP.mono ?_); rintro e w1 ⟨rfl, hb1⟩; have HW1 := HW w1 (hb.trans (hb1.mono hb.size)) (hp.below hb1))
    | (go_at_call 17; (with_reducible refine HW1.mono ?_); rintro e w2 ⟨rfl, hb2⟩))
  go_ret
  have hb3 := hb.trans (hb1.mono hb.size)
  exact ⟨rfl, hb3.trans (hb2.mono hb3.size)⟩

end Go.Proofs.YtbcdjpafdmgbmaaDoor
