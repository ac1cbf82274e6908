/- The statements' lives and light. -/
/- Programs as bytes, plain. -/
import Derived.Test.YtbcdjpafdmgbmaaGreatDoorJ13BackT
import Derived.Test.YtbcdjpafdmgbmaaGreatDoorJ12BackT
namespace Go.Proofs.YtbcdjpafdmgbmaaGreatDoor
open Go.RowKit

theorem it0 : Lib.itoa 0 = [48] := by unfold Lib.itoa; rw [if_neg (by decide)]; exact Lib.decDigits_one (by decide)
theorem it1 : Lib.itoa 1 = [49] := by unfold Lib.itoa; rw [if_neg (by decide)]; exact Lib.decDigits_one (by decide)
theorem it5 : Lib.itoa 5 = [53] := by unfold Lib.itoa; rw [if_neg (by decide)]; exact Lib.decDigits_one (by decide)
def liveP : List Ins := [(1, 0, 5, 0), (8, 0, 1, 0), (11, 0, 0, 0)]
theorem live_whole : wholeB liveP = true := by decide
theorem live_print : printA liveP = [115, 101, 116, 32, 48, 32, 53, 10, 108, 111, 111, 112, 32, 48, 32, 49, 10, 101, 120, 105, 116, 32, 48, 10] := by
  have u1 : usedL (1, 0, 5, 0) = [0, 5] := by decide
  have u2 : usedL (8, 0, 1, 0) = [0, 1] := by decide
  have u3 : usedL (11, 0, 0, 0) = [0] := by decide
  have n1 : nmL 1 = [115, 101, 116] := by decide
  have n2 : nmL 8 = [108, 111, 111, 112] := by decide
  have n3 : nmL 11 = [101, 120, 105, 116] := by decide
  unfold printA
  rw [live_whole]
  simp only [if_true, printL, liveP, List.flatMap_cons, List.flatMap_nil, printI, numsL, u1, u2, u3, n1, n2, n3, it0, it1, it5]
  rfl

theorem light_any {ps : List Ins} {a : Option Addr} (c : Nat) (w : World) :
    Calls Tryz.prog 4 #[.slice a ps.length c] w fun e w' => e = .returned (.bool (decide (ps.length ≤ 80))) ∧ w' = w := by
  by_cases h : ps.length ≤ 80
  · have h1 : (ps.length : Int) ≤ 80 := by omega
    simp only [h, decide_true]
    go_enter Tryz.func4, Tryz.ntmps4
    go_wp2_with fail
    go_ret
    exact ⟨rfl, rfl⟩
  · have h2 : decide ((ps.length : Int) ≤ 80) = false := by simp; omega
    simp only [h, decide_false]
    go_enter Tryz.func4, Tryz.ntmps4
    go_wp2_with fail
    go_ret
    exact ⟨rfl, rfl⟩

set_option maxHeartbeats 1000000 in
theorem lives_any {w : World} (hE : Env w) : Calls Tryz.prog 5 #[] w fun e w' => e = .returned (.bool true) ∧ Below w.heap.size w w' := by
  have hp : PV (w.alloc (.cells #[.int .i64 1, .int .i64 0, .int .i64 5, .int .i64 0, .int .i64 8, .int .i64 0, .int .i64 1, .int .i64 0, .int .i64 11, .int .i64 0, .int .i64 0, .int .i64 0] 37)) (some ⟨w.heap.size, 0, none⟩) liveP := by
    intro j hj
    refine ⟨_, _, rfl, ?_⟩
    match j, hj with
    | 0, _ => exact ⟨by simp [go_sem]; rfl, by simp [go_sem]; rfl, by simp [go_sem]; rfl, by simp [go_sem]; rfl⟩
    | 1, _ => exact ⟨by simp [go_sem]; rfl, by simp [go_sem]; rfl, by simp [go_sem]; rfl, by simp [go_sem]; rfl⟩
    | 2, _ => exact ⟨by simp [go_sem]; rfl, by simp [go_sem]; rfl, by simp [go_sem]; rfl, by simp [go_sem]; rfl⟩
  have hb : Below w.heap.size w (w.alloc (.cells #[.int .i64 1, .int .i64 0, .int .i64 5, .int .i64 0, .int .i64 8, .int .i64 0, .int .i64 1, .int .i64 0, .int .i64 11, .int .i64 0, .int .i64 0, .int .i64 0] 37)) := (Below.refl _ w).alloc (Nat.le_refl _) _
  have HP := print_any 3 hp (hE.on hb)
  rw [live_print] at HP
  have HW : ∀ W, Below w.heap.size w W → PV W (some ⟨w.heap.size, 0, none⟩) liveP → Calls Tryz.prog 7 #[.slice (some ⟨w.heap.size, 0, none⟩) 3 3] W fun e w' => e = .returned (.bool true) ∧ Below W.heap.size W w' := fun W hW hpW => by
    have := whole_any 3 hpW (hE.on hW).tab
    rw [live_whole] at this
    exact this
  change Calls Tryz.prog 10 #[.slice (some ⟨w.heap.size, 0, none⟩) 3 3] _ _ at HP
  go_enter Tryz.func5, Tryz.ntmps5
  go_wp2_with (first
    | (go_at_call 10; (with_reducible refine HP.mono ?_); rintro e w1 ⟨rfl, hb1⟩; have HW1 := HW w1 (hb.trans (hb1.mono hb.size)) (hp.below hb1))
    | (go_at_call 7; (with_reducible refine HW1.mono ?_); rintro e w2 ⟨rfl, hb2⟩))
  go_ret
  have hb3 := hb.trans (hb1.mono hb.size)
  exact ⟨rfl, hb3.trans (hb2.mono hb3.size)⟩

end Go.Proofs.YtbcdjpafdmgbmaaGreatDoor
namespace Go.Proofs.YtbcdjpafdmgbmaaGreatDoor

/-- An instruction's bytes; a program's. -/
def bytesI (x : Ins) : List UInt8 := UInt8.ofNat x.1.toNat :: intsF (usedL x)
def bytesP (p : List Ins) : List UInt8 := p.flatMap bytesI
def bytesL (p : List Ins) : List UInt8 := numL p.length ++ bytesP p
/-- What is told of any program. -/
def bytesA (p : List Ins) : List UInt8 := if wholeB p then bytesL p else []

theorem bytesI_len (x : Ins) : (bytesI x).length ≤ 34 := by
  have h1 := intsF_len (usedL x)
  have h2 : (usedL x).length ≤ 3 := by unfold usedL; rw [List.length_map]; exact usQ_len _
  unfold bytesI
  rw [List.length_cons]
  omega
theorem bytesP_len : ∀ p : List Ins, (bytesP p).length ≤ 34 * p.length
  | [] => by simp [bytesP]
  | x :: p => by
    have h1 := bytesI_len x
    have h2 := bytesP_len p
    unfold bytesP at h2 ⊢
    simp only [List.flatMap_cons, List.length_append, List.length_cons]
    omega
theorem bytesL_len (p : List Ins) : (bytesL p).length ≤ 11 + 34 * p.length := by
  unfold bytesL
  rw [List.length_append]
  have := numL_len p.length
  have := bytesP_len p
  omega
theorem bytesP_snoc {ps : List Ins} {i : Nat} {x : Ins} (h : ps[i]? = some x) : bytesP (ps.take (i + 1)) = bytesP (ps.take i) ++ bytesI x := by
  unfold bytesP
  rw [List.take_add_one, h, List.flatMap_append]
  simp
/-- The first j numbers that are used, as bytes. -/
def intsJ (x : Ins) (j : Nat) : List UInt8 := intsF ((usedL x).take j)
theorem intsJ_zero (x : Ins) : intsJ x 0 = [] := by simp [intsJ, intsF]
theorem intsJ_all (x : Ins) : intsJ x (usQ x.1).length = intsF (usedL x) := by
  unfold intsJ
  rw [List.take_of_length_le (by unfold usedL; rw [List.length_map]; exact Nat.le_refl _)]
theorem used_get {x : Ins} {j k : Nat} (h : (usQ x.1)[j]? = some k) : (usedL x)[j]? = some (nk x k) := by
  unfold usedL
  rw [List.getElem?_map, h]
  rfl
theorem intsJ_succ {x : Ins} {j k : Nat} (h : (usQ x.1)[j]? = some k) : intsJ x (j + 1) = intsJ x j ++ numL (zigN (nk x k)) := by
  unfold intsJ
  rw [List.take_add_one, used_get h, intsF_app]
  simp [intsF]
theorem intsJ_len (x : Ins) (j : Nat) : (intsJ x j).length ≤ 33 := by
  have h1 := intsF_len ((usedL x).take j)
  have h2 : ((usedL x).take j).length ≤ 3 := by
    rw [List.length_take]
    have : (usedL x).length ≤ 3 := by unfold usedL; rw [List.length_map]; exact usQ_len _
    omega
  unfold intsJ
  omega

end Go.Proofs.YtbcdjpafdmgbmaaGreatDoor
