/- Small functions: Up, may, wrong, made, New, Len; whether all of a row may be; ask. -/
import Derived.Test.YtcffmdimfmpheaaDoorMlMem
import Derived.Test.YtcffmdimfmpheaaDoorKGood
import Derived.Test.YtcffmdimfmpheaaDoorRGd
import Derived.Test.YtcffmdimfmpheaaDoorEBat
namespace Go.Proofs.YtcffmdimfmpheaaDoor
open Go Go.RowKit

theorem up_any (k : Int) (w : World) : Calls Tryd.prog 54 #[.int .i64 k] w fun e w' => e = .returned (.bool (upB k)) ∧ w' = w := by
  unfold upB
  by_cases h1 : 1 ≤ k
  · by_cases h2 : k ≤ 4
    · simp only [h1, h2, decide_true, Bool.and_self]
      go_enter Tryd.func54, Tryd.ntmps54
      go_wp2_with fail
      go_ret
      exact ⟨rfl, rfl⟩
    · simp only [h1, h2, decide_true, decide_false, Bool.and_false]
      go_enter Tryd.func54, Tryd.ntmps54
      go_wp2_with fail
      go_ret
      exact ⟨rfl, rfl⟩
  · simp only [h1, decide_false, Bool.false_and]
    go_enter Tryd.func54, Tryd.ntmps54
    go_wp2_with fail
    go_ret
    exact ⟨rfl, rfl⟩
theorem rup_any (k : Int) (w : World) : Calls Tryd.prog 52 #[.int .i64 k] w fun e w' => e = .returned (.bool (upB k)) ∧ w' = w := by
  unfold upB
  by_cases h1 : 1 ≤ k
  · by_cases h2 : k ≤ 4
    · simp only [h1, h2, decide_true, Bool.and_self]
      go_enter Tryd.func52, Tryd.ntmps52
      go_wp2_with fail
      go_ret
      exact ⟨rfl, rfl⟩
    · simp only [h1, h2, decide_true, decide_false, Bool.and_false]
      go_enter Tryd.func52, Tryd.ntmps52
      go_wp2_with fail
      go_ret
      exact ⟨rfl, rfl⟩
  · simp only [h1, decide_false, Bool.false_and]
    go_enter Tryd.func52, Tryd.ntmps52
    go_wp2_with fail
    go_ret
    exact ⟨rfl, rfl⟩
set_option maxHeartbeats 1000000 in
set_option maxRecDepth 100000 in
theorem wrong_any (e : Ev) (w : World) (hT : Tab w) : Calls Tryd.prog 45 #[.agg (evA e)] w fun r w' => r = .returned (.bool (!mayE e)) ∧ Below w.heap.size w w' := by
  have ba : Below w.heap.size w (w.alloc (.cells (evA e) 33)) := (Below.refl _ w).alloc (Nat.le_refl _) _
  have G := good_any e (w.alloc (.cells (evA e) 33)) (hT.alloc _)
  have HU := up_any e.kd
  have HK : ∀ W, Below (w.alloc (.cells (evA e) 33)).heap.size (w.alloc (.cells (evA e) 33)) W → W.cell? ⟨w.heap.size, 0, none⟩ = some (.int .i64 e.kd) := fun W b => cell_on b ((Cel.new w (evA e) 33).cell (j := 0) rfl)
  unfold mayE
  generalize goodE e = x at *
  generalize upB e.kd = y at *
  unfold evA at G HK ba ⊢
  cases x with
  | false =>
    simp only [Bool.false_and, Bool.not_false]
    clear HU HK
    go_enter Tryd.func45, Tryd.ntmps45
    go_wp2_with (go_at_call 53; (with_reducible refine G.mono ?_); rintro r w1 ⟨rfl, b1⟩)
    go_ret
    exact ⟨rfl, below2 ba ba.size b1⟩
  | true =>
    simp only [Bool.true_and]
    go_enter Tryd.func45, Tryd.ntmps45
    go_wp2_with (first | (go_at_call 53; (with_reducible refine G.mono ?_); rintro r w1 ⟨rfl, b1⟩; have c0 := HK _ b1) | (go_at_call 54; (with_reducible refine (HU _).mono ?_); rintro r w' ⟨rfl, hw⟩; subst w'))
    go_ret
    exact ⟨rfl, below2 ba ba.size b1⟩
set_option maxHeartbeats 1000000 in
set_option maxRecDepth 100000 in
theorem rmay_any (e : Ev) (w : World) : Calls Tryd.prog 39 #[.agg (evA e)] w fun r w' => r = .returned (.bool (mayE e)) ∧ Below w.heap.size w w' := by
  have ba : Below w.heap.size w (w.alloc (.cells (evA e) 33)) := (Below.refl _ w).alloc (Nat.le_refl _) _
  have G := rgood_any e (w.alloc (.cells (evA e) 33))
  have HU := rup_any e.kd
  have HK : ∀ W, Below (w.alloc (.cells (evA e) 33)).heap.size (w.alloc (.cells (evA e) 33)) W → W.cell? ⟨w.heap.size, 0, none⟩ = some (.int .i64 e.kd) := fun W b => cell_on b ((Cel.new w (evA e) 33).cell (j := 0) rfl)
  unfold mayE
  generalize goodE e = x at *
  generalize upB e.kd = y at *
  unfold evA at G HK ba ⊢
  cases x with
  | false =>
    simp only [Bool.false_and]
    clear HU HK
    go_enter Tryd.func39, Tryd.ntmps39
    go_wp2_with (go_at_call 51; (with_reducible refine G.mono ?_); rintro r w1 ⟨rfl, b1⟩)
    go_ret
    exact ⟨rfl, below2 ba ba.size b1⟩
  | true =>
    simp only [Bool.true_and]
    go_enter Tryd.func39, Tryd.ntmps39
    go_wp2_with (first | (go_at_call 51; (with_reducible refine G.mono ?_); rintro r w1 ⟨rfl, b1⟩; have c0 := HK _ b1) | (go_at_call 52; (with_reducible refine (HU _).mono ?_); rintro r w' ⟨rfl, hw⟩; subst w'))
    go_ret
    exact ⟨rfl, below2 ba ba.size b1⟩

/-- Whether there is such a number of places. -/
def inN (a : Int) : Bool := decide (1 ≤ a ∧ a ≤ 1024)
theorem new_none (a : Int) (hm : inN a = false) (w : World) :
    Calls Tryd.prog 9 #[.int .i64 a] w fun e w' => e = .returned (.pointer none) ∧ w' = w := by
  unfold inN at hm
  simp at hm
  by_cases h1 : a < 1
  · go_enter Tryd.func9, Tryd.ntmps9
    go_wp2_with fail
    go_ret
    exact ⟨rfl, rfl⟩
  · have h2 : 1024 < a := by omega
    go_enter Tryd.func9, Tryd.ntmps9
    go_wp2_with fail
    go_ret
    exact ⟨rfl, rfl⟩
theorem bks_new {w : World} {v : Value} (hv : v.ownBlock = none) : ∀ x ∈ bks w.heap.size v, x ∈ ([] : List Nat) ∨ w.heap.size ≤ x := fun x hx => by
  rcases bks_out hx with rfl | hx
  · exact .inr (Nat.le_refl _)
  · rw [hv] at hx
    cases hx
theorem new_some (N : Nat) (h1 : 1 ≤ N) (h2 : N ≤ 1024) (w : World) :
    Calls Tryd.prog 9 #[.int .i64 N] w fun e w' => ∃ B T, e = .returned (.pointer (some ⟨B, 0, none⟩)) ∧ BQ w' B T N [] ∧ Step [] w T w' := by
  have a1 : (1 : Int) ≤ (N : Int) := by omega
  have a2 : (N : Int) ≤ 1024 := by omega
  go_enter Tryd.func9, Tryd.ntmps9
  go_wp2_with fail
  go_ret
  exact ⟨w.heap.size, _, rfl, ⟨.slice none 0 0, rfl, ⟨World.alloc_heap_new w _, OwE.nil _ _, (fun e => by cases e), h1, h2⟩, by simp⟩, (But.refl [] w).alloc _, bks_new rfl⟩
theorem rnew_none (a : Int) (hm : inN a = false) (w : World) :
    Calls Tryd.prog 10 #[.int .i64 a] w fun e w' => e = .returned (.pointer none) ∧ w' = w := by
  unfold inN at hm
  simp at hm
  by_cases h1 : a < 1
  · go_enter Tryd.func10, Tryd.ntmps10
    go_wp2_with fail
    go_ret
    exact ⟨rfl, rfl⟩
  · have h2 : 1024 < a := by omega
    go_enter Tryd.func10, Tryd.ntmps10
    go_wp2_with fail
    go_ret
    exact ⟨rfl, rfl⟩
theorem rnew_some (N : Nat) (h1 : 1 ≤ N) (h2 : N ≤ 1024) (w : World) :
    Calls Tryd.prog 10 #[.int .i64 N] w fun e w' => ∃ M R, e = .returned (.pointer (some ⟨M, 0, none⟩)) ∧ RQ w' M R N [] ∧ Step [] w R w' := by
  have a1 : (1 : Int) ≤ (N : Int) := by omega
  have a2 : (N : Int) ≤ 1024 := by omega
  go_enter Tryd.func10, Tryd.ntmps10
  go_wp2_with fail
  go_ret
  exact ⟨w.heap.size, _, rfl, ⟨.slice none 0 0, rfl, ⟨World.alloc_heap_new w _, OwE.nil _ _, (fun e => by cases e)⟩⟩, (But.refl [] w).alloc _, bks_new rfl⟩

theorem made_any {w : World} {B N : Nat} {v : Value} {xs : List Ev} (h : BM w B N v xs) :
    Calls Tryd.prog 29 #[.pointer (some ⟨B, 0, none⟩)] w fun e w' => e = .returned (.bool true) ∧ w' = w := by
  have c1 := h.c1
  have h1 : 0 < N := h.n1
  go_enter Tryd.func29, Tryd.ntmps29
  go_wp2_with fail
  go_ret
  exact ⟨rfl, rfl⟩
/-- No call made it. -/
def UM (w : World) (p : Option Addr) : Prop := p = none ∨ ∃ Z, p = some ⟨Z, 0, none⟩ ∧ w.cell? ⟨Z, 1, none⟩ = some (.int .i64 0)
theorem UM.below {w w' : World} {p : Option Addr} (h : UM w p) (hb : Below w.heap.size w w') : UM w' p := h.imp id (fun ⟨Z, e, hc⟩ => ⟨Z, e, cell_on hb hc⟩)
theorem made_no {w : World} {p : Option Addr} (h : UM w p) : Calls Tryd.prog 29 #[.pointer p] w fun e w' => e = .returned (.bool false) ∧ w' = w := by
  rcases h with rfl | ⟨Z, rfl, c1⟩
  · go_enter Tryd.func29, Tryd.ntmps29
    go_wp2_with fail
    go_ret
    exact ⟨rfl, rfl⟩
  · go_enter Tryd.func29, Tryd.ntmps29
    go_wp2_with fail
    go_ret
    exact ⟨rfl, rfl⟩

/-- The place of the first one that may not be; -1: there is none. -/
def WIdx (xs : List Ev) (z : Int) : Prop := (z = -1 ∧ ∀ i, i < xs.length → mayE (ev xs i) = true) ∨ ∃ j : Nat, z = (j : Int) ∧ j < xs.length ∧ mayE (ev xs j) = false
set_option maxHeartbeats 1000000 in
set_option maxRecDepth 100000 in
theorem widx_any {w : World} {c : Nat} {a : Option Addr} {xs : List Ev} (hx : EV w a xs) (hT : Tab w) (hn : xs.length ≤ maxLen) :
    Calls Tryd.prog 46 #[.slice a xs.length c, .func (.func 45) #[] #[]] w fun e w' => ∃ z, e = .returned (.int .i64 z) ∧ WIdx xs z ∧ Below w.heap.size w w' := by
  go_enter Tryd.func46, Tryd.ntmps46
  go_wp2_with fail
  go_loopw [8, 5] (fun v _ wr => ∃ j : Nat, j ≤ xs.length ∧ v = .int .i64 j ∧ (∀ i, i < j → mayE (ev xs i) = true) ∧ Below w.heap.size w wr) (fun v _ _ => maxLen - (intOf v).toNat)
  case atStart => exact ⟨0, Nat.zero_le _, rfl, fun i hi => by omega, Below.refl _ _⟩
  case round =>
    obtain ⟨j, hj, rfl, hall, hb⟩ := hrel
    by_cases hlt : j < xs.length
    · obtain ⟨b, o, rfl, hc⟩ := hx.below hb j hlt
      obtain ⟨c0, c1, c2, c3, c4, c5, c6, c7, c8, c9, c10, c11, c12, c13, c14⟩ := hc.cells
      have hlt' : (j : Int) < (xs.length : Int) := by omega
      have hw : IntKind.i64.wrap ((j : Int) + 1) = (j : Int) + 1 := by unfold maxLen at hn; rw [IntKind.wrap_i64] <;> omega
      have HALL : Hid (∀ i, i < j → mayE (ev xs i) = true) := hall
      have CL := wrong_any (ev xs j) wr (hT.on hb)
      unfold evA at CL
      clear hall hc
      cases hp : mayE (ev xs j) with
      | false =>
        rw [hp] at CL
        simp only [Bool.not_false] at CL
        have HE : Hid (mayE (ev xs j) = false) := hp
        clear hp
        generalize ev xs j = x at CL c0 c1 c2 c3 c4 c5 c6 c7 c8 c9 c10 c11 c12 c13 c14
        go_wp2_with (first | (go_at_call 45; (with_reducible refine CL.mono ?_); rintro e w1 ⟨rfl, b1⟩))
        go_ret
        exact ⟨_, rfl, .inr ⟨j, rfl, hlt, HE.out⟩, below2 hb hb.size b1⟩
      | true =>
        rw [hp] at CL
        simp only [Bool.not_true] at CL
        have HE : Hid (∀ i, i < j + 1 → mayE (ev xs i) = true) := fun i hi => by
          by_cases h : i = j
          · rw [h]; exact hp
          · exact HALL.out i (by omega)
        clear hp
        generalize ev xs j = x at CL c0 c1 c2 c3 c4 c5 c6 c7 c8 c9 c10 c11 c12 c13 c14
        go_wp2_with (first | (go_at_call 45; (with_reducible refine CL.mono ?_); rintro e w1 ⟨rfl, b1⟩))
        go_roundw
        case rel => exact ⟨j + 1, by omega, by simp, HE.out, below2 hb hb.size b1⟩
        case measure =>
          simp [intOf]
          omega
    · obtain rfl : j = xs.length := by omega
      have HALL : Hid (∀ i, i < xs.length → mayE (ev xs i) = true) := hall
      clear hall
      go_wp2_with fail
      go_ret
      exact ⟨_, rfl, .inl ⟨rfl, HALL.out⟩, hb⟩
theorem contains_any {w : World} {c : Nat} {a : Option Addr} {xs : List Ev} (hx : EV w a xs) (hT : Tab w) (hn : xs.length ≤ maxLen) :
    Calls Tryd.prog 44 #[.slice a xs.length c, .func (.func 45) #[] #[]] w fun e w' => e = .returned (.bool (!allM xs)) ∧ Below w.heap.size w w' := by
  have IX := widx_any (c := c) hx hT hn
  go_enter Tryd.func44, Tryd.ntmps44
  go_wp2_with (go_at_call 46; (with_reducible refine IX.mono ?_); rintro e w1 ⟨z, rfl, hz, b1⟩)
  all_goals
    go_ret
    refine ⟨?_, b1⟩
    rcases hz with ⟨rfl, h⟩ | ⟨j, rfl, hj, h⟩
    · rw [allM_all h]; rfl
    · rw [allM_at hj h]; simp
end Go.Proofs.YtcffmdimfmpheaaDoor
