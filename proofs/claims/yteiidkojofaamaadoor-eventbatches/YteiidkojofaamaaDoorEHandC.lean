/- An event's numbers are handed to the closure that puts them: kinds 6, 7. -/
import Derived.Test.YteiidkojofaamaaDoorEHandH
namespace Go.Proofs.YteiidkojofaamaaDoor
open Go Go.RowKit

set_option maxHeartbeats 2000000 in
set_option maxRecDepth 100000 in
theorem hand_put6 {lo : Nat} {w : World} {E X : Nat} {e : Ev} {l : List UInt8} (h : PS lo w E X e l) (he : e.kd = 6) (ha : 0 ≤ e.ac ∧ e.ac ≤ 1099511627776) (hlo : lo ≤ w.heap.size) (hbs : l.length ≤ 600000) :
    Calls Tryd.prog 34 #[.pointer (some ⟨E, 0, none⟩), .func (.func 35) #[] #[.pointer (some ⟨X, 0, none⟩)]] w fun r w' => r = .returned (.tuple #[]) ∧ PS lo w' E X e (l ++ handL e) ∧ But [X] w w' := by
  have e0 : w.cell? ⟨E, 0, none⟩ = some (.int .i64 6) := by have := h.ev.cell (j := 0) (v := .int .i64 e.kd) rfl; rwa [he] at this
  have R := h.tab.row 6 (by decide)
  have t0 : w.cell? ⟨0, 48, none⟩ = some (.string ⟨#[105, 100, 108, 101]⟩) := R 0 _ rfl
  have t1 : w.cell? ⟨0, 49, none⟩ = some (.int .i64 1) := R 1 _ rfl
  have t2 : w.cell? ⟨0, 50, none⟩ = some (.int .i64 1099511627776) := R 2 _ rfl
  have t3 : w.cell? ⟨0, 51, none⟩ = some (.int .i64 0) := R 3 _ rfl
  have t4 : w.cell? ⟨0, 52, none⟩ = some (.int .i64 0) := R 4 _ rfl
  have t5 : w.cell? ⟨0, 53, none⟩ = some (.int .i64 0) := R 5 _ rfl
  have t6 : w.cell? ⟨0, 54, none⟩ = some (.int .i64 0) := R 6 _ rfl
  have t7 : w.cell? ⟨0, 55, none⟩ = some (.bool false) := R 7 _ rfl
  have HK : ∀ W : World, Calls Tryd.prog 28 #[.int .i64 6] W fun r w' => r = .returned (.bool true) ∧ w' = W := iskind_any 6
  have B0 : Below w.heap.size w (w.alloc (.cells #[.string ⟨#[105, 100, 108, 101]⟩, .int .i64 1, .int .i64 1099511627776, .int .i64 0, .int .i64 0, .int .i64 0, .int .i64 0, .bool false] 55)) := (Below.refl _ w).alloc (Nat.le_refl _) _
  have P0 := h.below B0
  have hX := h.bx.lt
  have R0 : Cel (w.alloc (.cells #[.string ⟨#[105, 100, 108, 101]⟩, .int .i64 1, .int .i64 1099511627776, .int .i64 0, .int .i64 0, .int .i64 0, .int .i64 0, .bool false] 55)) w.heap.size #[.string ⟨#[105, 100, 108, 101]⟩, .int .i64 1, .int .i64 1099511627776, .int .i64 0, .int .i64 0, .int .i64 0, .int .i64 0, .bool false] 55 := Cel.new w _ 55
  have C0 := put_one P0 (i := 1) rfl ha (by simp; omega) (by omega)
  rw [show (w.alloc (.cells #[.string ⟨#[105, 100, 108, 101]⟩, .int .i64 1, .int .i64 1099511627776, .int .i64 0, .int .i64 0, .int .i64 0, .int .i64 0, .bool false] 55)).heap.size = w.heap.size + 1 by simp] at C0
  have HQ : Hid (l ++ numI e.ac = l ++ handL e) := by
    refine Hid.mk ?_
    unfold handL thL vaL headL thrB valB
    rw [he]
    simp
  have n0 := numI_len e.ac
  clear h R he
  go_enter Tryd.func34, Tryd.ntmps34
  go_wp2_with (first | (go_at_call 28; (with_reducible refine (HK _).mono ?_); rintro r w' ⟨rfl, hw⟩; subst w') | (go_at_call 35; first | ((with_reducible refine C0.mono ?_); rintro r w1 ⟨rfl, P1, b1⟩; have R1 := R0.but b1 (by simp; omega); have s1 := b1.size; have g14 := R1.cell (j := 4) rfl; have g16 := R1.cell (j := 6) rfl; have g17 := R1.cell (j := 7) rfl)))
  go_end0
  exact ⟨rfl, by rw [← HQ.out]; exact P1, ((But.of_below B0).trans b1)⟩
set_option maxHeartbeats 2000000 in
set_option maxRecDepth 100000 in
theorem hand_put7 {lo : Nat} {w : World} {E X : Nat} {e : Ev} {l : List UInt8} (h : PS lo w E X e l) (he : e.kd = 7) (ha : 0 ≤ e.ac ∧ e.ac ≤ 1099511627776) (hlo : lo ≤ w.heap.size) (hbs : l.length ≤ 600000) :
    Calls Tryd.prog 34 #[.pointer (some ⟨E, 0, none⟩), .func (.func 35) #[] #[.pointer (some ⟨X, 0, none⟩)]] w fun r w' => r = .returned (.tuple #[]) ∧ PS lo w' E X e (l ++ handL e) ∧ But [X] w w' := by
  have e0 : w.cell? ⟨E, 0, none⟩ = some (.int .i64 7) := by have := h.ev.cell (j := 0) (v := .int .i64 e.kd) rfl; rwa [he] at this
  have R := h.tab.row 7 (by decide)
  have t0 : w.cell? ⟨0, 56, none⟩ = some (.string ⟨#[114, 101, 99, 121, 99, 108, 101]⟩) := R 0 _ rfl
  have t1 : w.cell? ⟨0, 57, none⟩ = some (.int .i64 1) := R 1 _ rfl
  have t2 : w.cell? ⟨0, 58, none⟩ = some (.int .i64 1099511627776) := R 2 _ rfl
  have t3 : w.cell? ⟨0, 59, none⟩ = some (.int .i64 0) := R 3 _ rfl
  have t4 : w.cell? ⟨0, 60, none⟩ = some (.int .i64 0) := R 4 _ rfl
  have t5 : w.cell? ⟨0, 61, none⟩ = some (.int .i64 0) := R 5 _ rfl
  have t6 : w.cell? ⟨0, 62, none⟩ = some (.int .i64 0) := R 6 _ rfl
  have t7 : w.cell? ⟨0, 63, none⟩ = some (.bool false) := R 7 _ rfl
  have HK : ∀ W : World, Calls Tryd.prog 28 #[.int .i64 7] W fun r w' => r = .returned (.bool true) ∧ w' = W := iskind_any 7
  have B0 : Below w.heap.size w (w.alloc (.cells #[.string ⟨#[114, 101, 99, 121, 99, 108, 101]⟩, .int .i64 1, .int .i64 1099511627776, .int .i64 0, .int .i64 0, .int .i64 0, .int .i64 0, .bool false] 55)) := (Below.refl _ w).alloc (Nat.le_refl _) _
  have P0 := h.below B0
  have hX := h.bx.lt
  have R0 : Cel (w.alloc (.cells #[.string ⟨#[114, 101, 99, 121, 99, 108, 101]⟩, .int .i64 1, .int .i64 1099511627776, .int .i64 0, .int .i64 0, .int .i64 0, .int .i64 0, .bool false] 55)) w.heap.size #[.string ⟨#[114, 101, 99, 121, 99, 108, 101]⟩, .int .i64 1, .int .i64 1099511627776, .int .i64 0, .int .i64 0, .int .i64 0, .int .i64 0, .bool false] 55 := Cel.new w _ 55
  have C0 := put_one P0 (i := 1) rfl ha (by simp; omega) (by omega)
  rw [show (w.alloc (.cells #[.string ⟨#[114, 101, 99, 121, 99, 108, 101]⟩, .int .i64 1, .int .i64 1099511627776, .int .i64 0, .int .i64 0, .int .i64 0, .int .i64 0, .bool false] 55)).heap.size = w.heap.size + 1 by simp] at C0
  have HQ : Hid (l ++ numI e.ac = l ++ handL e) := by
    refine Hid.mk ?_
    unfold handL thL vaL headL thrB valB
    rw [he]
    simp
  have n0 := numI_len e.ac
  clear h R he
  go_enter Tryd.func34, Tryd.ntmps34
  go_wp2_with (first | (go_at_call 28; (with_reducible refine (HK _).mono ?_); rintro r w' ⟨rfl, hw⟩; subst w') | (go_at_call 35; first | ((with_reducible refine C0.mono ?_); rintro r w1 ⟨rfl, P1, b1⟩; have R1 := R0.but b1 (by simp; omega); have s1 := b1.size; have g14 := R1.cell (j := 4) rfl; have g16 := R1.cell (j := 6) rfl; have g17 := R1.cell (j := 7) rfl)))
  go_end0
  exact ⟨rfl, by rw [← HQ.out]; exact P1, ((But.of_below B0).trans b1)⟩
end Go.Proofs.YteiidkojofaamaaDoor
