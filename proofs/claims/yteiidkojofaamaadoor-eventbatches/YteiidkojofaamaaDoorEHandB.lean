/- An event's numbers are handed to the closure that puts them: kinds 3, 4, 5. -/
import Derived.Test.YteiidkojofaamaaDoorEHandH
namespace Go.Proofs.YteiidkojofaamaaDoor
open Go Go.RowKit

set_option maxHeartbeats 2000000 in
set_option maxRecDepth 100000 in
theorem hand_put3 {lo : Nat} {w : World} {E X : Nat} {e : Ev} {l : List UInt8} (h : PS lo w E X e l) (he : e.kd = 3) (ha : 0 ≤ e.ac ∧ e.ac ≤ 1099511627776) (ht : 0 ≤ e.th ∧ e.th ≤ 1099511627776) (hlo : lo ≤ w.heap.size) (hbs : l.length ≤ 600000) :
    Calls Tryd.prog 34 #[.pointer (some ⟨E, 0, none⟩), .func (.func 35) #[] #[.pointer (some ⟨X, 0, none⟩)]] w fun r w' => r = .returned (.tuple #[]) ∧ PS lo w' E X e (l ++ handL e) ∧ But [X] w w' := by
  have e0 : w.cell? ⟨E, 0, none⟩ = some (.int .i64 3) := by have := h.ev.cell (j := 0) (v := .int .i64 e.kd) rfl; rwa [he] at this
  have R := h.tab.row 3 (by decide)
  have t0 : w.cell? ⟨0, 24, none⟩ = some (.string ⟨#[98, 108, 111, 99, 107, 101, 100]⟩) := R 0 _ rfl
  have t1 : w.cell? ⟨0, 25, none⟩ = some (.int .i64 1) := R 1 _ rfl
  have t2 : w.cell? ⟨0, 26, none⟩ = some (.int .i64 1099511627776) := R 2 _ rfl
  have t3 : w.cell? ⟨0, 27, none⟩ = some (.int .i64 1) := R 3 _ rfl
  have t4 : w.cell? ⟨0, 28, none⟩ = some (.int .i64 1099511627776) := R 4 _ rfl
  have t5 : w.cell? ⟨0, 29, none⟩ = some (.int .i64 0) := R 5 _ rfl
  have t6 : w.cell? ⟨0, 30, none⟩ = some (.int .i64 0) := R 6 _ rfl
  have t7 : w.cell? ⟨0, 31, none⟩ = some (.bool false) := R 7 _ rfl
  have HK : ∀ W : World, Calls Tryd.prog 28 #[.int .i64 3] W fun r w' => r = .returned (.bool true) ∧ w' = W := iskind_any 3
  have B0 : Below w.heap.size w (w.alloc (.cells #[.string ⟨#[98, 108, 111, 99, 107, 101, 100]⟩, .int .i64 1, .int .i64 1099511627776, .int .i64 1, .int .i64 1099511627776, .int .i64 0, .int .i64 0, .bool false] 55)) := (Below.refl _ w).alloc (Nat.le_refl _) _
  have P0 := h.below B0
  have hX := h.bx.lt
  have R0 : Cel (w.alloc (.cells #[.string ⟨#[98, 108, 111, 99, 107, 101, 100]⟩, .int .i64 1, .int .i64 1099511627776, .int .i64 1, .int .i64 1099511627776, .int .i64 0, .int .i64 0, .bool false] 55)) w.heap.size #[.string ⟨#[98, 108, 111, 99, 107, 101, 100]⟩, .int .i64 1, .int .i64 1099511627776, .int .i64 1, .int .i64 1099511627776, .int .i64 0, .int .i64 0, .bool false] 55 := Cel.new w _ 55
  have C0 := put_one P0 (i := 1) rfl ha (by simp; omega) (by omega)
  rw [show (w.alloc (.cells #[.string ⟨#[98, 108, 111, 99, 107, 101, 100]⟩, .int .i64 1, .int .i64 1099511627776, .int .i64 1, .int .i64 1099511627776, .int .i64 0, .int .i64 0, .bool false] 55)).heap.size = w.heap.size + 1 by simp] at C0
  have HQ : Hid (l ++ numI e.ac ++ numI e.th = l ++ handL e) := by
    refine Hid.mk ?_
    unfold handL thL vaL headL thrB valB
    rw [he]
    simp [List.append_assoc]
  have n0 := numI_len e.ac
  have n1 := numI_len e.th
  clear h R he
  go_enter Tryd.func34, Tryd.ntmps34
  go_wp2_with (first | (go_at_call 28; (with_reducible refine (HK _).mono ?_); rintro r w' ⟨rfl, hw⟩; subst w') | (go_at_call 35; first | ((with_reducible refine C0.mono ?_); rintro r w1 ⟨rfl, P1, b1⟩; have R1 := R0.but b1 (by simp; omega); have s1 := b1.size; have g14 := R1.cell (j := 4) rfl; have g16 := R1.cell (j := 6) rfl; have g17 := R1.cell (j := 7) rfl; have C1 := put_one P1 (i := 2) rfl ht (by simp at *; omega) (by simp; omega)) | ((with_reducible refine C1.mono ?_); rintro r w2 ⟨rfl, P2, b2⟩; have R2 := R1.but b2 (by simp; omega); have s2 := b2.size; have g24 := R2.cell (j := 4) rfl; have g26 := R2.cell (j := 6) rfl; have g27 := R2.cell (j := 7) rfl)))
  go_end0
  exact ⟨rfl, by rw [← HQ.out]; exact P2, (((But.of_below B0).trans b1).trans b2)⟩
set_option maxHeartbeats 2000000 in
set_option maxRecDepth 100000 in
theorem hand_put4 {lo : Nat} {w : World} {E X : Nat} {e : Ev} {l : List UInt8} (h : PS lo w E X e l) (he : e.kd = 4) (ha : 0 ≤ e.ac ∧ e.ac ≤ 1099511627776) (ht : 0 ≤ e.th ∧ e.th ≤ 1099511627776) (hv : 0 ≤ e.va ∧ e.va ≤ 1099511627776) (hlo : lo ≤ w.heap.size) (hbs : l.length ≤ 600000) :
    Calls Tryd.prog 34 #[.pointer (some ⟨E, 0, none⟩), .func (.func 35) #[] #[.pointer (some ⟨X, 0, none⟩)]] w fun r w' => r = .returned (.tuple #[]) ∧ PS lo w' E X e (l ++ handL e) ∧ But [X] w w' := by
  have e0 : w.cell? ⟨E, 0, none⟩ = some (.int .i64 4) := by have := h.ev.cell (j := 0) (v := .int .i64 e.kd) rfl; rwa [he] at this
  have R := h.tab.row 4 (by decide)
  have t0 : w.cell? ⟨0, 32, none⟩ = some (.string ⟨#[117, 110, 98, 108, 111, 99, 107, 101, 100]⟩) := R 0 _ rfl
  have t1 : w.cell? ⟨0, 33, none⟩ = some (.int .i64 1) := R 1 _ rfl
  have t2 : w.cell? ⟨0, 34, none⟩ = some (.int .i64 1099511627776) := R 2 _ rfl
  have t3 : w.cell? ⟨0, 35, none⟩ = some (.int .i64 1) := R 3 _ rfl
  have t4 : w.cell? ⟨0, 36, none⟩ = some (.int .i64 1099511627776) := R 4 _ rfl
  have t5 : w.cell? ⟨0, 37, none⟩ = some (.int .i64 0) := R 5 _ rfl
  have t6 : w.cell? ⟨0, 38, none⟩ = some (.int .i64 1000) := R 6 _ rfl
  have t7 : w.cell? ⟨0, 39, none⟩ = some (.bool false) := R 7 _ rfl
  have HK : ∀ W : World, Calls Tryd.prog 28 #[.int .i64 4] W fun r w' => r = .returned (.bool true) ∧ w' = W := iskind_any 4
  have B0 : Below w.heap.size w (w.alloc (.cells #[.string ⟨#[117, 110, 98, 108, 111, 99, 107, 101, 100]⟩, .int .i64 1, .int .i64 1099511627776, .int .i64 1, .int .i64 1099511627776, .int .i64 0, .int .i64 1000, .bool false] 55)) := (Below.refl _ w).alloc (Nat.le_refl _) _
  have P0 := h.below B0
  have hX := h.bx.lt
  have R0 : Cel (w.alloc (.cells #[.string ⟨#[117, 110, 98, 108, 111, 99, 107, 101, 100]⟩, .int .i64 1, .int .i64 1099511627776, .int .i64 1, .int .i64 1099511627776, .int .i64 0, .int .i64 1000, .bool false] 55)) w.heap.size #[.string ⟨#[117, 110, 98, 108, 111, 99, 107, 101, 100]⟩, .int .i64 1, .int .i64 1099511627776, .int .i64 1, .int .i64 1099511627776, .int .i64 0, .int .i64 1000, .bool false] 55 := Cel.new w _ 55
  have C0 := put_one P0 (i := 1) rfl ha (by simp; omega) (by omega)
  rw [show (w.alloc (.cells #[.string ⟨#[117, 110, 98, 108, 111, 99, 107, 101, 100]⟩, .int .i64 1, .int .i64 1099511627776, .int .i64 1, .int .i64 1099511627776, .int .i64 0, .int .i64 1000, .bool false] 55)).heap.size = w.heap.size + 1 by simp] at C0
  have HQ : Hid (l ++ numI e.ac ++ numI e.th ++ numI e.va = l ++ handL e) := by
    refine Hid.mk ?_
    unfold handL thL vaL headL thrB valB
    rw [he]
    simp [List.append_assoc]
  have n0 := numI_len e.ac
  have n1 := numI_len e.th
  have n2 := numI_len e.va
  clear h R he
  go_enter Tryd.func34, Tryd.ntmps34
  go_wp2_with (first | (go_at_call 28; (with_reducible refine (HK _).mono ?_); rintro r w' ⟨rfl, hw⟩; subst w') | (go_at_call 35; first | ((with_reducible refine C0.mono ?_); rintro r w1 ⟨rfl, P1, b1⟩; have R1 := R0.but b1 (by simp; omega); have s1 := b1.size; have g14 := R1.cell (j := 4) rfl; have g16 := R1.cell (j := 6) rfl; have g17 := R1.cell (j := 7) rfl; have C1 := put_one P1 (i := 2) rfl ht (by simp at *; omega) (by simp; omega)) | ((with_reducible refine C1.mono ?_); rintro r w2 ⟨rfl, P2, b2⟩; have R2 := R1.but b2 (by simp; omega); have s2 := b2.size; have g24 := R2.cell (j := 4) rfl; have g26 := R2.cell (j := 6) rfl; have g27 := R2.cell (j := 7) rfl; have C2 := put_one P2 (i := 3) rfl hv (by simp at *; omega) (by simp; omega)) | ((with_reducible refine C2.mono ?_); rintro r w3 ⟨rfl, P3, b3⟩; have R3 := R2.but b3 (by simp; omega); have s3 := b3.size; have g34 := R3.cell (j := 4) rfl; have g36 := R3.cell (j := 6) rfl; have g37 := R3.cell (j := 7) rfl)))
  go_end0
  exact ⟨rfl, by rw [← HQ.out]; exact P3, ((((But.of_below B0).trans b1).trans b2).trans b3)⟩
set_option maxHeartbeats 2000000 in
set_option maxRecDepth 100000 in
theorem hand_put5 {lo : Nat} {w : World} {E X : Nat} {e : Ev} {l : List UInt8} (h : PS lo w E X e l) (he : e.kd = 5) (ha : 0 ≤ e.ac ∧ e.ac ≤ 1099511627776) (hv : 0 ≤ e.va ∧ e.va ≤ 1099511627776) (hlo : lo ≤ w.heap.size) (hbs : l.length ≤ 600000) :
    Calls Tryd.prog 34 #[.pointer (some ⟨E, 0, none⟩), .func (.func 35) #[] #[.pointer (some ⟨X, 0, none⟩)]] w fun r w' => r = .returned (.tuple #[]) ∧ PS lo w' E X e (l ++ handL e) ∧ But [X] w w' := by
  have e0 : w.cell? ⟨E, 0, none⟩ = some (.int .i64 5) := by have := h.ev.cell (j := 0) (v := .int .i64 e.kd) rfl; rwa [he] at this
  have R := h.tab.row 5 (by decide)
  have t0 : w.cell? ⟨0, 40, none⟩ = some (.string ⟨#[100, 101, 109, 97, 110, 100]⟩) := R 0 _ rfl
  have t1 : w.cell? ⟨0, 41, none⟩ = some (.int .i64 0) := R 1 _ rfl
  have t2 : w.cell? ⟨0, 42, none⟩ = some (.int .i64 0) := R 2 _ rfl
  have t3 : w.cell? ⟨0, 43, none⟩ = some (.int .i64 0) := R 3 _ rfl
  have t4 : w.cell? ⟨0, 44, none⟩ = some (.int .i64 0) := R 4 _ rfl
  have t5 : w.cell? ⟨0, 45, none⟩ = some (.int .i64 0) := R 5 _ rfl
  have t6 : w.cell? ⟨0, 46, none⟩ = some (.int .i64 1000) := R 6 _ rfl
  have t7 : w.cell? ⟨0, 47, none⟩ = some (.bool false) := R 7 _ rfl
  have HK : ∀ W : World, Calls Tryd.prog 28 #[.int .i64 5] W fun r w' => r = .returned (.bool true) ∧ w' = W := iskind_any 5
  have B0 : Below w.heap.size w (w.alloc (.cells #[.string ⟨#[100, 101, 109, 97, 110, 100]⟩, .int .i64 0, .int .i64 0, .int .i64 0, .int .i64 0, .int .i64 0, .int .i64 1000, .bool false] 55)) := (Below.refl _ w).alloc (Nat.le_refl _) _
  have P0 := h.below B0
  have hX := h.bx.lt
  have R0 : Cel (w.alloc (.cells #[.string ⟨#[100, 101, 109, 97, 110, 100]⟩, .int .i64 0, .int .i64 0, .int .i64 0, .int .i64 0, .int .i64 0, .int .i64 1000, .bool false] 55)) w.heap.size #[.string ⟨#[100, 101, 109, 97, 110, 100]⟩, .int .i64 0, .int .i64 0, .int .i64 0, .int .i64 0, .int .i64 0, .int .i64 1000, .bool false] 55 := Cel.new w _ 55
  have C0 := put_one P0 (i := 1) rfl ha (by simp; omega) (by omega)
  rw [show (w.alloc (.cells #[.string ⟨#[100, 101, 109, 97, 110, 100]⟩, .int .i64 0, .int .i64 0, .int .i64 0, .int .i64 0, .int .i64 0, .int .i64 1000, .bool false] 55)).heap.size = w.heap.size + 1 by simp] at C0
  have HQ : Hid (l ++ numI e.ac ++ numI e.va = l ++ handL e) := by
    refine Hid.mk ?_
    unfold handL thL vaL headL thrB valB
    rw [he]
    simp [List.append_assoc]
  have n0 := numI_len e.ac
  have n2 := numI_len e.va
  clear h R he
  go_enter Tryd.func34, Tryd.ntmps34
  go_wp2_with (first | (go_at_call 28; (with_reducible refine (HK _).mono ?_); rintro r w' ⟨rfl, hw⟩; subst w') | (go_at_call 35; first | ((with_reducible refine C0.mono ?_); rintro r w1 ⟨rfl, P1, b1⟩; have R1 := R0.but b1 (by simp; omega); have s1 := b1.size; have g14 := R1.cell (j := 4) rfl; have g16 := R1.cell (j := 6) rfl; have g17 := R1.cell (j := 7) rfl; have C1 := put_one P1 (i := 3) rfl hv (by simp at *; omega) (by simp; omega)) | ((with_reducible refine C1.mono ?_); rintro r w2 ⟨rfl, P2, b2⟩; have R2 := R1.but b2 (by simp; omega); have s2 := b2.size; have g24 := R2.cell (j := 4) rfl; have g26 := R2.cell (j := 6) rfl; have g27 := R2.cell (j := 7) rfl)))
  go_end0
  exact ⟨rfl, by rw [← HQ.out]; exact P2, (((But.of_below B0).trans b1).trans b2)⟩
end Go.Proofs.YteiidkojofaamaaDoor
