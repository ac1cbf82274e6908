/- An event's numbers are handed to the closure that puts them: kinds 1, 2. -/
import Derived.Test.YteiidkojofaamaaDoorEHandH
namespace Go.Proofs.YteiidkojofaamaaDoor
open Go Go.RowKit

set_option maxHeartbeats 2000000 in
set_option maxRecDepth 100000 in
theorem hand_put1 {lo : Nat} {w : World} {E X : Nat} {e : Ev} {l : List UInt8} (h : PS lo w E X e l) (he : e.kd = 1) (ha : 0 ≤ e.ac ∧ e.ac ≤ 1099511627776) (hlo : lo ≤ w.heap.size) (hbs : l.length ≤ 600000) :
    Calls Tryd.prog 34 #[.pointer (some ⟨E, 0, none⟩), .func (.func 35) #[] #[.pointer (some ⟨X, 0, none⟩)]] w fun r w' => r = .returned (.tuple #[]) ∧ PS lo w' E X e (l ++ handL e) ∧ But [X] w w' := by
  have e0 : w.cell? ⟨E, 0, none⟩ = some (.int .i64 1) := by have := h.ev.cell (j := 0) (v := .int .i64 e.kd) rfl; rwa [he] at this
  have R := h.tab.row 1 (by decide)
  have t0 : w.cell? ⟨0, 8, none⟩ = some (.string ⟨#[103, 114, 97, 110, 116]⟩) := R 0 _ rfl
  have t1 : w.cell? ⟨0, 9, none⟩ = some (.int .i64 1) := R 1 _ rfl
  have t2 : w.cell? ⟨0, 10, none⟩ = some (.int .i64 1099511627776) := R 2 _ rfl
  have t3 : w.cell? ⟨0, 11, none⟩ = some (.int .i64 0) := R 3 _ rfl
  have t4 : w.cell? ⟨0, 12, none⟩ = some (.int .i64 0) := R 4 _ rfl
  have t5 : w.cell? ⟨0, 13, none⟩ = some (.int .i64 0) := R 5 _ rfl
  have t6 : w.cell? ⟨0, 14, none⟩ = some (.int .i64 0) := R 6 _ rfl
  have t7 : w.cell? ⟨0, 15, none⟩ = some (.bool false) := R 7 _ rfl
  have HK : ∀ W : World, Calls Tryd.prog 28 #[.int .i64 1] W fun r w' => r = .returned (.bool true) ∧ w' = W := iskind_any 1
  have B0 : Below w.heap.size w (w.alloc (.cells #[.string ⟨#[103, 114, 97, 110, 116]⟩, .int .i64 1, .int .i64 1099511627776, .int .i64 0, .int .i64 0, .int .i64 0, .int .i64 0, .bool false] 55)) := (Below.refl _ w).alloc (Nat.le_refl _) _
  have P0 := h.below B0
  have hX := h.bx.lt
  have R0 : Cel (w.alloc (.cells #[.string ⟨#[103, 114, 97, 110, 116]⟩, .int .i64 1, .int .i64 1099511627776, .int .i64 0, .int .i64 0, .int .i64 0, .int .i64 0, .bool false] 55)) w.heap.size #[.string ⟨#[103, 114, 97, 110, 116]⟩, .int .i64 1, .int .i64 1099511627776, .int .i64 0, .int .i64 0, .int .i64 0, .int .i64 0, .bool false] 55 := Cel.new w _ 55
  have C0 := put_one P0 (i := 1) rfl ha (by simp; omega) (by omega)
  rw [show (w.alloc (.cells #[.string ⟨#[103, 114, 97, 110, 116]⟩, .int .i64 1, .int .i64 1099511627776, .int .i64 0, .int .i64 0, .int .i64 0, .int .i64 0, .bool false] 55)).heap.size = w.heap.size + 1 by simp] at C0
  have HQ : Hid (l ++ numI e.ac = l ++ handL e) := by
    refine Hid.mk ?_
    unfold handL thL vaL headL thrB valB
    rw [he]
    simp
  have n0 := numI_len e.ac
  clear h R he
  go_enter Tryd.func34, Tryd.ntmps34
  go_wp2_with (first | (go_at_call 28; (with_reducible refine (HK _).mono ?_); rintro r w' ⟨rfl, hw⟩; subst w') | (go_at_call 35; first | ((with_reducible refine C0.mono ?_); rintro r w1 ⟨rfl, P1, b1⟩; have R1 := R0.but b1 (by simp; omega); have s1 := b1.size; have g14 := R1.cell (j := 4) rfl; have g16 := R1.cell (j := 6) rfl; have g17 := R1.cell (j := 7) rfl)))
  go_end0
  exact ⟨rfl, by rw [← HQ.out]; exact P1, ((But.of_below B0).trans b1)⟩
set_option maxHeartbeats 2000000 in
set_option maxRecDepth 100000 in
theorem hand_put2 {lo : Nat} {w : World} {E X : Nat} {e : Ev} {l : List UInt8} (h : PS lo w E X e l) (he : e.kd = 2) (ha : 0 ≤ e.ac ∧ e.ac ≤ 1099511627776) (ht : 0 ≤ e.th ∧ e.th ≤ 1099511627776) (hp1 : 0 ≤ e.pg ∧ e.pg ≤ 1099511627776) (hp2 : 0 ≤ e.pc ∧ e.pc ≤ 1099511627776) (hp3 : 0 ≤ e.dp ∧ e.dp ≤ 1099511627776) (hlo : lo ≤ w.heap.size) (hbs : l.length ≤ 600000) :
    Calls Tryd.prog 34 #[.pointer (some ⟨E, 0, none⟩), .func (.func 35) #[] #[.pointer (some ⟨X, 0, none⟩)]] w fun r w' => r = .returned (.tuple #[]) ∧ PS lo w' E X e (l ++ handL e) ∧ But [X] w w' := by
  have e0 : w.cell? ⟨E, 0, none⟩ = some (.int .i64 2) := by have := h.ev.cell (j := 0) (v := .int .i64 e.kd) rfl; rwa [he] at this
  have R := h.tab.row 2 (by decide)
  have t0 : w.cell? ⟨0, 16, none⟩ = some (.string ⟨#[112, 114, 101, 101, 109, 112, 116, 101, 100]⟩) := R 0 _ rfl
  have t1 : w.cell? ⟨0, 17, none⟩ = some (.int .i64 1) := R 1 _ rfl
  have t2 : w.cell? ⟨0, 18, none⟩ = some (.int .i64 1099511627776) := R 2 _ rfl
  have t3 : w.cell? ⟨0, 19, none⟩ = some (.int .i64 1) := R 3 _ rfl
  have t4 : w.cell? ⟨0, 20, none⟩ = some (.int .i64 1099511627776) := R 4 _ rfl
  have t5 : w.cell? ⟨0, 21, none⟩ = some (.int .i64 0) := R 5 _ rfl
  have t6 : w.cell? ⟨0, 22, none⟩ = some (.int .i64 0) := R 6 _ rfl
  have t7 : w.cell? ⟨0, 23, none⟩ = some (.bool true) := R 7 _ rfl
  have HK : ∀ W : World, Calls Tryd.prog 28 #[.int .i64 2] W fun r w' => r = .returned (.bool true) ∧ w' = W := iskind_any 2
  have B0 : Below w.heap.size w (w.alloc (.cells #[.string ⟨#[112, 114, 101, 101, 109, 112, 116, 101, 100]⟩, .int .i64 1, .int .i64 1099511627776, .int .i64 1, .int .i64 1099511627776, .int .i64 0, .int .i64 0, .bool true] 55)) := (Below.refl _ w).alloc (Nat.le_refl _) _
  have P0 := h.below B0
  have hX := h.bx.lt
  have R0 : Cel (w.alloc (.cells #[.string ⟨#[112, 114, 101, 101, 109, 112, 116, 101, 100]⟩, .int .i64 1, .int .i64 1099511627776, .int .i64 1, .int .i64 1099511627776, .int .i64 0, .int .i64 0, .bool true] 55)) w.heap.size #[.string ⟨#[112, 114, 101, 101, 109, 112, 116, 101, 100]⟩, .int .i64 1, .int .i64 1099511627776, .int .i64 1, .int .i64 1099511627776, .int .i64 0, .int .i64 0, .bool true] 55 := Cel.new w _ 55
  have C0 := put_one P0 (i := 1) rfl ha (by simp; omega) (by omega)
  rw [show (w.alloc (.cells #[.string ⟨#[112, 114, 101, 101, 109, 112, 116, 101, 100]⟩, .int .i64 1, .int .i64 1099511627776, .int .i64 1, .int .i64 1099511627776, .int .i64 0, .int .i64 0, .bool true] 55)).heap.size = w.heap.size + 1 by simp] at C0
  have HQ : Hid (l ++ numI e.ac ++ numI e.th ++ (numI e.pg ++ (numI e.pc ++ numI e.dp)) = l ++ handL e) := by
    refine Hid.mk ?_
    unfold handL thL vaL headL thrB valB
    rw [he]
    simp [List.append_assoc]
  have n0 := numI_len e.ac
  have n1 := numI_len e.th
  clear h R he
  go_enter Tryd.func34, Tryd.ntmps34
  go_upto_region 8 with (first | (go_at_call 28; (with_reducible refine (HK _).mono ?_); rintro r w' ⟨rfl, hw⟩; subst w') | (go_at_call 35; first | ((with_reducible refine C0.mono ?_); rintro r w1 ⟨rfl, P1, b1⟩; have R1 := R0.but b1 (by simp; omega); have s1 := b1.size; have g14 := R1.cell (j := 4) rfl; have g16 := R1.cell (j := 6) rfl; have g17 := R1.cell (j := 7) rfl; have C1 := put_one P1 (i := 2) rfl ht (by simp at *; omega) (by simp; omega)) | ((with_reducible refine C1.mono ?_); rintro r w2 ⟨rfl, P2, b2⟩; have R2 := R1.but b2 (by simp; omega); have s2 := b2.size; have g24 := R2.cell (j := 4) rfl; have g26 := R2.cell (j := 6) rfl; have g27 := R2.cell (j := 7) rfl)))
  refine wp_region_held_drew (S := (fun w' => But [X] w2.drew w')) (by kernel_rfl) (But.refl _ _) (fun hHeld => ?_)
  have bd : But [X] w2 w2.drew := (But.refl _ _).drew
  have Pd : PS lo w2.drew E X e (l ++ numI e.ac ++ numI e.th) := P2.below ((Below.refl _ _).drew)
  have sd : w.heap.size ≤ w2.drew.heap.size := by simp at *; omega
  generalize w2.drew = Wd at *
  refine anyH_take (i := 0) (v := ?_) (some 45) rfl rfl (by kernel_rfl) (fun _ _ _ h => h) (Or.inl ⟨by rfl, ?_⟩) (by assumption) ?_
  rotate_left
  · (intro w hSw; go_simp; all_goals with_reducible rfl)
  try simp only [Act.put, List.setIfInBounds_toArray, List.set_cons_zero, List.set_cons_succ]
  refine anyH_take (i := 1) (v := ?_) (some 46) rfl rfl (by kernel_rfl) (fun _ _ _ h => h) (Or.inl ⟨by rfl, ?_⟩) (by assumption) ?_
  rotate_left
  · (intro w hSw; go_simp; all_goals with_reducible rfl)
  try simp only [Act.put, List.setIfInBounds_toArray, List.set_cons_zero, List.set_cons_succ]
  refine anyH_take (i := 2) (v := ?_) (some 47) rfl rfl (by kernel_rfl) (fun _ _ _ h => h) (Or.inl ⟨by rfl, ?_⟩) (by assumption) ?_
  rotate_left
  · (intro w hSw; go_simp; all_goals with_reducible rfl)
  try simp only [Act.put, List.setIfInBounds_toArray, List.set_cons_zero, List.set_cons_succ]
  refine anyH_take (i := 3) (v := ?_) (some 48) rfl rfl (by kernel_rfl) (fun _ _ _ h => h) (Or.inl ⟨by rfl, ?_⟩) (by assumption) ?_
  rotate_left
  · (intro w hSw; go_simp; all_goals with_reducible rfl)
  try simp only [Act.put, List.setIfInBounds_toArray, List.set_cons_zero, List.set_cons_succ]
  refine anyH_take (i := 4) (v := ?_) (some 49) rfl rfl (by kernel_rfl) (fun _ _ _ h => h) (Or.inl ⟨by rfl, ?_⟩) (by assumption) ?_
  rotate_left
  · (intro w hSw; go_simp; all_goals with_reducible rfl)
  try simp only [Act.put, List.setIfInBounds_toArray, List.set_cons_zero, List.set_cons_succ]
  refine anyH_take (i := 5) (v := ?_) (some 50) rfl rfl (by kernel_rfl) (fun _ _ _ h => h) (Or.inl ⟨by rfl, ?_⟩) (by assumption) ?_
  rotate_left
  · (intro w hSw; go_simp; all_goals with_reducible rfl)
  try simp only [Act.put, List.setIfInBounds_toArray, List.set_cons_zero, List.set_cons_succ]
  refine anyH_take (i := 6) (v := ?_) (some 51) rfl rfl (by kernel_rfl) (fun _ _ _ h => h) (Or.inl ⟨by rfl, ?_⟩) (by assumption) ?_
  rotate_left
  · (intro w hSw; go_simp; all_goals with_reducible rfl)
  try simp only [Act.put, List.setIfInBounds_toArray, List.set_cons_zero, List.set_cons_succ]
  refine anyH_take (i := 7) (v := ?_) (some 52) rfl rfl (by kernel_rfl) (fun _ _ _ h => h) (Or.inl ⟨by rfl, ?_⟩) (by assumption) ?_
  rotate_left
  · (intro w hSw; go_simp; all_goals with_reducible rfl)
  try simp only [Act.put, List.setIfInBounds_toArray, List.set_cons_zero, List.set_cons_succ]
  refine anyH_take (i := 8) (v := ?_) (some 53) rfl rfl (by kernel_rfl) (fun _ _ _ h => h) (Or.inl ⟨by rfl, ?_⟩) (by assumption) ?_
  rotate_left
  · (intro w hSw; go_simp; all_goals with_reducible rfl)
  try simp only [Act.put, List.setIfInBounds_toArray, List.set_cons_zero, List.set_cons_succ]
  refine anyH_take (i := 9) (v := ?_) (some 54) rfl rfl (by kernel_rfl) (fun _ _ _ h => h) (Or.inl ⟨by rfl, ?_⟩) (by assumption) ?_
  rotate_left
  · (intro w hSw; go_simp; all_goals with_reducible rfl)
  try simp only [Act.put, List.setIfInBounds_toArray, List.set_cons_zero, List.set_cons_succ]
  refine anyH_take (i := 10) (v := ?_) (some 55) rfl rfl (by kernel_rfl) (fun _ _ _ h => h) (Or.inl ⟨by rfl, ?_⟩) (by assumption) ?_
  rotate_left
  · (intro w hSw; go_simp; all_goals with_reducible rfl)
  try simp only [Act.put, List.setIfInBounds_toArray, List.set_cons_zero, List.set_cons_succ]
  refine anyH_take (i := 11) (v := ?_) (some 56) rfl rfl (by kernel_rfl) (fun _ _ _ h => h) (Or.inl ⟨by rfl, ?_⟩) (by assumption) ?_
  rotate_left
  · (intro w hSw; go_simp; all_goals with_reducible rfl)
  try simp only [Act.put, List.setIfInBounds_toArray, List.set_cons_zero, List.set_cons_succ]
  refine anyH_take (i := 12) (v := ?_) (some 57) rfl rfl (by kernel_rfl) (fun _ _ _ h => h) (Or.inl ⟨by rfl, ?_⟩) (by assumption) ?_
  rotate_left
  · (intro w hSw; go_simp; all_goals with_reducible rfl)
  try simp only [Act.put, List.setIfInBounds_toArray, List.set_cons_zero, List.set_cons_succ]
  have C9 := put_three Pd (i := 4) (j := 5) (k := 14) rfl rfl rfl hp1 hp2 hp3 (by omega) (by simp; omega)
  refine anyH_one (i := 13) (by kernel_rfl) rfl (fun K hK => ?_)
  go_simp
  refine hK.out _ _ ((But.refl [X] Wd).alloc _) (fun hHeld => ?_)
  clear hK K
  try simp only [Act.put, List.setIfInBounds_toArray, List.set_cons_zero, List.set_cons_succ]
  refine anyH_one (i := 14) (by kernel_rfl) rfl (fun K hK => ?_)
  go_simp
  go_at_call 35
  refine (C9).mono ?_
  rintro e w9 ⟨rfl, P9, b9⟩
  refine hK.out _ _ (b9) (fun hHeld => ?_)
  clear hK K
  try simp only [Act.put, List.setIfInBounds_toArray, List.set_cons_zero, List.set_cons_succ]
  refine wpAnyH_done (by kernel_rfl) ?_ _
  go_wp2_with fail
  go_end0
  exact ⟨rfl, by rw [← HQ.out]; exact P9, ((((But.of_below B0).trans b1).trans b2).trans bd).trans b9⟩
end Go.Proofs.YteiidkojofaamaaDoor
