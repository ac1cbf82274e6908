/- The statements' lives. -/
/- EventSays. -/
import Derived.Test.YteiidkojofaamaaDoorJ23Says
import Derived.Test.YteiidkojofaamaaDoorJ18Says
import Derived.Test.YteiidkojofaamaaDoorJ09Says
import Derived.Test.YteiidkojofaamaaDoorJ24Says
import Derived.Test.YteiidkojofaamaaDoorJ26Says
import Derived.Test.YteiidkojofaamaaDoorJ13Says
import Derived.Test.YteiidkojofaamaaDoorJ20Says
namespace Go.Proofs.YteiidkojofaamaaDoor
open Go Go.RowKit

def liveE : Ev := ⟨4, 3, 7, 5, 0, 0, fun _ => 0, 0⟩
theorem live_good : goodE liveE = true := by decide
theorem live_byt : byt liveE = [4, 3, 7, 5] := by decide
theorem live_rg : RgE liveE := fun x hx => by
  unfold evI liveE at hx
  simp at hx
  omega
theorem lives_any {w : World} (hT : Tab w) : Calls Tryd.prog 17 #[] w fun r w' => r = .returned (.bool true) ∧ Below w.heap.size w w' := by
  have HB := bytes_any liveE w hT live_good live_rg
  rw [live_byt] at HB
  unfold evA liveE at HB
  go_enter Tryd.func17, Tryd.ntmps17
  go_wp2_with (go_at_call 12; (with_reducible refine HB.mono ?_); rintro r w1 ⟨v1, rfl, ho1, hb1⟩; have q := conv_own ho1)
  go_ret
  exact ⟨rfl, hb1⟩
end Go.Proofs.YteiidkojofaamaaDoor
namespace Go.Proofs.YteiidkojofaamaaDoor
open Go Go.RowKit

def upB (k : Int) : Bool := decide (1 ≤ k) && decide (k ≤ 4)
theorem up_any (k : Int) (w : World) : Calls Tryd.prog 10 #[.int .i64 k] w fun e w' => e = .returned (.bool (upB k)) ∧ w' = w := by
  unfold upB
  by_cases h1 : 1 ≤ k
  · by_cases h2 : k ≤ 4
    · simp only [h1, h2, decide_true, Bool.and_self]
      go_enter Tryd.func10, Tryd.ntmps10
      go_wp2_with fail
      go_ret
      exact ⟨rfl, rfl⟩
    · simp only [h1, h2, decide_true, decide_false, Bool.and_false]
      go_enter Tryd.func10, Tryd.ntmps10
      go_wp2_with fail
      go_ret
      exact ⟨rfl, rfl⟩
  · simp only [h1, decide_false, Bool.false_and]
    go_enter Tryd.func10, Tryd.ntmps10
    go_wp2_with fail
    go_ret
    exact ⟨rfl, rfl⟩
theorem rup_any (k : Int) (w : World) : Calls Tryd.prog 11 #[.int .i64 k] w fun e w' => e = .returned (.bool (upB k)) ∧ w' = w := by
  unfold upB
  by_cases h1 : 1 ≤ k
  · by_cases h2 : k ≤ 4
    · simp only [h1, h2, decide_true, Bool.and_self]
      go_enter Tryd.func11, Tryd.ntmps11
      go_wp2_with fail
      go_ret
      exact ⟨rfl, rfl⟩
    · simp only [h1, h2, decide_true, decide_false, Bool.and_false]
      go_enter Tryd.func11, Tryd.ntmps11
      go_wp2_with fail
      go_ret
      exact ⟨rfl, rfl⟩
  · simp only [h1, decide_false, Bool.false_and]
    go_enter Tryd.func11, Tryd.ntmps11
    go_wp2_with fail
    go_ret
    exact ⟨rfl, rfl⟩
def bytA (e : Ev) : List UInt8 := if goodE e then byt e else []
theorem bytesA_any (e : Ev) (w : World) (hT : Tab w) (hR : RgE e) : Calls Tryd.prog 12 #[.agg (evA e)] w fun r w' => ∃ v, r = .returned v ∧ Own w' w.heap.size v (bytA e) ∧ Below w.heap.size w w' := by
  unfold bytA
  cases hg : goodE e with
  | true => exact bytes_any e w hT hg hR
  | false =>
    refine (bytes_bad e w hT hg).mono ?_
    rintro r w' ⟨rfl, hb⟩
    exact ⟨_, rfl, own_nil _ _, hb⟩
theorem rbytesA_any (e : Ev) (w : World) (hR : RgE e) : Calls Tryd.prog 13 #[.agg (evA e)] w fun r w' => ∃ v, r = .returned v ∧ Own w' w.heap.size v (bytA e) ∧ Below w.heap.size w w' := by
  unfold bytA
  cases hg : goodE e with
  | true => exact rbytes_any e w hg hR
  | false =>
    refine (rbytes_bad e w hg).mono ?_
    rintro r w' ⟨rfl, hb⟩
    exact ⟨_, rfl, own_nil _ _, hb⟩
theorem cel_at {w : World} {b : Nat} {e : Ev} (h : Cel w b (evA e) 26) : At15 w b 0 e := fun j v hv => by
  rw [Nat.zero_add]
  exact h.cell (by simpa [evA, c15] using hv)

theorem load_yields {ops : Array Oper} {S : World → Prop} {op : Oper} {a : Act} {p v : Value} {x : Operand} (hw : Region.wanted op (yielded ops a.tmps) = true) (ho : op.op = .load 26 x) (hx : a.eval x = p)
    (h : ∀ w, S w → (Instr.loadAt 26 p).run Tryd.prog w = .ok v w) : YieldsIf Tryd.prog ops S op v a :=
  .inl ⟨hw, fun w hS => by
    unfold execOp
    simp only [ho, hx, Sem.run_bind, h w hS, Result.andThen_ok, Sem.run_pure]⟩

set_option maxHeartbeats 4000000 in
set_option maxRecDepth 100000 in
theorem says_some (e : Ev) {w : World} (hR : RgE e) (hT : Tab w) (hP : Pw w) : Calls Tryd.prog 3 #[.agg (evA e)] w fun r w' => r = .returned (.bool true) ∧ Below w.heap.size w w' := by
  have B0 : Below w.heap.size w (w.alloc (.cells (evA e) 26)) := (Below.refl _ w).alloc (Nat.le_refl _) _
  have E0 := Cel.new w (evA e) 26
  have T0 := hT.on B0
  have P0 := hP.on B0
  have HB0 := Hid.mk B0
  clear hT hP B0
  unfold evA at HB0
  obtain ⟨W0, hW0⟩ : ∃ W0, Hid (w.alloc (.cells (evA e) 26) = W0) := ⟨_, rfl⟩
  have hW0' := hW0.out
  unfold evA at hW0'
  rw [hW0'] at HB0
  rw [hW0.out] at E0 T0 P0
  have HLD : Hid (∀ W, Below W0.heap.size W0 W → (Instr.loadAt 26 (.pointer (some ⟨w.heap.size, 0, none⟩))).run Tryd.prog W = .ok (.agg (evA e)) W) := Hid.mk (fun W h => by
    have := run_loadAt_mid (P := Tryd.prog) W w.heap.size 0 26 (c15 e) _ (cel_at (E0.below h)) Tryd.underlying26 rfl (by kernel_rfl)
    exact this)
  have HK0 : Hid (∀ W, Below W0.heap.size W0 W → W.cell? ⟨w.heap.size, 0, none⟩ = some (.int .i64 e.kd)) := Hid.mk (fun W h => (E0.below h).cell (j := 0) rfl)
  have HG : ∀ W, Below W0.heap.size W0 W → Calls Tryd.prog 8 #[.agg (evA e)] W fun r w' => r = .returned (.bool (goodE e)) ∧ Below W.heap.size W w' := fun W h => good_any e W (T0.on h)
  have HRG := rgood_any e
  have HU := up_any e.kd
  have HRU := rup_any e.kd
  have HBY : ∀ W, Below W0.heap.size W0 W → Calls Tryd.prog 12 #[.agg (evA e)] W fun r w' => ∃ v, r = .returned v ∧ Own w' W.heap.size v (bytA e) ∧ Below W.heap.size W w' := fun W h => bytesA_any e W (T0.on h) hR
  have HRB : ∀ W, Calls Tryd.prog 13 #[.agg (evA e)] W fun r w' => ∃ v, r = .returned v ∧ Own w' W.heap.size v (bytA e) ∧ Below W.heap.size W w' := fun W => rbytesA_any e W hR
  have HL : ∀ W, Below W0.heap.size W0 W → Calls Tryd.prog 17 #[] W fun r w' => r = .returned (.bool true) ∧ Below W.heap.size W w' := fun W h => lives_any (T0.on h)
  have HF := far_any e
  have HTX : ∀ W, Below W0.heap.size W0 W → Calls Tryd.prog 15 #[.agg (evA e)] W fun r w' => r = .returned (.string ⟨(txtE e).toArray⟩) ∧ Below W.heap.size W w' := fun W h => text_any e W (T0.on h) (P0.on h) hR
  have HRX : farB e = false → ∀ W, Calls Tryd.prog 16 #[.agg (evA e)] W fun r w' => r = .returned (.string ⟨(txtE e).toArray⟩) ∧ Below W.heap.size W w' := fun h W => rtext_any e W hR h
  clear T0 P0 E0 hR
  unfold evA at HG HRG HBY HRB HF HTX HRX HLD ⊢
  generalize goodE e = g at *
  generalize upB e.kd = u at *
  generalize bytA e = A at *
  generalize txtE e = X at *
  generalize farB e = f at *
  go_enter Tryd.func3, Tryd.ntmps3
  go_upto_region 1 with fail
  try rw [hW0']
  generalize (Value.agg #[.int .i64 e.kd, .int .i64 e.ac, .int .i64 e.th, .int .i64 e.va, .int .i64 e.pg, .int .i64 e.pc, .int .i64 (e.rs 0), .int .i64 (e.rs 1), .int .i64 (e.rs 2), .int .i64 (e.rs 3), .int .i64 (e.rs 4), .int .i64 (e.rs 5), .int .i64 (e.rs 6), .int .i64 (e.rs 7), .int .i64 e.dp]) = ag at *
  clear hW0' hW0
  refine wp_region_held_drew (S := (fun w' => Below W0.heap.size W0 w')) (by kernel_rfl) ((Below.refl _ _).drew) (fun hHeld => ?_)
  have b0 : Below W0.heap.size W0 W0.drew := (Below.refl _ _).drew
  refine anyH_take (i := 0) (v := ag) (some 3) rfl rfl (by kernel_rfl) (fun _ _ _ h => h) (load_yields (by rfl) rfl rfl (fun w hSw => HLD.out w hSw)) (by assumption) ?_
  try simp only [Act.put, List.setIfInBounds_toArray, List.set_cons_zero, List.set_cons_succ]
  refine anyH_take (i := 2) (v := ag) (some 5) rfl rfl (by kernel_rfl) (fun _ _ _ h => h) (load_yields (by rfl) rfl rfl (fun w hSw => HLD.out w hSw)) (by assumption) ?_
  try simp only [Act.put, List.setIfInBounds_toArray, List.set_cons_zero, List.set_cons_succ]
  refine anyH_one (i := 1) (by kernel_rfl) rfl (fun K hK => ?_)
  go_simp
  go_at_call 8
  refine (HG _ b0).mono ?_
  rintro e w1 ⟨rfl, hb1⟩
  refine hK.out _ _ (b0.trans (hb1.mono b0.size)) (fun hHeld => ?_)
  clear hK K
  try simp only [Act.put, List.setIfInBounds_toArray, List.set_cons_zero, List.set_cons_succ]
  have b1 := b0.trans (hb1.mono b0.size)
  refine anyH_one (i := 3) (by kernel_rfl) rfl (fun K hK => ?_)
  go_simp
  go_at_call 9
  refine (HRG _).mono ?_
  rintro e w2 ⟨rfl, hb2⟩
  refine hK.out _ _ (b1.trans (hb2.mono b1.size)) (fun hHeld => ?_)
  clear hK K
  try simp only [Act.put, List.setIfInBounds_toArray, List.set_cons_zero, List.set_cons_succ]
  have b2 := b1.trans (hb2.mono b1.size)
  refine anyH_take (i := 4) (v := ?_) (some 7) rfl rfl (by kernel_rfl) (fun _ _ _ h => h) (Or.inl ⟨by rfl, ?_⟩) (by assumption) ?_
  rotate_left
  · (intro w hSw; go_simp; all_goals with_reducible rfl)
  try simp only [Act.put, List.setIfInBounds_toArray, List.set_cons_zero, List.set_cons_succ]
  refine anyH_take (i := 5) (v := ?_) (some 8) rfl rfl (by kernel_rfl) (fun _ _ _ h => h) (Or.inl ⟨by rfl, ?_⟩) (by assumption) ?_
  rotate_left
  · (intro w hSw; go_simp; all_goals with_reducible rfl)
  try simp only [Act.put, List.setIfInBounds_toArray, List.set_cons_zero, List.set_cons_succ]
  refine anyH_take (i := 6) (v := ?_) (some 9) rfl rfl (by kernel_rfl) (fun _ _ _ h => h) (Or.inl ⟨by rfl, ?_⟩) (by assumption) ?_
  rotate_left
  · (intro w hSw; go_simp; all_goals with_reducible rfl)
  try simp only [Act.put, List.setIfInBounds_toArray, List.set_cons_zero, List.set_cons_succ]
  refine anyH_take (i := 7) (v := ?_) (some 10) rfl rfl (by kernel_rfl) (fun _ _ _ h => h) (Or.inl ⟨by rfl, ?_⟩) (by assumption) ?_
  rotate_left
  · (intro w hSw; have c0 := HK0.out w hSw; go_simp; all_goals with_reducible rfl)
  try simp only [Act.put, List.setIfInBounds_toArray, List.set_cons_zero, List.set_cons_succ]
  refine anyH_take (i := 9) (v := ?_) (some 12) rfl rfl (by kernel_rfl) (fun _ _ _ h => h) (Or.inl ⟨by rfl, ?_⟩) (by assumption) ?_
  rotate_left
  · (intro w hSw; go_simp; all_goals with_reducible rfl)
  try simp only [Act.put, List.setIfInBounds_toArray, List.set_cons_zero, List.set_cons_succ]
  refine anyH_take (i := 10) (v := ?_) (some 13) rfl rfl (by kernel_rfl) (fun _ _ _ h => h) (Or.inl ⟨by rfl, ?_⟩) (by assumption) ?_
  rotate_left
  · (intro w hSw; have c0 := HK0.out w hSw; go_simp; all_goals with_reducible rfl)
  try simp only [Act.put, List.setIfInBounds_toArray, List.set_cons_zero, List.set_cons_succ]
  refine anyH_one (i := 8) (by kernel_rfl) rfl (fun K hK => ?_)
  go_simp
  go_at_call 10
  refine (HU _).mono ?_
  rintro e w3 ⟨rfl, hw3⟩
  refine hK.out _ _ (by rw [hw3]; exact b2) (fun hHeld => ?_)
  clear hK K
  try simp only [Act.put, List.setIfInBounds_toArray, List.set_cons_zero, List.set_cons_succ]
  subst w3
  refine anyH_one (i := 11) (by kernel_rfl) rfl (fun K hK => ?_)
  go_simp
  go_at_call 11
  refine (HRU _).mono ?_
  rintro e w3 ⟨rfl, hw3⟩
  refine hK.out _ _ (by rw [hw3]; exact b2) (fun hHeld => ?_)
  clear hK K
  try simp only [Act.put, List.setIfInBounds_toArray, List.set_cons_zero, List.set_cons_succ]
  subst w3
  refine anyH_take (i := 12) (v := ?_) (some 15) rfl rfl (by kernel_rfl) (fun _ _ _ h => h) (Or.inl ⟨by rfl, ?_⟩) (by assumption) ?_
  rotate_left
  · (intro w hSw; go_simp; all_goals with_reducible rfl)
  try simp only [Act.put, List.setIfInBounds_toArray, List.set_cons_zero, List.set_cons_succ]
  refine anyH_take (i := 13) (v := ?_) (some 16) rfl rfl (by kernel_rfl) (fun _ _ _ h => h) (Or.inl ⟨by rfl, ?_⟩) (by assumption) ?_
  rotate_left
  · (intro w hSw; go_simp; all_goals with_reducible rfl)
  try simp only [Act.put, List.setIfInBounds_toArray, List.set_cons_zero, List.set_cons_succ]
  refine anyH_take (i := 14) (v := ?_) (some 17) rfl rfl (by kernel_rfl) (fun _ _ _ h => h) (Or.inl ⟨by rfl, ?_⟩) (by assumption) ?_
  rotate_left
  · (intro w hSw; go_simp; all_goals with_reducible rfl)
  try simp only [Act.put, List.setIfInBounds_toArray, List.set_cons_zero, List.set_cons_succ]
  refine anyH_take (i := 15) (v := ag) (some 18) rfl rfl (by kernel_rfl) (fun _ _ _ h => h) (load_yields (by rfl) rfl rfl (fun w hSw => HLD.out w hSw)) (by assumption) ?_
  try simp only [Act.put, List.setIfInBounds_toArray, List.set_cons_zero, List.set_cons_succ]
  refine anyH_take (i := 18) (v := ag) (some 21) rfl rfl (by kernel_rfl) (fun _ _ _ h => h) (load_yields (by rfl) rfl rfl (fun w hSw => HLD.out w hSw)) (by assumption) ?_
  try simp only [Act.put, List.setIfInBounds_toArray, List.set_cons_zero, List.set_cons_succ]
  refine anyH_one (i := 16) (by kernel_rfl) rfl (fun K hK => ?_)
  go_simp
  go_at_call 12
  refine (HBY _ b2).mono ?_
  rintro e w3 ⟨v3, rfl, ho3, hb3⟩
  refine hK.out _ _ (b2.trans (hb3.mono b2.size)) (fun hHeld => ?_)
  clear hK K
  try simp only [Act.put, List.setIfInBounds_toArray, List.set_cons_zero, List.set_cons_succ]
  have b3 := b2.trans (hb3.mono b2.size)
  refine anyH_mono (S2 := fun w' => Below w3.heap.size w3 w') (fun w' h => b3.trans (h.mono b3.size)) ?_
  have hH3 : Below w3.heap.size w3 w3 := Below.refl _ _
  clear hHeld
  refine anyH_take (i := 17) (v := ?_) (some 20) rfl rfl (by kernel_rfl) (fun _ _ _ h => h) (Or.inl ⟨by rfl, ?_⟩) (by assumption) ?_
  rotate_left
  · (intro w hSw; have q1 := conv_own (ho3.below hSw); go_simp; all_goals with_reducible rfl)
  try simp only [Act.put, List.setIfInBounds_toArray, List.set_cons_zero, List.set_cons_succ]
  refine anyH_one (i := 19) (by kernel_rfl) rfl (fun K hK => ?_)
  go_simp
  go_at_call 13
  refine (HRB _).mono ?_
  rintro e w4 ⟨v4, rfl, ho4, hb4⟩
  refine hK.out _ _ (hb4) (fun hHeld => ?_)
  clear hK K
  try simp only [Act.put, List.setIfInBounds_toArray, List.set_cons_zero, List.set_cons_succ]
  have b4 := b3.trans (hb4.mono b3.size)
  refine anyH_mono (S2 := fun w' => Below w4.heap.size w4 w') (fun w' h => hb4.trans (h.mono hb4.size)) ?_
  have hH4 : Below w4.heap.size w4 w4 := Below.refl _ _
  clear hH3 hHeld
  refine anyH_take (i := 20) (v := ?_) (some 23) rfl rfl (by kernel_rfl) (fun _ _ _ h => h) (Or.inl ⟨by rfl, ?_⟩) (by assumption) ?_
  rotate_left
  · (intro w hSw; have q1 := conv_own (ho4.below hSw); go_simp; all_goals with_reducible rfl)
  try simp only [Act.put, List.setIfInBounds_toArray, List.set_cons_zero, List.set_cons_succ]
  refine anyH_take (i := 21) (v := ?_) (some 24) rfl rfl (by kernel_rfl) (fun _ _ _ h => h) (Or.inl ⟨by rfl, ?_⟩) (by assumption) ?_
  rotate_left
  · (intro w hSw; go_simp; all_goals with_reducible rfl)
  try simp only [Act.put, List.setIfInBounds_toArray, List.set_cons_zero, List.set_cons_succ]
  refine anyH_take (i := 22) (v := ?_) (some 25) rfl rfl (by kernel_rfl) (fun _ _ _ h => h) (Or.inl ⟨by rfl, ?_⟩) (by assumption) ?_
  rotate_left
  · (intro w hSw; go_simp; all_goals with_reducible rfl)
  try simp only [Act.put, List.setIfInBounds_toArray, List.set_cons_zero, List.set_cons_succ]
  refine wpAnyH_done (by kernel_rfl) ?_ _
  clear hH4 ho3 ho4 hb1 hb2 hb3 hb4 b0 b1 b2 b3
  go_upto_region 3 with fail
  refine wp_region_held_drew (S := (fun w' => Below W0.heap.size W0 w')) (by kernel_rfl) (b4.drew) (fun hHeld => ?_)
  have b5 := b4.drew
  clear b4
  refine anyH_take (i := 0) (v := ag) (some 26) rfl rfl (by kernel_rfl) (fun _ _ _ h => h) (load_yields (by rfl) rfl rfl (fun w hSw => HLD.out w hSw)) (by assumption) ?_
  try simp only [Act.put, List.setIfInBounds_toArray, List.set_cons_zero, List.set_cons_succ]
  refine anyH_one (i := 1) (by kernel_rfl) rfl (fun K hK => ?_)
  go_simp
  go_at_call 14
  refine (HF _).mono ?_
  rintro e w6 ⟨rfl, hb6⟩
  refine hK.out _ _ (b5.trans (hb6.mono b5.size)) (fun hHeld => ?_)
  clear hK K
  try simp only [Act.put, List.setIfInBounds_toArray, List.set_cons_zero, List.set_cons_succ]
  have b6 := b5.trans (hb6.mono b5.size)
  refine anyH_take (i := 2) (v := ?_) (some 28) rfl rfl (by kernel_rfl) (fun _ _ _ h => h) (Or.inl ⟨by rfl, ?_⟩) (by assumption) ?_
  rotate_left
  · (intro w hSw; go_simp; all_goals with_reducible rfl)
  try simp only [Act.put, List.setIfInBounds_toArray, List.set_cons_zero, List.set_cons_succ]
  cases f with
  | true =>
    have HFA := HF
    clear HTX HRX
    refine anyH_take (i := 3) (v := undef) (some 29) rfl rfl (by kernel_rfl) (fun _ _ _ h => h) (Or.inr ⟨by rfl, rfl⟩) (by assumption) ?_
    try simp only [Act.put, List.setIfInBounds_toArray, List.set_cons_zero, List.set_cons_succ]
    refine anyH_take (i := 5) (v := undef) (some 31) rfl rfl (by kernel_rfl) (fun _ _ _ h => h) (Or.inr ⟨by rfl, rfl⟩) (by assumption) ?_
    try simp only [Act.put, List.setIfInBounds_toArray, List.set_cons_zero, List.set_cons_succ]
    refine anyH_one (i := 4) (by kernel_rfl) rfl (fun K hK => ?_)
    go_simp
    refine hK.out _ _ b6 (fun hHeld => ?_)
    clear hK K
    try simp only [Act.put, List.setIfInBounds_toArray, List.set_cons_zero, List.set_cons_succ]
    refine anyH_one (i := 6) (by kernel_rfl) rfl (fun K hK => ?_)
    go_simp
    refine hK.out _ _ b6 (fun hHeld => ?_)
    clear hK K
    try simp only [Act.put, List.setIfInBounds_toArray, List.set_cons_zero, List.set_cons_succ]
    refine anyH_take (i := 7) (v := undef) (some 33) rfl rfl (by kernel_rfl) (fun _ _ _ h => h) (Or.inr ⟨by rfl, rfl⟩) (by assumption) ?_
    try simp only [Act.put, List.setIfInBounds_toArray, List.set_cons_zero, List.set_cons_succ]
    refine anyH_take (i := 8) (v := ?_) (some 34) rfl rfl (by kernel_rfl) (fun _ _ _ h => h) (Or.inl ⟨by rfl, ?_⟩) (by assumption) ?_
    rotate_left
    · (intro w hSw; go_simp; all_goals with_reducible rfl)
    try simp only [Act.put, List.setIfInBounds_toArray, List.set_cons_zero, List.set_cons_succ]
    refine anyH_take (i := 9) (v := ?_) (some 35) rfl rfl (by kernel_rfl) (fun _ _ _ h => h) (Or.inl ⟨by rfl, ?_⟩) (by assumption) ?_
    rotate_left
    · (intro w hSw; go_simp; all_goals with_reducible rfl)
    try simp only [Act.put, List.setIfInBounds_toArray, List.set_cons_zero, List.set_cons_succ]
    refine anyH_one (i := 10) (by kernel_rfl) rfl (fun K hK => ?_)
    go_simp
    go_at_call 17
    refine (HL _ b6).mono ?_
    rintro e w9 ⟨rfl, hb9⟩
    refine hK.out _ _ (b6.trans (hb9.mono b6.size)) (fun hHeld => ?_)
    clear hK K
    try simp only [Act.put, List.setIfInBounds_toArray, List.set_cons_zero, List.set_cons_succ]
    have b9 := b6.trans (hb9.mono b6.size)
    refine anyH_take (i := 11) (v := ?_) (some 37) rfl rfl (by kernel_rfl) (fun _ _ _ h => h) (Or.inl ⟨by rfl, ?_⟩) (by assumption) ?_
    rotate_left
    · (intro w hSw; go_simp; all_goals with_reducible rfl)
    try simp only [Act.put, List.setIfInBounds_toArray, List.set_cons_zero, List.set_cons_succ]
    refine anyH_take (i := 12) (v := ?_) (some 2) rfl rfl (by kernel_rfl) (fun _ _ _ h => h) (Or.inl ⟨by rfl, ?_⟩) (by assumption) ?_
    rotate_left
    · (intro w hSw; go_simp; all_goals with_reducible rfl)
    try simp only [Act.put, List.setIfInBounds_toArray, List.set_cons_zero, List.set_cons_succ]
    refine wpAnyH_done (by kernel_rfl) ?_ _
    go_wp2_with fail
    go_ret
    exact ⟨rfl, HB0.out.trans (b9.mono HB0.out.size)⟩
  | false =>
    replace HRX := HRX rfl
    refine anyH_take (i := 3) (v := ag) (some 29) rfl rfl (by kernel_rfl) (fun _ _ _ h => h) (load_yields (by rfl) rfl rfl (fun w hSw => HLD.out w hSw)) (by assumption) ?_
    try simp only [Act.put, List.setIfInBounds_toArray, List.set_cons_zero, List.set_cons_succ]
    refine anyH_take (i := 5) (v := ag) (some 31) rfl rfl (by kernel_rfl) (fun _ _ _ h => h) (load_yields (by rfl) rfl rfl (fun w hSw => HLD.out w hSw)) (by assumption) ?_
    try simp only [Act.put, List.setIfInBounds_toArray, List.set_cons_zero, List.set_cons_succ]
    refine anyH_one (i := 4) (by kernel_rfl) rfl (fun K hK => ?_)
    go_simp
    go_at_call 15
    refine (HTX _ b6).mono ?_
    rintro e w7 ⟨rfl, hb7⟩
    refine hK.out _ _ (b6.trans (hb7.mono b6.size)) (fun hHeld => ?_)
    clear hK K
    try simp only [Act.put, List.setIfInBounds_toArray, List.set_cons_zero, List.set_cons_succ]
    have b7 := b6.trans (hb7.mono b6.size)
    refine anyH_one (i := 6) (by kernel_rfl) rfl (fun K hK => ?_)
    go_simp
    go_at_call 16
    refine (HRX _).mono ?_
    rintro e w8 ⟨rfl, hb8⟩
    refine hK.out _ _ (b7.trans (hb8.mono b7.size)) (fun hHeld => ?_)
    clear hK K
    try simp only [Act.put, List.setIfInBounds_toArray, List.set_cons_zero, List.set_cons_succ]
    have b8 := b7.trans (hb8.mono b7.size)
    refine anyH_take (i := 7) (v := ?_) (some 33) rfl rfl (by kernel_rfl) (fun _ _ _ h => h) (Or.inl ⟨by rfl, ?_⟩) (by assumption) ?_
    rotate_left
    · (intro w hSw; go_simp; all_goals with_reducible rfl)
    try simp only [Act.put, List.setIfInBounds_toArray, List.set_cons_zero, List.set_cons_succ]
    refine anyH_take (i := 8) (v := ?_) (some 34) rfl rfl (by kernel_rfl) (fun _ _ _ h => h) (Or.inl ⟨by rfl, ?_⟩) (by assumption) ?_
    rotate_left
    · (intro w hSw; go_simp; all_goals with_reducible rfl)
    try simp only [Act.put, List.setIfInBounds_toArray, List.set_cons_zero, List.set_cons_succ]
    refine anyH_take (i := 9) (v := ?_) (some 35) rfl rfl (by kernel_rfl) (fun _ _ _ h => h) (Or.inl ⟨by rfl, ?_⟩) (by assumption) ?_
    rotate_left
    · (intro w hSw; go_simp; all_goals with_reducible rfl)
    try simp only [Act.put, List.setIfInBounds_toArray, List.set_cons_zero, List.set_cons_succ]
    refine anyH_one (i := 10) (by kernel_rfl) rfl (fun K hK => ?_)
    go_simp
    go_at_call 17
    refine (HL _ b8).mono ?_
    rintro e w9 ⟨rfl, hb9⟩
    refine hK.out _ _ (b8.trans (hb9.mono b8.size)) (fun hHeld => ?_)
    clear hK K
    try simp only [Act.put, List.setIfInBounds_toArray, List.set_cons_zero, List.set_cons_succ]
    have b9 := b8.trans (hb9.mono b8.size)
    refine anyH_take (i := 11) (v := ?_) (some 37) rfl rfl (by kernel_rfl) (fun _ _ _ h => h) (Or.inl ⟨by rfl, ?_⟩) (by assumption) ?_
    rotate_left
    · (intro w hSw; go_simp; all_goals with_reducible rfl)
    try simp only [Act.put, List.setIfInBounds_toArray, List.set_cons_zero, List.set_cons_succ]
    refine anyH_take (i := 12) (v := ?_) (some 2) rfl rfl (by kernel_rfl) (fun _ _ _ h => h) (Or.inl ⟨by rfl, ?_⟩) (by assumption) ?_
    rotate_left
    · (intro w hSw; go_simp; all_goals with_reducible rfl)
    try simp only [Act.put, List.setIfInBounds_toArray, List.set_cons_zero, List.set_cons_succ]
    refine wpAnyH_done (by kernel_rfl) ?_ _
    go_wp2_with fail
    go_ret
    exact ⟨rfl, HB0.out.trans (b9.mono HB0.out.size)⟩
end Go.Proofs.YteiidkojofaamaaDoor
