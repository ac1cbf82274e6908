/- Contract of the reference's Move. -/
import Derived.Test.YtpaedcknhlojkaaRefR
import Derived.Test.YtpaedcknhlojkaaTail
namespace Go.Proofs.Ytpaedcknhlojkaa
open Go.RowKit
set_option linter.unusedSimpArgs false

section
variable {w : World} {lo M LB N L : Nat} {ls : List (List Nat)}

set_option maxHeartbeats 4000000 in
theorem rmove_in (h : RL w lo M LB N L ls) (a b : Nat) (ha : a < L) (hb : b < L) (hab : a ≠ b) :
    Calls Try.prog 31 #[.pointer (some ⟨M, 0, none⟩), .int .i64 a, .int .i64 b] w fun e w' => e = .returned (.tuple #[.int .i64 (lsI ls (a : Int)).length, .int .i64 0]) ∧ RL w' lo M LB N L ((ls.set b (lsI ls (b : Int) ++ lsI ls (a : Int))).set a []) ∧ But [LB] w w' := by
  have H1 := rlist_any h (a : Int)
  have H2 := rlist_any h (b : Int)
  rw [inN_of ha] at H1
  rw [inN_of hb] at H2
  have hX := h.ok.at ha
  have hY := h.ok.at hb
  have lX := h.ok.short hX
  have lY := h.ok.short hY
  have hN := h.n
  have hlo := h.lo
  have hok := h.ok.set2 hab hX hY
  have PT : ∀ w1 v', But [] w w1 → RowI w1 lo v' (ints (lsI ls (b : Int) ++ lsI ls (a : Int))) → _ := fun w1 v' hB hr => h.put2 (w1 := w1) (v' := v') hB hb ha hr hok
  obtain ⟨sx, cx, hcx, rx⟩ := h.row hX
  obtain ⟨sy, cy, hcy, ry⟩ := h.row hY
  have c1 := h.c1
  have eb : ints (lsI ls (b : Int) ++ lsI ls (a : Int)) = ints (lsI ls (b : Int)) ++ ints (lsI ls (a : Int)) := by simp [ints]
  rw [eb] at PT
  have HX : Hid ((ints (lsI ls (a : Int))).length = (lsI ls (a : Int)).length) := ints_len _
  have HY : Hid ((ints (lsI ls (b : Int))).length = (lsI ls (b : Int)).length) := ints_len _
  have hne : ((a : Int) == (b : Int)) = false := by
    have : (a : Int) ≠ (b : Int) := by omega
    simpa using this
  have HF : ∀ w1, But [] w w1 → w1.cell? ⟨M, 1, none⟩ = some (.slice (some ⟨LB, 0, none⟩) L L) ∧ w1.cell? ⟨LB, a, none⟩ = some (.slice sx (lsI ls (a : Int)).length cx) ∧ w1.cell? ⟨LB, b, none⟩ = some (.slice sy (lsI ls (b : Int)).length cy) ∧ w1.frozen? ⟨LB, b, none⟩ = false := fun w1 hb => ⟨hb.cell c1, hb.cell hcx, hb.cell hcy, (h.keep hb).fz b⟩
  have HG : ∀ w1 v, But [] w w1 → (w1.setCell ⟨LB, b, none⟩ v).cell? ⟨M, 1, none⟩ = some (.slice (some ⟨LB, 0, none⟩) L L) ∧ (w1.setCell ⟨LB, b, none⟩ v).frozen? ⟨LB, a, none⟩ = false ∧ ∃ u, (w1.setCell ⟨LB, b, none⟩ v).cell? ⟨LB, a, none⟩ = some u := fun w1 v hB => by
    have hk := h.keep hB
    refine ⟨(World.cell?_of_block (Below.heap_setCell w1 ⟨LB, b, none⟩ _ M h.ne)).trans hk.c1, ?_, ?_⟩
    · obtain ⟨vs, h1, _⟩ := hk.l
      have := heap_setCell_same w1 LB b _ 33 v h1
      simp [World.frozen?, this]
    · obtain ⟨vs, h1, h2, _⟩ := hk.l
      have := heap_setCell_same w1 LB b _ 33 v h1
      have hal : a < (vs.set b v).length := by rw [List.length_set]; omega
      refine ⟨(vs.set b v)[a], ?_⟩
      simp [World.cell?, this]
  clear eb hok hX hY hcx hcy
  generalize (ls.set b (lsI ls (b : Int) ++ lsI ls (a : Int))).set a [] = ls' at *
  generalize lsI ls (a : Int) = X at *
  generalize lsI ls (b : Int) = Y at *
  have ha' : (a : Int) < (L : Int) := by omega
  have ha0 : (0 : Int) ≤ (a : Int) := by omega
  have hb' : (b : Int) < (L : Int) := by omega
  have hb0 : (0 : Int) ≤ (b : Int) := by omega
  have OW := own_none w
  have B1 : But [] w (w.alloc (.cells #[] 3)) := (But.refl [] w).alloc _
  obtain ⟨d1, d2, d3, d4⟩ := HF _ B1
  obtain ⟨e1, e2, e3, e4⟩ := HF _ (But.refl [] w)
  go_enter Try.func31, Try.ntmps31
  go_wp2_with (first
    | (go_at_call 34; (with_reducible refine H1.mono ?_); rintro e w' ⟨rfl, hw⟩; subst w')
    | (go_at_call 34; (with_reducible refine H2.mono ?_); rintro e w' ⟨rfl, hw⟩; subst w'))
  have hmx : Try.prog.follows .mixedOrders = true := by kernel_rfl
  have KS : ∀ w1, But [] w w1 → w1.cell? ⟨M, 1, none⟩ = some (.slice (some ⟨LB, 0, none⟩) L L) ∧ w1.cell? ⟨LB, a, none⟩ = some (.slice sx X.length cx) ∧ w1.cell? ⟨LB, b, none⟩ = some (.slice sy Y.length cy) := fun w1 hb => ⟨(HF w1 hb).1, (HF w1 hb).2.1, (HF w1 hb).2.2.1⟩
  refine wp_region_K 23 (fun w' => w'.cell? ⟨M, 1, none⟩ = some (.slice (some ⟨LB, 0, none⟩) L L) ∧ w'.cell? ⟨LB, a, none⟩ = some (.slice sx X.length cx) ∧ w'.cell? ⟨LB, b, none⟩ = some (.slice sy Y.length cy)) hmx (by kernel_rfl) ⟨e1, e2, e3⟩ (fun hHeld hdep => ?_)
  refine wpAnyK_take (i := 0) (v := ?_) (some 30) rfl rfl hdep (by kernel_rfl) (fun _ _ _ h => h) (Or.inl ⟨by rfl, ?_⟩) (by assumption) ?_
  rotate_left
  · (intro w hSw; go_simp; all_goals with_reducible rfl)
  try simp only [Act.put, List.setIfInBounds_toArray, List.set_cons_zero, List.set_cons_succ]
  refine wpAnyK_take (i := 1) (v := ?_) (some 31) rfl rfl hdep (by kernel_rfl) (fun _ _ _ h => h) (Or.inl ⟨by rfl, ?_⟩) (by assumption) ?_
  rotate_left
  · (intro w hSw; go_simp; all_goals with_reducible rfl)
  try simp only [Act.put, List.setIfInBounds_toArray, List.set_cons_zero, List.set_cons_succ]
  refine wpAnyK_take (i := 2) (v := ?_) (some 32) rfl rfl hdep (by kernel_rfl) (fun _ _ _ h => h) (Or.inl ⟨by rfl, ?_⟩) (by assumption) ?_
  rotate_left
  · (intro w hSw; go_simp; all_goals with_reducible rfl)
  try simp only [Act.put, List.setIfInBounds_toArray, List.set_cons_zero, List.set_cons_succ]
  refine wpAnyK_take (i := 3) (v := ?_) (some 33) rfl rfl hdep (by kernel_rfl) (fun _ _ _ h => h) (Or.inl ⟨by rfl, ?_⟩) (by assumption) ?_
  rotate_left
  · (intro w hSw; go_simp; all_goals with_reducible rfl)
  try simp only [Act.put, List.setIfInBounds_toArray, List.set_cons_zero, List.set_cons_succ]
  refine wpAnyK_take (i := 4) (v := ?_) (some 34) rfl rfl hdep (by kernel_rfl) (fun _ _ _ h => h) (Or.inl ⟨by rfl, ?_⟩) (by assumption) ?_
  rotate_left
  · (intro w hSw; go_simp; all_goals with_reducible rfl)
  try simp only [Act.put, List.setIfInBounds_toArray, List.set_cons_zero, List.set_cons_succ]
  refine wpAnyK_take (i := 6) (v := ?_) (some 36) rfl rfl hdep (by kernel_rfl) (fun _ _ _ h => h) (Or.inl ⟨by rfl, ?_⟩) (by assumption) ?_
  rotate_left
  · (intro w hSw; go_simp; all_goals with_reducible rfl)
  try simp only [Act.put, List.setIfInBounds_toArray, List.set_cons_zero, List.set_cons_succ]
  refine wpAnyK_take (i := 7) (v := ?_) (some 37) rfl rfl hdep (by kernel_rfl) (fun _ _ _ h => h) (Or.inl ⟨by rfl, ?_⟩) (by assumption) ?_
  rotate_left
  · (intro w hSw; go_simp; all_goals with_reducible rfl)
  try simp only [Act.put, List.setIfInBounds_toArray, List.set_cons_zero, List.set_cons_succ]
  refine wpAnyK_take (i := 8) (v := ?_) (some 38) rfl rfl hdep (by kernel_rfl) (fun _ _ _ h => h) (Or.inl ⟨by rfl, ?_⟩) (by assumption) ?_
  rotate_left
  · (intro w hSw; go_simp; all_goals with_reducible rfl)
  try simp only [Act.put, List.setIfInBounds_toArray, List.set_cons_zero, List.set_cons_succ]
  refine wpAnyK_take (i := 9) (v := ?_) (some 39) rfl rfl hdep (by kernel_rfl) (fun _ _ _ h => h) (Or.inl ⟨by rfl, ?_⟩) (by assumption) ?_
  rotate_left
  · (intro w hSw; go_simp; all_goals with_reducible rfl)
  try simp only [Act.put, List.setIfInBounds_toArray, List.set_cons_zero, List.set_cons_succ]
  refine wpAnyK_take (i := 10) (v := ?_) (some 40) rfl rfl hdep (by kernel_rfl) (fun _ _ _ h => h) (Or.inl ⟨by rfl, ?_⟩) (by assumption) ?_
  rotate_left
  · (intro w hSw; go_simp; all_goals with_reducible rfl)
  try simp only [Act.put, List.setIfInBounds_toArray, List.set_cons_zero, List.set_cons_succ]
  refine wpAnyK_take (i := 11) (v := ?_) (some 41) rfl rfl hdep (by kernel_rfl) (fun _ _ _ h => h) (Or.inl ⟨by rfl, ?_⟩) (by assumption) ?_
  rotate_left
  · (intro w hSw; go_simp; all_goals with_reducible rfl)
  try simp only [Act.put, List.setIfInBounds_toArray, List.set_cons_zero, List.set_cons_succ]
  refine wpAnyK_take (i := 12) (v := ?_) (some 42) rfl rfl hdep (by kernel_rfl) (fun _ _ _ h => h) (Or.inl ⟨by rfl, ?_⟩) (by assumption) ?_
  rotate_left
  · (intro w hSw; go_simp; all_goals with_reducible rfl)
  try simp only [Act.put, List.setIfInBounds_toArray, List.set_cons_zero, List.set_cons_succ]
  refine wpAnyK_take (i := 14) (v := ?_) (some 44) rfl rfl hdep (by kernel_rfl) (fun _ _ _ h => h) (Or.inl ⟨by rfl, ?_⟩) (by assumption) ?_
  rotate_left
  · (intro w hSw; go_simp; all_goals with_reducible rfl)
  try simp only [Act.put, List.setIfInBounds_toArray, List.set_cons_zero, List.set_cons_succ]
  refine wpAnyK_take (i := 15) (v := ?_) (some 45) rfl rfl hdep (by kernel_rfl) (fun _ _ _ h => h) (Or.inl ⟨by rfl, ?_⟩) (by assumption) ?_
  rotate_left
  · (intro w hSw; go_simp; all_goals with_reducible rfl)
  try simp only [Act.put, List.setIfInBounds_toArray, List.set_cons_zero, List.set_cons_succ]
  refine wpAnyK_take (i := 16) (v := ?_) (some 46) rfl rfl hdep (by kernel_rfl) (fun _ _ _ h => h) (Or.inl ⟨by rfl, ?_⟩) (by assumption) ?_
  rotate_left
  · (intro w hSw; go_simp; all_goals with_reducible rfl)
  try simp only [Act.put, List.setIfInBounds_toArray, List.set_cons_zero, List.set_cons_succ]
  refine wpAnyK_take (i := 17) (v := ?_) (some 47) rfl rfl hdep (by kernel_rfl) (fun _ _ _ h => h) (Or.inl ⟨by rfl, ?_⟩) (by assumption) ?_
  rotate_left
  · (intro w hSw; go_simp; all_goals with_reducible rfl)
  try simp only [Act.put, List.setIfInBounds_toArray, List.set_cons_zero, List.set_cons_succ]
  refine wpAnyK_take (i := 18) (v := ?_) (some 48) rfl rfl hdep (by kernel_rfl) (fun _ _ _ h => h) (Or.inl ⟨by rfl, ?_⟩) (by assumption) ?_
  rotate_left
  · (intro w hSw; go_simp; all_goals with_reducible rfl)
  try simp only [Act.put, List.setIfInBounds_toArray, List.set_cons_zero, List.set_cons_succ]
  refine wpAnyK_take (i := 19) (v := ?_) (some 49) rfl rfl hdep (by kernel_rfl) (fun _ _ _ h => h) (Or.inl ⟨by rfl, ?_⟩) (by assumption) ?_
  rotate_left
  · (intro w hSw; go_simp; all_goals with_reducible rfl)
  try simp only [Act.put, List.setIfInBounds_toArray, List.set_cons_zero, List.set_cons_succ]
  refine wpAnyK_take (i := 20) (v := ?_) (some 50) rfl rfl hdep (by kernel_rfl) (fun _ _ _ h => h) (Or.inl ⟨by rfl, ?_⟩) (by assumption) ?_
  rotate_left
  · (intro w hSw; go_simp; all_goals with_reducible rfl)
  try simp only [Act.put, List.setIfInBounds_toArray, List.set_cons_zero, List.set_cons_succ]
  refine wpAnyK_one (i := 5) (by kernel_rfl) rfl (fun K hK => ?_)
  go_simp
  refine hK.out _ _ (fun _ => KS _ B1.drew) ?_
  clear hK K
  try simp only [Act.put, List.setIfInBounds_toArray, List.set_cons_zero, List.set_cons_succ]
  refine wpAnyK_one (i := 13) (by kernel_rfl) rfl (fun K hK => ?_)
  refine step_app rfl (.tmp 35) (.tmp 42) rfl w.heap.size _ 0 [] rfl OW.drew _ _ _ (ints Y) rfl HY.out (ry.reads.but B1.drew) (by omega) (by simp [World.drew]) ?_
  intro v2 w2 ho2 hg2
  rw [Nat.zero_add, List.nil_append] at ho2
  have hb2 : But [] w w2 := B1.drew.grown hg2 (fun k e => by cases e; exact Nat.le_refl _)
  obtain ⟨sa2, sc2, rfl⟩ := own_shape ho2
  refine hK.out _ _ (fun _ => KS _ hb2) ?_
  clear hK K
  try simp only [Act.put, List.setIfInBounds_toArray, List.set_cons_zero, List.set_cons_succ]
  refine wpAnyK_one (i := 21) (by kernel_rfl) rfl (fun K hK => ?_)
  refine step_app rfl (.tmp 43) (.tmp 50) rfl w.heap.size _ Y.length (ints Y) rfl ho2 _ _ _ (ints X) rfl HX.out (rx.reads.but hb2) (by omega) (by have := hb2.size; omega) ?_
  intro v3 w3 ho3 hg3
  have hb3 : But [] w w3 := hb2.grown hg3 (fun k e => (ho2.lt k e).1)
  obtain ⟨sa3, sc3, rfl⟩ := own_shape ho3
  obtain ⟨g1, g2, g3, g4⟩ := HF _ hb3
  obtain ⟨i1, i2, u, i3⟩ := HG _ (.slice sa3 (Y.length + X.length) sc3) hb3
  refine hK.out _ _ (fun _ => KS _ hb3) ?_
  clear hK K
  try simp only [Act.put, List.setIfInBounds_toArray, List.set_cons_zero, List.set_cons_succ]
  refine wpAnyK_take (i := 22) (v := ?_) (some 52) rfl rfl hdep (by kernel_rfl) (fun _ _ _ h => h) (Or.inl ⟨by rfl, ?_⟩) (KS _ hb3) ?_
  rotate_left
  · (intro w hSw; go_simp; all_goals with_reducible rfl)
  try simp only [Act.put, List.setIfInBounds_toArray, List.set_cons_zero, List.set_cons_succ]
  refine wpAnyK_one (i := 23) (by kernel_rfl) rfl (fun K hK => ?_)
  go_simp
  refine hK.out _ _ (fun h => absurd rfl h) ?_
  clear hK K
  try simp only [Act.put, List.setIfInBounds_toArray, List.set_cons_zero, List.set_cons_succ]
  refine wpAnyK_done (by kernel_rfl) ?_
  go_wp2_with fail
  go_ret2
  have R3 : RowI w3 lo (.slice sa3 (Y.length + X.length) sc3) (ints Y ++ ints X) := by
    unfold RowI
    rw [List.length_append, HX.out, HY.out]
    exact row_lower ho3 hlo
  obtain ⟨r1, r2⟩ := PT _ _ hb3 R3
  exact ⟨rfl, r1, r2⟩

theorem rmove_any (hrl : RL w lo M LB N L ls) (a b : Int) :
    Calls Try.prog 31 #[.pointer (some ⟨M, 0, none⟩), .int .i64 a, .int .i64 b] w fun e w' => e = .returned (.tuple #[.int .i64 (moveV L ls a b), .int .i64 (moveE L a b)]) ∧ RL w' lo M LB N L (moveS L ls a b) ∧ But [LB] w w' := by
  unfold moveV moveS
  by_cases hz : moveE L a b = 0
  · rw [if_pos hz, if_pos hz, hz]
    obtain ⟨i, j, rfl, rfl, hi, hj, hij⟩ := moveE_zero hz
    rw [Int.toNat_natCast, Int.toNat_natCast, set_set_ne hij]
    exact rmove_in hrl i j hi hj hij
  · rw [if_neg hz, if_neg hz]
    have H1 := rlist_any hrl a
    have H2 := rlist_any hrl b
    unfold moveE at hz ⊢
    generalize inN L a = b1 at *
    generalize inN L b = b2 at *
    cases b1 with
    | false =>
      go_enter Try.func31, Try.ntmps31
      go_wp2_with (first
        | (go_at_call 34; (with_reducible refine H1.mono ?_); rintro e w' ⟨rfl, hw⟩; subst w'))
      go_ret2
      exact ⟨by simp, hrl, But.refl _ _⟩
    | true =>
      cases b2 with
      | false =>
        go_enter Try.func31, Try.ntmps31
        go_wp2_with (first
          | (go_at_call 34; (with_reducible refine H1.mono ?_); rintro e w' ⟨rfl, hw⟩; subst w')
          | (go_at_call 34; (with_reducible refine H2.mono ?_); rintro e w' ⟨rfl, hw⟩; subst w'))
        go_ret2
        exact ⟨by simp, hrl, But.refl _ _⟩
      | true =>
        have hab : a = b := by
          by_cases e : a = b
          · exact e
          · simp [e] at hz
        subst hab
        clear hz
        go_enter Try.func31, Try.ntmps31
        go_wp2_with (first
          | (go_at_call 34; refine H1.mono ?_; rintro e w' ⟨rfl, hw⟩; subst w'))
        go_ret2
        exact ⟨by simp, hrl, But.refl _ _⟩
end

end Go.Proofs.Ytpaedcknhlojkaa
