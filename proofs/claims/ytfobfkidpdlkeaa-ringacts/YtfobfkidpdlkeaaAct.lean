/- The contract of the statements' act: the queue and the reference's tell the same, and go on alike. -/
import Derived.Test.YtfobfkidpdlkeaaFind
import Derived.Deep.RegionWith
namespace Go.Proofs.Ytfobfkidpdlkeaa
open Go.RowKit

/-- A queue and the reference's, laid behind it, with the same numbers. -/
structure Pair (w : World) (B G lo M n : Nat) (q : List Int) : Prop where
  r : RQ w B G n q
  m : RF w lo M n q
  lb : B < lo ∧ B ≠ M
  lg : G < lo ∧ G ≠ M
  lo : lo ≤ w.heap.size

/-- What becomes of a queue's numbers. -/
def actQ (n : Nat) (q : List Int) (k x : Int) : List Int :=
  if k = 0 then addQ n q (q ++ [x]) else if k = 1 then addQ n q (x :: q) else if k = 2 then q.tail else if k = 3 then q.dropLast else if k = 4 then takeQ q (findI q x 0) else q

section
variable {w W W' : World} {B G lo M n : Nat} {q q' : List Int}
theorem But.three (h : But [B, G] W W') : But [B, G, M] W W' := h.mono (by simp)
theorem But.third (h : But [M] W W') : But [B, G, M] W W' := h.mono (by simp)
theorem RF.left (h : RF W lo M n q) (b : But [B, G] W W') (h1 : B < lo ∧ B ≠ M) (h2 : G < lo ∧ G ≠ M) : RF W' lo M n q := h.but b (by simp; omega)
theorem RQ.right (h : RQ W B G n q) (b : But [M] W W') (h1 : B < lo ∧ B ≠ M) (h2 : G < lo ∧ G ≠ M) : RQ W' B G n q := h.but b (by simp; omega) (by simp; omega)
theorem cell3 (h : But [B, G, M] W W') {A o : Nat} {v : Value} (hc : W.cell? ⟨A, o, none⟩ = some v) (h1 : M < A) (h2 : B < A) (h3 : G < A) : W'.cell? ⟨A, o, none⟩ = some v :=
  (World.cell?_of_block (a := ⟨A, o, none⟩) (h.block A (World.block_lt_of_cell? W ⟨A, o, none⟩ hc) (by simp; omega))).trans hc

set_option maxRecDepth 100000 in
set_option maxHeartbeats 2000000 in
theorem act_push (h : Pair w B G lo M n q) (x : Int) :
    Calls Try.prog 10 #[.pointer (some ⟨B, 0, none⟩), .pointer (some ⟨M, 0, none⟩), .agg #[.int .i64 0, .int .i64 x]] w fun e w' => e = .returned (.bool true) ∧ Pair w' B G lo M n (addQ n q (q ++ [x])) ∧ But [B, G, M] w w' := by
  obtain ⟨hr, hm, lb, lg, llo⟩ := h
  obtain ⟨tB, tG, -⟩ := hr.lt
  have hlt := hm.lt
  have ba : But [B, G, M] w (w.alloc (.cells #[.int .i64 0, .int .i64 x] 29)) := (But.refl _ w).alloc _
  have hr1 := hr.below ((Below.refl _ w).alloc (Nat.le_refl _) (.cells #[.int .i64 0, .int .i64 x] 29))
  have hm1 := hm.below ((Below.refl _ w).alloc (Nat.le_refl _) (.cells #[.int .i64 0, .int .i64 x] 29))
  have c0 : (w.alloc (.cells #[.int .i64 0, .int .i64 x] 29)).cell? ⟨w.heap.size, 0, none⟩ = some (.int .i64 0) := by simp [go_sem]
  have c1 : (w.alloc (.cells #[.int .i64 0, .int .i64 x] 29)).cell? ⟨w.heap.size, 1, none⟩ = some (.int .i64 x) := by simp [go_sem]
  have s1 := Nat.le_trans llo ba.size
  clear hr hm
  go_enter Try.func10, Try.ntmps10
  go_wp2_with fail
  generalize w.alloc (.cells #[.int .i64 0, .int .i64 x] 29) = W0 at ba hr1 hm1 c0 c1 s1 ⊢
  go_region_with (first
    | (go_at_call 19; refine (push_q (RQ.drawn hr1 ⟨1, rfl⟩) x).mono ?_; rintro e w2 ⟨rfl, hr2, b2⟩; have s2 : lo ≤ w2.heap.size := Nat.le_trans s1 b2.size; have hm2 := (RF.but (S := []) hm1 ((But.refl [] W0).drew) (by simp)).left b2 lb lg; have c2 := cell3 (((But.refl [B, G, M] W0).drew).trans b2.three) c1 hlt tB tG)
    | (go_at_call 25; refine (rpush_any hm2 s2 x).mono ?_; rintro e w3 ⟨rfl, hm3, b3⟩; have hr3 := hr2.right b3 lb lg))
  all_goals
    go_wp2_with fail
    go_ret
    exact ⟨rfl, ⟨hr3, hm3, lb, lg, Nat.le_trans s2 b3.size⟩, ((ba.drew.trans b2.three).trans b3.third)⟩

set_option maxRecDepth 100000 in
set_option maxHeartbeats 2000000 in
theorem act_front (h : Pair w B G lo M n q) (x : Int) :
    Calls Try.prog 10 #[.pointer (some ⟨B, 0, none⟩), .pointer (some ⟨M, 0, none⟩), .agg #[.int .i64 1, .int .i64 x]] w fun e w' => e = .returned (.bool true) ∧ Pair w' B G lo M n (addQ n q (x :: q)) ∧ But [B, G, M] w w' := by
  obtain ⟨hr, hm, lb, lg, llo⟩ := h
  obtain ⟨tB, tG, -⟩ := hr.lt
  have hlt := hm.lt
  have ba : But [B, G, M] w (w.alloc (.cells #[.int .i64 1, .int .i64 x] 29)) := (But.refl _ w).alloc _
  have hr1 := hr.below ((Below.refl _ w).alloc (Nat.le_refl _) (.cells #[.int .i64 1, .int .i64 x] 29))
  have hm1 := hm.below ((Below.refl _ w).alloc (Nat.le_refl _) (.cells #[.int .i64 1, .int .i64 x] 29))
  have c0 : (w.alloc (.cells #[.int .i64 1, .int .i64 x] 29)).cell? ⟨w.heap.size, 0, none⟩ = some (.int .i64 1) := by simp [go_sem]
  have c1 : (w.alloc (.cells #[.int .i64 1, .int .i64 x] 29)).cell? ⟨w.heap.size, 1, none⟩ = some (.int .i64 x) := by simp [go_sem]
  have s1 := Nat.le_trans llo ba.size
  clear hr hm
  go_enter Try.func10, Try.ntmps10
  go_wp2_with fail
  generalize w.alloc (.cells #[.int .i64 1, .int .i64 x] 29) = W0 at ba hr1 hm1 c0 c1 s1 ⊢
  go_region_with (first
    | (go_at_call 22; refine (front_q (RQ.drawn hr1 ⟨1, rfl⟩) x).mono ?_; rintro e w2 ⟨rfl, hr2, b2⟩; have s2 : lo ≤ w2.heap.size := Nat.le_trans s1 b2.size; have hm2 := (RF.but (S := []) hm1 ((But.refl [] W0).drew) (by simp)).left b2 lb lg; have c2 := cell3 (((But.refl [B, G, M] W0).drew).trans b2.three) c1 hlt tB tG)
    | (go_at_call 26; refine (rfront_any hm2 s2 x).mono ?_; rintro e w3 ⟨rfl, hm3, b3⟩; have hr3 := hr2.right b3 lb lg))
  all_goals
    go_wp2_with fail
    go_ret
    exact ⟨rfl, ⟨hr3, hm3, lb, lg, Nat.le_trans s2 b3.size⟩, ((ba.drew.trans b2.three).trans b3.third)⟩

set_option maxRecDepth 100000 in
set_option maxHeartbeats 2000000 in
theorem act_remove (h : Pair w B G lo M n q) (x : Int) :
    Calls Try.prog 10 #[.pointer (some ⟨B, 0, none⟩), .pointer (some ⟨M, 0, none⟩), .agg #[.int .i64 4, .int .i64 x]] w fun e w' => e = .returned (.bool true) ∧ Pair w' B G lo M n (takeQ q (findI q x 0)) ∧ But [B, G, M] w w' := by
  obtain ⟨hr, hm, lb, lg, llo⟩ := h
  obtain ⟨tB, tG, -⟩ := hr.lt
  have hlt := hm.lt
  have ba : But [B, G, M] w (w.alloc (.cells #[.int .i64 4, .int .i64 x] 29)) := (But.refl _ w).alloc _
  have hr1 := hr.below ((Below.refl _ w).alloc (Nat.le_refl _) (.cells #[.int .i64 4, .int .i64 x] 29))
  have hm1 := hm.below ((Below.refl _ w).alloc (Nat.le_refl _) (.cells #[.int .i64 4, .int .i64 x] 29))
  have c0 : (w.alloc (.cells #[.int .i64 4, .int .i64 x] 29)).cell? ⟨w.heap.size, 0, none⟩ = some (.int .i64 4) := by simp [go_sem]
  have c1 : (w.alloc (.cells #[.int .i64 4, .int .i64 x] 29)).cell? ⟨w.heap.size, 1, none⟩ = some (.int .i64 x) := by simp [go_sem]
  have s1 := Nat.le_trans llo ba.size
  clear hr hm
  go_enter Try.func10, Try.ntmps10
  go_wp2_with fail
  generalize w.alloc (.cells #[.int .i64 4, .int .i64 x] 29) = W0 at ba hr1 hm1 c0 c1 s1 ⊢
  go_region_with (first
    | (go_at_call 24; refine (remove_q (RQ.drawn hr1 ⟨1, rfl⟩) x).mono ?_; rintro e w2 ⟨rfl, hr2, b2⟩; have s2 : lo ≤ w2.heap.size := Nat.le_trans s1 b2.size; have hm2 := (RF.but (S := []) hm1 ((But.refl [] W0).drew) (by simp)).left b2 lb lg; have c2 := cell3 (((But.refl [B, G, M] W0).drew).trans b2.three) c1 hlt tB tG)
    | (go_at_call 29; refine (rremove_any hm2 s2 x).mono ?_; rintro e w3 ⟨rfl, hm3, b3⟩; have hr3 := hr2.right b3 lb lg))
  all_goals
    go_wp2_with fail
    go_ret
    exact ⟨rfl, ⟨hr3, hm3, lb, lg, Nat.le_trans s2 b3.size⟩, ((ba.drew.trans b2.three).trans b3.third)⟩

set_option maxRecDepth 100000 in
set_option maxHeartbeats 2000000 in
theorem act_pop (h : Pair w B G lo M n q) (x : Int) :
    Calls Try.prog 10 #[.pointer (some ⟨B, 0, none⟩), .pointer (some ⟨M, 0, none⟩), .agg #[.int .i64 2, .int .i64 x]] w fun e w' => e = .returned (.bool true) ∧ Pair w' B G lo M n q.tail ∧ But [B, G, M] w w' := by
  obtain ⟨hr, hm, lb, lg, llo⟩ := h
  obtain ⟨tB, tG, -⟩ := hr.lt
  have hlt := hm.lt
  have ba : But [B, G, M] w (w.alloc (.cells #[.int .i64 2, .int .i64 x] 29)) := (But.refl _ w).alloc _
  have hr1 := hr.below ((Below.refl _ w).alloc (Nat.le_refl _) (.cells #[.int .i64 2, .int .i64 x] 29))
  have hm1 := hm.below ((Below.refl _ w).alloc (Nat.le_refl _) (.cells #[.int .i64 2, .int .i64 x] 29))
  have c0 : (w.alloc (.cells #[.int .i64 2, .int .i64 x] 29)).cell? ⟨w.heap.size, 0, none⟩ = some (.int .i64 2) := by simp [go_sem]
  have P1 := pop_q hr1
  have P2 : ∀ W, RF W lo M n q → lo ≤ W.heap.size → Calls Try.prog 27 #[.pointer (some ⟨M, 0, none⟩)] W fun e w' => e = .returned (.tuple #[.int .i64 (q.headD 0), .bool (!q.isEmpty)]) ∧ RF w' lo M n q.tail ∧ But [M] W w' := fun W h k => rpop_any h k
  generalize q.headD 0 = y at P1 P2
  generalize (!q.isEmpty) = z at P1 P2
  have s1 := Nat.le_trans llo ba.size
  clear hr hm
  go_enter Try.func10, Try.ntmps10
  go_wp2_with (first
    | (go_at_call 20; refine P1.mono ?_; rintro e w2 ⟨rfl, hr2, b2⟩; have s2 : lo ≤ w2.heap.size := Nat.le_trans s1 b2.size; have hm2 := hm1.left b2 lb lg)
    | (go_at_call 27; refine (P2 _ hm2 s2).mono ?_; rintro e w3 ⟨rfl, hm3, b3⟩; have hr3 := hr2.right b3 lb lg))
  all_goals
    go_ret
    exact ⟨by simp, ⟨hr3, hm3, lb, lg, Nat.le_trans s2 b3.size⟩, ((ba.trans b2.three).trans b3.third)⟩

set_option maxRecDepth 100000 in
set_option maxHeartbeats 2000000 in
theorem act_back (h : Pair w B G lo M n q) (x : Int) :
    Calls Try.prog 10 #[.pointer (some ⟨B, 0, none⟩), .pointer (some ⟨M, 0, none⟩), .agg #[.int .i64 3, .int .i64 x]] w fun e w' => e = .returned (.bool true) ∧ Pair w' B G lo M n q.dropLast ∧ But [B, G, M] w w' := by
  obtain ⟨hr, hm, lb, lg, llo⟩ := h
  obtain ⟨tB, tG, -⟩ := hr.lt
  have hlt := hm.lt
  have ba : But [B, G, M] w (w.alloc (.cells #[.int .i64 3, .int .i64 x] 29)) := (But.refl _ w).alloc _
  have hr1 := hr.below ((Below.refl _ w).alloc (Nat.le_refl _) (.cells #[.int .i64 3, .int .i64 x] 29))
  have hm1 := hm.below ((Below.refl _ w).alloc (Nat.le_refl _) (.cells #[.int .i64 3, .int .i64 x] 29))
  have c0 : (w.alloc (.cells #[.int .i64 3, .int .i64 x] 29)).cell? ⟨w.heap.size, 0, none⟩ = some (.int .i64 3) := by simp [go_sem]
  have P1 := back_q hr1
  have P2 : ∀ W, RF W lo M n q → lo ≤ W.heap.size → Calls Try.prog 28 #[.pointer (some ⟨M, 0, none⟩)] W fun e w' => e = .returned (.tuple #[.int .i64 (q.getLastD 0), .bool (!q.isEmpty)]) ∧ RF w' lo M n q.dropLast ∧ But [M] W w' := fun W h k => rback_any h k
  generalize q.getLastD 0 = y at P1 P2
  generalize (!q.isEmpty) = z at P1 P2
  have s1 := Nat.le_trans llo ba.size
  clear hr hm
  go_enter Try.func10, Try.ntmps10
  go_wp2_with (first
    | (go_at_call 21; refine P1.mono ?_; rintro e w2 ⟨rfl, hr2, b2⟩; have s2 : lo ≤ w2.heap.size := Nat.le_trans s1 b2.size; have hm2 := hm1.left b2 lb lg)
    | (go_at_call 28; refine (P2 _ hm2 s2).mono ?_; rintro e w3 ⟨rfl, hm3, b3⟩; have hr3 := hr2.right b3 lb lg))
  all_goals
    go_ret
    exact ⟨by simp, ⟨hr3, hm3, lb, lg, Nat.le_trans s2 b3.size⟩, ((ba.trans b2.three).trans b3.third)⟩

set_option maxRecDepth 100000 in
theorem act_else (h : Pair w B G lo M n q) (k x : Int) (h0 : ¬ k = 0) (h1 : ¬ k = 1) (h2 : ¬ k = 2) (h3 : ¬ k = 3) (h4 : ¬ k = 4) :
    Calls Try.prog 10 #[.pointer (some ⟨B, 0, none⟩), .pointer (some ⟨M, 0, none⟩), .agg #[.int .i64 k, .int .i64 x]] w fun e w' => e = .returned (.bool true) ∧ Pair w' B G lo M n q ∧ But [B, G, M] w w' := by
  obtain ⟨hr, hm, lb, lg, llo⟩ := h
  obtain ⟨tB, tG, -⟩ := hr.lt
  have ba : But [B, G, M] w (w.alloc (.cells #[.int .i64 k, .int .i64 x] 29)) := (But.refl _ w).alloc _
  have hr1 := hr.below ((Below.refl _ w).alloc (Nat.le_refl _) (.cells #[.int .i64 k, .int .i64 x] 29))
  have hm1 := hm.below ((Below.refl _ w).alloc (Nat.le_refl _) (.cells #[.int .i64 k, .int .i64 x] 29))
  have e0 : (k == 0) = false := by simpa using h0
  have e1 : (k == 1) = false := by simpa using h1
  have e2 : (k == 2) = false := by simpa using h2
  have e3 : (k == 3) = false := by simpa using h3
  have e4 : (k == 4) = false := by simpa using h4
  have s1 := Nat.le_trans llo ba.size
  clear hr hm
  go_enter Try.func10, Try.ntmps10
  go_wp2_with fail
  go_ret
  exact ⟨rfl, ⟨hr1, hm1, lb, lg, s1⟩, ba⟩

theorem act_any (h : Pair w B G lo M n q) (k x : Int) :
    Calls Try.prog 10 #[.pointer (some ⟨B, 0, none⟩), .pointer (some ⟨M, 0, none⟩), .agg #[.int .i64 k, .int .i64 x]] w fun e w' => e = .returned (.bool true) ∧ Pair w' B G lo M n (actQ n q k x) ∧ But [B, G, M] w w' := by
  unfold actQ
  by_cases h0 : k = 0
  · subst h0; rw [if_pos rfl]; exact act_push h x
  · rw [if_neg h0]
    by_cases h1 : k = 1
    · subst h1; rw [if_pos rfl]; exact act_front h x
    · rw [if_neg h1]
      by_cases h2 : k = 2
      · subst h2; rw [if_pos rfl]; exact act_pop h x
      · rw [if_neg h2]
        by_cases h3 : k = 3
        · subst h3; rw [if_pos rfl]; exact act_back h x
        · rw [if_neg h3]
          by_cases h4 : k = 4
          · subst h4; rw [if_pos rfl]; exact act_remove h x
          · rw [if_neg h4]; exact act_else h k x h0 h1 h2 h3 h4
end

end Go.Proofs.Ytfobfkidpdlkeaa
