/- Contract of Move. -/
import Derived.Test.YtpaedcknhlojkaaMoveM
import Derived.Test.YtpaedcknhlojkaaQuietT
import Derived.Test.YtpaedcknhlojkaaAllI
import Derived.ControlIn
namespace Go.Proofs.Ytpaedcknhlojkaa
open Go.RowKit Go.Shelf
attribute [local go_sem] Oper.semAt_some

section
variable {w : World} {P : Pl} {N L : Nat} {ls : List (List Nat)}

theorem more_move {ba bb : Nat} {a b : Int} (h0 : w.cell? ⟨ba, 0, none⟩ = some (.int .i64 a)) (h1 : w.cell? ⟨bb, 0, none⟩ = some (.int .i64 b)) :
    Calls Try.prog 39 #[.pointer (some ⟨ba, 0, none⟩), .pointer (some ⟨bb, 0, none⟩)] w fun e w' => e = .returned (.int .i64 (if a = b then 2 else 0)) ∧ Drawn w w' := by
  by_cases hy : a = b
  · subst hy
    rw [if_pos rfl]
    go_enter Try.func39, Try.ntmps39
    go_wp2_with fail
    go_ret
    exact ⟨rfl, Drawn.refl _⟩
  · rw [if_neg hy]
    have hy' : (a == b) = false := by simpa using hy
    go_enter Try.func39, Try.ntmps39
    go_wp2_with fail
    go_ret
    exact ⟨rfl, Drawn.refl _⟩

theorem ask_move {ba bb : Nat} {r : Int} (h : LQ w P N L ls) (H : Calls Try.prog 39 #[.pointer (some ⟨ba, 0, none⟩), .pointer (some ⟨bb, 0, none⟩)] w fun e w' => e = .returned (.int .i64 r) ∧ Drawn w w') :
    Calls Try.prog 38 #[.pointer (some ⟨P.B, 0, none⟩), .bool true, .func (.func 39) #[] #[.pointer (some ⟨ba, 0, none⟩), .pointer (some ⟨bb, 0, none⟩)]] w fun e w' => e = .returned (.int .i64 r) ∧ Drawn w w' := by
  obtain ⟨nx, pv, hm, -⟩ := h
  go_enter Try.func38, Try.ntmps38
  go_wp2_with (first
    | (go_at_call 41; refine (made_any hm).mono ?_; rintro e w' ⟨rfl, hw⟩; subst w')
    | (go_at_call 39; refine H.mono ?_; rintro e w' ⟨rfl, hd⟩))
  go_ret
  exact ⟨rfl, hd⟩

theorem askMove_any (h : LQ w P N L ls) (a b : Int) (ba bb : Nat) (h0 : w.cell? ⟨ba, 0, none⟩ = some (.int .i64 a)) (h1 : w.cell? ⟨bb, 0, none⟩ = some (.int .i64 b)) :
    Calls Try.prog 38 #[.pointer (some ⟨P.B, 0, none⟩), .bool (inN L a && inN L b), .func (.func 39) #[] #[.pointer (some ⟨ba, 0, none⟩), .pointer (some ⟨bb, 0, none⟩)]] w fun e w' => e = .returned (.int .i64 (moveE L a b)) ∧ Drawn w w' := by
  unfold moveE
  cases hb : (inN L a && inN L b) with
  | false =>
    refine (ask_range h _).mono ?_
    rintro e w' ⟨rfl, rfl⟩
    exact ⟨by simp, Drawn.refl _⟩
  | true =>
    rw [if_pos rfl]
    exact ask_move h (more_move h0 h1)

/-- Three boxes laid. -/
theorem box_three (w : World) (t u s : TypeId) (x y z : Value) : (((w.alloc (.cells #[x] t)).alloc (.cells #[y] u)).alloc (.cells #[z] s)).cell? ⟨w.heap.size, 0, none⟩ = some x ∧ (((w.alloc (.cells #[x] t)).alloc (.cells #[y] u)).alloc (.cells #[z] s)).cell? ⟨w.heap.size + 1, 0, none⟩ = some y ∧ (((w.alloc (.cells #[x] t)).alloc (.cells #[y] u)).alloc (.cells #[z] s)).cell? ⟨w.heap.size + 1 + 1, 0, none⟩ = some z := by
  obtain ⟨h0, h1⟩ := box_two w t u x y
  refine ⟨cell_on ((Below.refl _ _).alloc (Nat.le_refl _) _) h0, cell_on ((Below.refl _ _).alloc (Nat.le_refl _) _) h1, ?_⟩
  have := box_one ((w.alloc (.cells #[x] t)).alloc (.cells #[y] u)) s z
  rwa [World.size_alloc, World.size_alloc] at this

set_option maxHeartbeats 2000000 in
theorem move_err (h : LQ w P N L ls) (a b : Int) (hz : moveE L a b ≠ 0) :
    Calls Try.prog 20 #[.pointer (some ⟨P.B, 0, none⟩), .int .i64 a, .int .i64 b] w fun e w' => e = .returned (.tuple #[.int .i64 0, .int .i64 (moveE L a b)]) ∧ LQ w' P N L ls ∧ But P.S w w' := by
  have hB : But [] w (((w.alloc (.cells #[.pointer (some ⟨P.B, 0, none⟩)] 27)).alloc (.cells #[.int .i64 a] 3)).alloc (.cells #[.int .i64 b] 3)) := (((But.refl [] w).alloc _).alloc _).alloc _
  obtain ⟨x0, x1, x2⟩ := box_three w 27 3 3 (.pointer (some ⟨P.B, 0, none⟩)) (.int .i64 a) (.int .i64 b)
  have h' := h.keep hB
  have H1 : ∀ W, LQ W P N L ls → Calls Try.prog 33 #[.pointer (some ⟨P.B, 0, none⟩), .int .i64 a] W fun e w' => e = .returned (.bool (inN L a)) ∧ w' = W := fun W ⟨_, _, hm, _⟩ => hasList_any hm a
  have H2 : ∀ W, LQ W P N L ls → Calls Try.prog 33 #[.pointer (some ⟨P.B, 0, none⟩), .int .i64 b] W fun e w' => e = .returned (.bool (inN L b)) ∧ w' = W := fun W ⟨_, _, hm, _⟩ => hasList_any hm b
  have HA : ∀ W, LQ W P N L ls → W.cell? ⟨w.heap.size + 1, 0, none⟩ = some (.int .i64 a) → W.cell? ⟨w.heap.size + 1 + 1, 0, none⟩ = some (.int .i64 b) → Calls Try.prog 38 #[.pointer (some ⟨P.B, 0, none⟩), .bool (inN L a && inN L b), .func (.func 39) #[] #[.pointer (some ⟨w.heap.size + 1, 0, none⟩), .pointer (some ⟨w.heap.size + 1 + 1, 0, none⟩)]] W fun e w' => e = .returned (.int .i64 (moveE L a b)) ∧ Drawn W w' := fun W h p q => askMove_any h a b _ _ p q
  generalize moveE L a b = r at *
  have hz' : (r == 0) = false := by simpa using hz
  generalize inN L a = b1 at *
  generalize inN L b = b2 at *
  clear h hz
  go_enter Try.func20, Try.ntmps20
  go_wp2_with fail
  generalize (((w.alloc (.cells #[.pointer (some ⟨P.B, 0, none⟩)] 27)).alloc (.cells #[.int .i64 a] 3)).alloc (.cells #[.int .i64 b] 3)) = W0 at *
  cases b1 with
  | false =>
    go_quiet (first
      | (go_at_call 33; exact Calls.quiet_of_same (H1 _ (h'.drawn ⟨_, rfl⟩)))
      | (go_at_call 38; exact Calls.quiet_of (HA _ (h'.drawn ⟨_, rfl⟩) x1 x2)))
    go_wp2_with fail
    go_ret2
    exact ⟨rfl, h'.drawn ⟨_, rfl⟩, (hB.drewN nq).wide⟩
  | true =>
    simp only [Bool.true_and] at HA
    have G1 := fun n => H1 (W0.drewN n) (h'.drawn ⟨n, rfl⟩)
    have G2 := fun n => H2 (W0.drewN n) (h'.drawn ⟨n, rfl⟩)
    go_quiet (first
      | (go_at_call 33; first | (with_reducible exact Calls.quiet_of_same (G1 _)) | (with_reducible exact Calls.quiet_of_same (G2 _)))
      | (go_at_call 38; exact Calls.quiet_of (HA _ (h'.drawn ⟨_, rfl⟩) x1 x2)))
    go_wp2_with fail
    go_ret2
    exact ⟨rfl, h'.drawn ⟨_, rfl⟩, (hB.drewN nq).wide⟩
end

end Go.Proofs.Ytpaedcknhlojkaa
