/- State, Where, Waiters. -/
import Derived.Test.YtmbpmcgppnanpaaJlS
import Derived.Test.YtmbpmcgppnanpaaJlR
import Derived.Test.YtmbpmcgppnanpaaLkOwn
namespace Go.Proofs.Ytmbpmcgppnanpaa.Jl
open Go Go.RowKit Go.Shelf Go.Proofs.Ytmbpmcgppnanpaa.Bs Go.Proofs.Ytmbpmcgppnanpaa.Jn
open Go.Proofs.Ytmbpmcgppnanpaa.Ids (right indexI ageI idI index_any)
open Go.Proofs.Ytmbpmcgppnanpaa.Lk (LQ Pl iv ints wI wI_nat whI_cases where_any Src all_stops all_any lsI lsI_nat)
variable {w w' : World} {B t j n : Nat} {P : Pl} {σ : St} {ls : List (List Nat)} {wt : List Int}

/-- What is known of a thread, by its numbers. -/
theorem of_parts (H : Ok n σ) (id : Int) : ∃ a b c, ofI σ id = agK a b c ∧ b = stI σ id ∧ (a == id && (b == 1 && c == 0)) = decide (stI σ id = 1) ∧ (a == 0 && (b == 0 && c == 0)) = decide (stI σ id = 0) ∧ (stI σ id = 2 → c = (at_ σ id).va) := by
  unfold ofI
  by_cases h0 : stI σ id = 0
  · rw [if_pos h0]
    exact ⟨0, 0, 0, rfl, h0.symm, by rw [h0]; simp, by rw [h0]; simp, fun h => by omega⟩
  rw [if_neg h0]
  refine ⟨_, _, _, rfl, rfl, ?_, ?_, fun h => ?_⟩
  · by_cases h1 : stI σ id = 1
    · obtain ⟨i, -, -, -, -, ea, -, en⟩ := H.st1 h1
      rw [ea]
      unfold vaN
      rw [en, h1]
      simp
    · simp [h1]
  · simp [h0]
  · unfold vaN
    rw [if_pos]
    unfold stI at h
    split at h
    · omega
    split at h
    · omega
    split at h
    · assumption
    · omega
section
set_option maxRecDepth 100000
set_option maxHeartbeats 1000000
theorem state_any (h : PM w B t j P n σ ls wt) (H : Ok n σ) (id : Int) (hi : Iv id) : Calls Try.prog 17 #[.pointer (some ⟨B, 0, none⟩), .int .i64 id] w fun e w' => e = .returned (.int .i64 (stI σ id)) ∧ Below w.heap.size w w' := by
  have HO := of_any h H id hi
  obtain ⟨a, b, c, e, eb, -, -, -⟩ := of_parts H id
  rw [e] at HO
  rw [← eb]
  clear eb
  unfold agK at HO
  have F1 := fieldK1
  go_enter Try.func17, Try.ntmps17
  go_wp2_with (first | (go_at_call 35; (with_reducible refine HO.mono ?_); rintro e w1 ⟨rfl, b1⟩))
  go_ret
  exact ⟨rfl, b1⟩
theorem where_drawn (h : PM w B t j P n σ ls wt) (l : Li n σ ls wt) (H : Ok n σ) (y : Int) (hi : Iv y) : Calls Try.prog 14 #[.pointer (some ⟨B, 0, none⟩), .int .i64 y] w fun e w' => e = .returned (.int .i64 (whI σ y)) ∧ ∃ m, w' = w.drewN m := by
  have HH := fun m => has_any (h.keep ((But.refl [] w).drewN m)) y hi
  by_cases hp : plc σ y < 0
  · have e0 : whI σ y = 0 := by unfold whI; rw [l.inR_out H hp]
    rw [e0]
    rw [decide_eq_false (not_not_intro hp)] at HH
    go_enter Try.func14, Try.ntmps14
    go_wp2_with fail
    go_quiet (first | (go_at_call 39; exact Calls.quiet_of_same (HH _)))
    go_wp2_with fail
    go_ret
    exact ⟨rfl, _, rfl⟩
  rw [decide_eq_true hp] at HH
  obtain ⟨k, e1, hk, e3, e4⟩ := H.plc hp
  have hk' : (k : Int) < (n : Int) := by omega
  have hN := H.n2
  have I := fun X => index_any y hi.1 hi.2 X
  rw [e3] at I
  obtain ⟨c, hc, c2⟩ := h.c2
  have xj := h.xj hk
  by_cases hw : wtI wt k = y
  rotate_left
  · have e0 : whI σ y = 0 := by unfold whI; rw [l.inR_other H e3 hw]
    rw [e0]
    have hne : (wtI wt k != y) = true := by simpa using hw
    generalize wtI wt k = z at *
    clear hw
    go_enter Try.func14, Try.ntmps14
    go_wp2_with fail
    go_quiet (first
      | (go_at_call 39; exact Calls.quiet_of_same (HH _))
      | (go_at_call 34; exact Calls.quiet_of_same (I _)))
    go_wp2_with fail
    go_ret
    exact ⟨rfl, _, rfl⟩
  have c1 := h.c1
  have W := fun X (hX : But [] w X) => where_any (h.keep hX).q (k : Int)
  rw [wI_nat] at W
  have hne : (y != y) = false := by simp
  rcases l.wh k with ⟨e5, -⟩ | ⟨i, hi2, hm, e5⟩
  · have e0 : whI σ y = 0 := by unfold whI; rw [l.inR_no H e3 e5]
    rw [e0]
    rw [e5] at W
    rw [hw] at xj
    clear hw
    go_enter Try.func14, Try.ntmps14
    go_wp2_with fail
    go_quiet (first
      | (go_at_call 39; exact Calls.quiet_of_same (HH _))
      | (go_at_call 34; exact Calls.quiet_of_same (I _)))
    have hW1 := (But.refl [] w).drewN nq
    have c1' := hW1.cell c1
    generalize hWe : w.drewN nq = W1 at hW1 c1' ⊢
    replace hWe := Hid.mk hWe
    go_wp2_with fail
    go_quiet (first
      | (go_at_call 34; exact Calls.quiet_of_same (I _))
      | (go_at_call 37; exact Calls.quiet_of_same (W _ (hW1.drewN _))))
    go_wp2_with fail
    go_ret
    exact ⟨rfl, _, by rw [← hWe.out, World.drewN_drewN]⟩
  · have e0 : whI σ y = (rw σ i).id := by unfold whI; rw [← hw, l.inR_some H hi2 hm]
    rw [e0]
    rw [e5] at W
    rw [hw] at xj
    obtain ⟨ct, hct, c0⟩ := h.c0
    have r0 := h.r0 hi2
    have hi' : (i : Int) < (n : Int) := by omega
    have hi0 : ((i : Int) == -1) = false := by simp
    generalize (rw σ i).id = v at *
    clear hw e0 hm
    go_enter Try.func14, Try.ntmps14
    go_wp2_with fail
    go_quiet (first
      | (go_at_call 39; exact Calls.quiet_of_same (HH _))
      | (go_at_call 34; exact Calls.quiet_of_same (I _)))
    have hW1 := (But.refl [] w).drewN nq
    have c1' := hW1.cell c1
    have c0' := hW1.cell c0
    have r0' := hW1.cell r0
    generalize hWe : w.drewN nq = W1 at hW1 c1' c0' r0' ⊢
    replace hWe := Hid.mk hWe
    go_wp2_with fail
    go_quiet (first
      | (go_at_call 34; exact Calls.quiet_of_same (I _))
      | (go_at_call 37; exact Calls.quiet_of_same (W _ (hW1.drewN _))))
    go_wp2_with fail
    go_ret
    exact ⟨rfl, _, by rw [← hWe.out, World.drewN_drewN]⟩
theorem where_any2 (h : PM w B t j P n σ ls wt) (l : Li n σ ls wt) (H : Ok n σ) (y : Int) (hi : Iv y) : Calls Try.prog 14 #[.pointer (some ⟨B, 0, none⟩), .int .i64 y] w fun e w' => e = .returned (.int .i64 (whI σ y)) ∧ Below w.heap.size w w' :=
  (where_drawn h l H y hi).mono fun e w' ⟨h1, m, h2⟩ => ⟨h1, by rw [h2]; exact ((But.refl [] w).drewN m).to_below⟩
end
end Go.Proofs.Ytmbpmcgppnanpaa.Jl
