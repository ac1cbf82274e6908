/- An event's registers. -/
import Derived.Test.YteiidkojofaamaaDoorKFns
namespace Go.Proofs.YteiidkojofaamaaDoor
open Go Go.RowKit

def regV (e : Ev) (E : Nat) : Value := if e.kd = 2 then .slice (some ⟨E, 6, none⟩) 8 8 else .slice none 0 0
theorem cxK_is {k : Nat} (h1 : 1 ≤ k) (h7 : k ≤ 7) : cxK k = decide ((k : Int) = 2) := by
  rcases (show k = 1 ∨ k = 2 ∨ k = 3 ∨ k = 4 ∨ k = 5 ∨ k = 6 ∨ k = 7 by omega) with rfl | rfl | rfl | rfl | rfl | rfl | rfl <;> rfl
set_option maxHeartbeats 1000000 in
theorem regs_any {w : World} {E : Nat} {e : Ev} (hE : Cel w E (evA e) 26) (hT : Tab w) : Calls Tryd.prog 37 #[.pointer (some ⟨E, 0, none⟩)] w fun r w' => r = .returned (regV e E) ∧ w' = w := by
  have c0 : w.cell? ⟨E, 0, none⟩ = some (.int .i64 e.kd) := hE.cell (j := 0) rfl
  have HK := iskind_any e.kd
  cases hk : kindB e.kd with
  | false =>
    rw [hk] at HK
    have hr : regV e E = .slice none 0 0 := by
      unfold regV
      rw [if_neg]
      intro h2
      rw [h2] at hk
      cases hk
    rw [hr]
    clear hr hk hE
    generalize e.kd = kd at *
    go_enter Tryd.func37, Tryd.ntmps37
    go_wp2_with (go_at_call 28; (with_reducible refine (HK _).mono ?_); rintro e w' ⟨rfl, hw⟩; subst w')
    go_ret
    exact ⟨rfl, rfl⟩
  | true =>
    rw [hk] at HK
    obtain ⟨k, he, h1, h7⟩ := kind_nat hk
    have t7 : w.cell? ⟨0, k * 8 + 7, none⟩ = some (.bool (cxK k)) := hT.row k (by omega) 7 _ rfl
    have hlt : (k : Int) < 8 := by omega
    have hge : (0 : Int) ≤ (k : Int) := by omega
    rw [cxK_is h1 h7] at t7
    by_cases h2 : (k : Int) = 2
    · have hr : regV e E = .slice (some ⟨E, 6, none⟩) 8 8 := by
        unfold regV
        rw [if_pos (he.trans h2)]
      rw [hr]
      rw [decide_eq_true h2] at t7
      rw [he] at HK c0
      clear hr hk hE he h2
      go_enter Tryd.func37, Tryd.ntmps37
      go_wp2_with (go_at_call 28; (with_reducible refine (HK _).mono ?_); rintro e w' ⟨rfl, hw⟩; subst w')
      go_ret
      exact ⟨rfl, rfl⟩
    · have hr : regV e E = .slice none 0 0 := by
        unfold regV
        rw [if_neg (fun h => h2 (he.symm.trans h))]
      rw [hr]
      rw [decide_eq_false h2] at t7
      rw [he] at HK c0
      clear hr hk hE he h2
      go_enter Tryd.func37, Tryd.ntmps37
      go_wp2_with (go_at_call 28; (with_reducible refine (HK _).mono ?_); rintro e w' ⟨rfl, hw⟩; subst w')
      go_ret
      exact ⟨rfl, rfl⟩
end Go.Proofs.YteiidkojofaamaaDoor
