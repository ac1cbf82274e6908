/- Contract of the reference's Take. -/
import Derived.Test.YtjgclehghnmhnaaDoorSRef
namespace Go.Proofs.YtjgclehghnmhnaaDoor
open Go.RowKit

section
variable {w w' : World} {M A T n : Nat} {ag : List Nat} {tk : List Bool}

set_option maxHeartbeats 4000000 in
theorem rtake_any (hrs : RS w M A T n ag tk) :
    Calls Tryd.prog 59 #[.pointer (some ⟨M, 0, none⟩)] w fun e w' => e = .returned (.tuple #[.int .i64 (takeI ag tk), .int .i64 (takeE ag tk)]) ∧ RS w' M A T n (takeA ag tk) (takeT ag tk) ∧ But [A, T] w w' := by
  obtain ⟨ca, c0⟩ := hrs.c0
  obtain ⟨ct, c1⟩ := hrs.c1
  have hn := hrs.le
  go_enter Tryd.func59, Tryd.ntmps59
  go_wp2_with fail
  go_loopw [10] (fun q wr => ∃ k : Nat, k ≤ n ∧ q = .int .i64 k ∧ wr = w ∧ ∀ i, i < k → okB ag tk i = false) (fun q _ => 4096 - (intOf q).toNat)
  case atStart => exact ⟨0, by omega, rfl, rfl, fun i hi => by omega⟩
  case round =>
    obtain ⟨k, hk, rfl, rfl, hno⟩ := hrel
    by_cases hlt : k < n
    · have hlt' : (k : Int) < (n : Int) := by omega
      have hk0 : (0 : Int) ≤ (k : Int) := by omega
      obtain ⟨a, t, ha, ht⟩ := hrs.at hlt
      have hca := hrs.ca ha
      have hct := hrs.ct ht
      have hfa := hrs.a.fz k
      have hft := hrs.t.fz k
      have hok : okB ag tk k = (!t && decide (a < 2147483647)) := by
        unfold okB
        rw [ht, List.getD_eq_getElem?_getD, ha]
        cases t <;> simp
      cases t
      · by_cases hl2 : a < 2147483647
        · have hok' : okB ag tk k = true := by rw [hok]; simpa using hl2
          have ho := leastO_some hok' hno
          have e1 : takeI ag tk = idI k (a + 1 : Nat) := by unfold takeI; rw [ho]; simp [List.getD_eq_getElem?_getD, ha]
          have e2 : takeE ag tk = 0 := by unfold takeE; rw [ho]
          have e3 : takeA ag tk = ag.set k (a + 1) := by unfold takeA; rw [ho]; simp [List.getD_eq_getElem?_getD, ha]
          have e4 : takeT ag tk = tk.set k true := by unfold takeT; rw [ho]
          have E : Hid (takeI ag tk = idI k (a + 1 : Nat) ∧ takeE ag tk = 0 ∧ takeA ag tk = ag.set k (a + 1) ∧ takeT ag tk = tk.set k true) := ⟨e1, e2, e3, e4⟩
          have hS := (hrs.setA k (x := a + 1) (by omega)).setT k true
          have hS1 := hrs.setA k (x := a + 1) (by omega)
          obtain ⟨cy1, y1⟩ := hS1.c1
          have y2 := hS1.ct ht
          have y3 := hS1.t.fz k
          obtain ⟨cy4, y4⟩ := hS.c0
          have y5 := hS.ca (j := k) (x := a + 1) (by rw [List.getElem?_set_self]; rw [hrs.al]; exact hlt)
          obtain ⟨cy6, y6⟩ := hS1.c0
          have hw1 : IntKind.i64.wrap ((a : Int) + 1) = ((a + 1 : Nat) : Int) := by rw [IntKind.wrap_i64]; omega
          have hI := fun W => rid_any (k : Int) ((a + 1 : Nat) : Int) W
          have hz : (a : Int) < 2147483647 := by omega
          have hB : But [A, T] wr ((wr.setCell ⟨A, k, none⟩ (.int .i64 ((a + 1 : Nat) : Int))).setCell ⟨T, k, none⟩ (.bool true)) := ((But.refl _ wr).set (p := ⟨A, k, none⟩) (by simp) _).set (p := ⟨T, k, none⟩) (by simp) _
          clear e1 e2 e3 e4 ho hok hok' hno hl2 ha ht hS1
          generalize idI (k : Int) ((a + 1 : Nat) : Int) = id at hI E
          generalize ((a + 1 : Nat) : Int) = a1 at *
          generalize (a : Int) = a0 at *
          go_wp2_with (go_at_call 70; refine (hI _).mono ?_; rintro e w' ⟨rfl, hw⟩; subst w')
          go_ret2
          obtain ⟨e1, e2, e3, e4⟩ := E.out
          refine ⟨by rw [e1, e2]; rfl, by rw [e3, e4]; exact hS, hB⟩
        · have hok' : Hid (okB ag tk k = false) := by show okB ag tk k = false; rw [hok]; simpa using hl2
          have hz : ¬ (a : Int) < 2147483647 := by omega
          have Hno : Hid (∀ i, i < k → okB ag tk i = false) := hno
          clear hok hl2 ha ht hno
          generalize (a : Int) = a0 at *
          go_wp2_with fail
          go_roundw
          case rel => exact ⟨k + 1, by omega, by simp, by trivial, fun i hi => by
            by_cases e : i = k
            · rw [e]; exact hok'.out
            · exact Hno.out i (by omega)⟩
          case measure =>
            have := hrs.le
            simp [intOf]
            omega
      · have hok' : Hid (okB ag tk k = false) := by show okB ag tk k = false; rw [hok]; rfl
        have Hno : Hid (∀ i, i < k → okB ag tk i = false) := hno
        clear hok ha ht hno
        go_wp2_with fail
        go_roundw
        case rel => exact ⟨k + 1, by omega, by simp, by trivial, fun i hi => by
          by_cases e : i = k
          · rw [e]; exact hok'.out
          · exact Hno.out i (by omega)⟩
        case measure =>
          have := hrs.le
          simp [intOf]
          omega
    · obtain rfl : k = n := by omega
      have ho : leastO ag tk = none := leastO_none fun i => by
        by_cases hi : i < k
        · exact hno i hi
        · cases h : okB ag tk i
          · rfl
          · have := okB_lt h
            rw [hrs.tl] at this
            omega
      have e1 : takeI ag tk = 0 := by unfold takeI; rw [ho]
      have e2 : takeE ag tk = 3 := by unfold takeE; rw [ho]
      have e3 : takeA ag tk = ag := by unfold takeA; rw [ho]
      have e4 : takeT ag tk = tk := by unfold takeT; rw [ho]
      have E : Hid (takeI ag tk = 0 ∧ takeE ag tk = 3 ∧ takeA ag tk = ag ∧ takeT ag tk = tk) := ⟨e1, e2, e3, e4⟩
      clear e1 e2 e3 e4 ho hno
      go_wp2_with fail
      go_ret2
      obtain ⟨e1, e2, e3, e4⟩ := E.out
      exact ⟨by rw [e1, e2]; rfl, by rw [e3, e4]; exact hrs, But.refl _ _⟩
end
end Go.Proofs.YtjgclehghnmhnaaDoor
