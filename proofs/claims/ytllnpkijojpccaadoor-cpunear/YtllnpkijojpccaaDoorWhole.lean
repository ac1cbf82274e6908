/- Good and Whole: the program's, of any program. -/
import Derived.Test.YtllnpkijojpccaaDoorGood
import Derived.BigQuiet
namespace Go.Proofs.YtllnpkijojpccaaDoor
open Go.RowKit

set_option maxHeartbeats 1000000 in
theorem good_any {ps : List Ins} {a : Option Addr} (c : Nat) (i : Int) {w : World} (hp : PV w a ps) (hT : Tab w) :
    Calls Tryd.prog 34 #[.slice a ps.length c, .int .i64 i] w fun e w' => e = .returned (.bool (goodAt ps i)) ∧ Below w.heap.size w w' := by
  by_cases h0 : i < 0
  · have e : goodAt ps i = false := by unfold goodAt; simp; omega
    rw [e]
    clear e
    generalize ps.length = n
    go_enter Tryd.func34, Tryd.ntmps34
    go_wp2_with fail
    refine bodyPost_ret (results_c1 rfl _ _ (w.heap.size + 1) (.bool false) rfl (by simp [go_sem]) (Tryd.isAgg4 _)) rfl ⟨rfl, ?_⟩
    exact ((Below.refl _ w).alloc (Nat.le_refl _) _).alloc (by simp) _
  · obtain ⟨k, rfl⟩ : ∃ k : Nat, i = (k : Int) := ⟨i.toNat, by omega⟩
    by_cases hk : k < ps.length
    · rw [goodAt_nat hk]
      cases ho : opB (ins ps k).1 with
      | true => exact callsIn_wide.1 (good_in ps a ps.length c k w rfl hp hk ho hT)
      | false =>
        have e : goodB ps.length (ins ps k) = false := by unfold goodB; rw [ho]; rfl
        rw [e]
        obtain ⟨b, o, rfl, c0, _, _, _⟩ := hp k hk
        have HO := isop_any (ins ps k).1
        rw [ho] at HO
        have hlt : (k : Int) < (ps.length : Int) := by omega
        have h1 : (0 : Int) ≤ (k : Int) := by omega
        have B1 : Below w.heap.size w ((w.alloc (.cells #[.slice (some ⟨b, o, none⟩) ps.length c] 23)).alloc (.cells #[.bool false] 4)) := ((Below.refl _ w).alloc (Nat.le_refl _) _).alloc (by simp) _
        have k0 := cell_on B1 c0
        clear e hp ho c0 B1 h0 hk
        generalize (ins ps k).1 = op at *
        generalize ps.length = n at *
        go_enter Tryd.func34, Tryd.ntmps34
        go_wp2_with (go_at_call 39; (with_reducible refine (HO _).mono ?_); rintro e w' ⟨rfl, rfl⟩)
        refine bodyPost_ret (results_c1 rfl _ _ (w.heap.size + 1) (.bool false) rfl (by simp [go_sem]) (Tryd.isAgg4 _)) rfl ⟨rfl, ?_⟩
        exact ((Below.refl _ w).alloc (Nat.le_refl _) _).alloc (by simp) _
    · have e : goodAt ps (k : Int) = false := by
        unfold goodAt
        have h1 : ¬ ((k : Int) < (ps.length : Int)) := by omega
        simp [h1]
      rw [e]
      have h1 : (0 : Int) ≤ (k : Int) := by omega
      have h2 : (ps.length : Int) ≤ (k : Int) := by omega
      clear e hp h0 hk
      generalize (k : Int) = z at *
      generalize ps.length = n at *
      go_enter Tryd.func34, Tryd.ntmps34
      go_wp2_with fail
      refine bodyPost_ret (results_c1 rfl _ _ (w.heap.size + 1) (.bool false) rfl (by simp [go_sem]) (Tryd.isAgg4 _)) rfl ⟨rfl, ?_⟩
      exact ((Below.refl _ w).alloc (Nat.le_refl _) _).alloc (by simp) _

theorem all_good {ps : List Ins} {i : Nat} (h : ∀ j, j < i → goodB ps.length (ins ps j) = true) (hg : goodB ps.length (ins ps i) = true) : ∀ j, j < i + 1 → goodB ps.length (ins ps j) = true := fun j hj => by
  by_cases e : j = i
  · rw [e]; exact hg
  · exact h j (by omega)
theorem whole_not {ps : List Ins} {i : Nat} (hi : i < ps.length) (h : goodB ps.length (ins ps i) = false) : wholeB ps = false := by
  cases hw : wholeB ps with
  | false => rfl
  | true =>
    have := (wholeB_iff.1 hw).2 i hi
    rw [h] at this
    cases this

set_option maxHeartbeats 1000000 in
theorem whole_any {ps : List Ins} {a : Option Addr} (c : Nat) {w : World} (hp : PV w a ps) (hT : Tab w) :
    Calls Tryd.prog 29 #[.slice a ps.length c] w fun e w' => e = .returned (.bool (wholeB ps)) ∧ Below w.heap.size w w' := by
  by_cases h64 : ps.length ≤ 64
  · have HG : ∀ (i : Nat) W, Below w.heap.size w W → Calls Tryd.prog 34 #[.slice a ps.length c, .int .i64 (i : Int)] W fun e w' => e = .returned (.bool (goodAt ps i)) ∧ Below W.heap.size W w' := fun i W hb => good_any c i (hp.below hb) (hT.on hb)
    obtain ⟨W, hW⟩ : ∃ W, wholeB ps = W := ⟨_, rfl⟩
    have HW : Hid (wholeB ps = W) := Hid.mk hW
    rw [hW]
    clear hW
    have h6 : (ps.length : Int) ≤ 64 := by omega
    go_enter Tryd.func29, Tryd.ntmps29
    go_wp2_with fail
    go_loopw [9, 3] (fun p _ wr => ∃ i : Nat, i ≤ ps.length ∧ p = .int .i64 i ∧ Hid (∀ j, j < i → goodB ps.length (ins ps j) = true) ∧ Below w.heap.size w wr) (fun p _ _ => 64 - (intOf p).toNat)
    case atStart => exact ⟨0, by omega, rfl, Hid.mk (fun j hj => by omega), Below.refl _ _⟩
    case round =>
      obtain ⟨i, hi, rfl, hall, hb⟩ := hrel
      by_cases hlt : i < ps.length
      · have HC := HG i wr hb
        rw [goodAt_nat hlt] at HC
        have hlt' : (i : Int) < (ps.length : Int) := by omega
        cases hg : goodB ps.length (ins ps i) with
        | true =>
          rw [hg] at HC
          have hall2 := Hid.mk (all_good hall.out hg)
          clear hg hall
          go_wp2_with (go_at_call 34; (with_reducible refine HC.mono ?_); rintro e w' ⟨rfl, hb1⟩)
          go_roundw
          case rel => exact ⟨i + 1, by omega, by simp, hall2, hb.trans (hb1.mono hb.size)⟩
          case measure =>
            simp [intOf]
            omega
        | false =>
          rw [hg] at HC
          have hw := whole_not hlt hg
          rw [HW.out] at hw
          subst hw
          clear hg hall
          go_wp2_with (go_at_call 34; (with_reducible refine HC.mono ?_); rintro e w' ⟨rfl, hb1⟩)
          go_ret
          exact ⟨rfl, hb.trans (hb1.mono hb.size)⟩
      · obtain rfl : i = ps.length := by omega
        have hw : wholeB ps = true := wholeB_iff.2 ⟨h64, hall.out⟩
        rw [HW.out] at hw
        subst hw
        clear hall
        go_wp2_with fail
        go_ret
        exact ⟨rfl, hb⟩
  · have hw : wholeB ps = false := by
      unfold wholeB
      simp [h64]
    rw [hw]
    have h6 : (64 : Int) < (ps.length : Int) := by omega
    go_enter Tryd.func29, Tryd.ntmps29
    go_wp2_with fail
    go_ret
    exact ⟨rfl, Below.refl _ _⟩

theorem neqI (W : World) {p q r s p2 q2 r2 s2 : Int} (h : p = p2 → q = q2 → r = r2 → s = s2 → False) : (binOp .neq 51 (.agg #[.int .i64 p, .int .i64 q, .int .i64 r, .int .i64 s]) (.agg #[.int .i64 p2, .int .i64 q2, .int .i64 r2, .int .i64 s2])).run Tryd.prog W = .ok (.bool true) W := by
  have u3 := Tryd.underlying3
  have a3 := Tryd.isAgg3
  have z3 := Tryd.sizeOf3
  have hS : Tryd.prog.underlying 51 = some (.struct (Tryd.prog.fieldsOf 51)) := by kernel_rfl
  have hp : Tryd.prog.stoodInHeld 51 = false := by kernel_rfl
  have key : (Op.equalIn 10000 51 (.agg #[.int .i64 p, .int .i64 q, .int .i64 r, .int .i64 s]) (.agg #[.int .i64 p2, .int .i64 q2, .int .i64 r2, .int .i64 s2])).run Tryd.prog W = .ok false W := by
    rw [show (10000 : Nat) = 9999 + 1 from rfl, run_equalIn_agg W 9999 51 _ _ hS hp]
    simp only [Program.fieldsOf, Tryd.underlying51]
    go_simp
    by_cases h1 : p = p2
    · by_cases h2 : q = q2
      · by_cases h3 : r = r2
        · by_cases h4 : s = s2
          · exact absurd (h h1 h2 h3 h4) id
          · simp [h1, h2, h3, h4]
        · simp [h1, h2, h3]
      · simp [h1, h2]
    · simp [h1]
  rw [run_neq_struct, key]
  rfl

section
variable {w : World} {xa ya : Option Addr} {xc yc : Nat} {xs ys : List Ins}
end
section
variable {w : World} {xa ya : Option Addr} {xc yc : Nat} {xs ys : List Ins}
end

end Go.Proofs.YtllnpkijojpccaaDoor
