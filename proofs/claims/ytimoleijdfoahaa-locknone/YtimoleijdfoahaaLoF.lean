/- The document's Where, waits, pass, Lock, Unlock. -/
import Derived.Test.YtimoleijdfoahaaLoT
namespace Go.Proofs.Ytimoleijdfoahaa.Lo
open Go Go.RowKit Go.Proofs.Ytimoleijdfoahaa.Bs
open Go.Proofs.Ytimoleijdfoahaa.Lk (inN inN_of inN_out wI lsI wI_nat whI whI_none whI_some whI_cases ints ints_iv ints_len iv)
set_option linter.unusedSimpArgs false

section
set_option maxRecDepth 100000
variable {w w' : World} {M ob wb sb ab n T : Nat} {R R' F : List Nat} {vw vs : List Value} {σ : St} {q : List Nat} {v : Value}
set_option maxHeartbeats 2000000 in
theorem where_any (h : RM w M ob wb sb ab R n T vw vs σ) (ho : Ok n T σ) (t : Int) : Calls Try.prog 33 #[.pointer (some ⟨M, 0, none⟩), .int .i64 t] w fun e w' => e = .returned (.tuple #[.int .i64 (whereK σ t), .int .i64 (whereO σ t)]) ∧ w' = w := by
  obtain ⟨c, c1⟩ := h.c1
  obtain ⟨cw, c2⟩ := h.c2
  obtain ⟨cs, c3⟩ := h.c3
  have hn := ho.n2
  go_enter Try.func33, Try.ntmps33
  go_wp2_with fail
  go_loopw [12, 6] (fun v _ wr => ∃ j : Nat, j ≤ n ∧ v = .int .i64 j ∧ wr = w ∧ ∀ i, i < j → t ∉ ints (W σ i) ∧ t ∉ ints (S σ i)) (fun v _ _ => 64 - (intOf v).toNat)
  case atStart => exact ⟨0, Nat.zero_le _, rfl, rfl, fun i hi => by omega⟩
  case round =>
    obtain ⟨j, hj, rfl, rfl, hB⟩ := hrel
    by_cases hlt : j < n
    · have hlt' : (j : Int) < (n : Int) := by omega
      obtain ⟨vW, e2, hW⟩ := h.wc hlt
      obtain ⟨vS, e3, hS⟩ := h.sc hlt
      have IW := in_any hW.rd (by rw [ints_len]; have := ho.wlen hlt; omega) t
      have IS := in_any hS.rd (by rw [ints_len]; have := ho.slen hlt; omega) t
      by_cases a1 : t ∈ ints (W σ j)
      · obtain ⟨K1, K2⟩ := ho.where_W hlt a1
        replace K1 := Hid.mk K1
        replace K2 := Hid.mk K2
        rw [show inB (ints (W σ j)) t = true from decide_eq_true a1] at IW
        clear hW hS a1 hB IS
        go_wp2_with (first | (go_at_call 61; (with_reducible refine IW.mono ?_); rintro e w1 ⟨rfl, hw⟩; subst w1))
        go_ret2
        exact ⟨by rw [K1.out, K2.out]; rfl, rfl⟩
      · rw [show inB (ints (W σ j)) t = false from decide_eq_false a1] at IW
        by_cases a2 : t ∈ ints (S σ j)
        · obtain ⟨K1, K2⟩ := ho.where_S hlt a2
          replace K1 := Hid.mk K1
          replace K2 := Hid.mk K2
          rw [show inB (ints (S σ j)) t = true from decide_eq_true a2] at IS
          clear a1 a2 hB
          obtain ⟨xw, yw, rfl, -⟩ := hW.rd
          obtain ⟨xs, ys, rfl, -⟩ := hS.rd
          generalize ints (W σ j) = qw at *
          generalize ints (S σ j) = qs at *
          go_wp2_with (first | (go_at_call 61; first | ((with_reducible refine IW.mono ?_); rintro e w1 ⟨rfl, hw⟩; subst w1; clear IW) | ((with_reducible refine IS.mono ?_); rintro e w1 ⟨rfl, hw⟩; subst w1)))
          go_ret2
          exact ⟨by rw [K1.out, K2.out]; rfl, rfl⟩
        · rw [show inB (ints (S σ j)) t = false from decide_eq_false a2] at IS
          have hB' : ∀ i, i < j + 1 → t ∉ ints (W σ i) ∧ t ∉ ints (S σ i) := fun i hi => by
            by_cases e : i = j
            · subst e
              exact ⟨a1, a2⟩
            · exact hB i (by omega)
          clear a1 a2 hB
          obtain ⟨xw, yw, rfl, -⟩ := hW.rd
          obtain ⟨xs, ys, rfl, -⟩ := hS.rd
          clear hW hS
          generalize ints (W σ j) = qw at IW e2
          generalize ints (S σ j) = qs at IS e3
          go_wp2_with (first | (go_at_call 61; first | ((with_reducible refine IW.mono ?_); rintro e w1 ⟨rfl, hw⟩; subst w1; clear IW) | ((with_reducible refine IS.mono ?_); rintro e w1 ⟨rfl, hw⟩; subst w1)))
          go_roundw
          case rel => exact ⟨j + 1, by omega, by simp, by trivial, hB'⟩
          case measure =>
            simp [intOf]
            omega
    · obtain rfl : j = n := by omega
      obtain ⟨K1, K2⟩ := ho.where_no hB
      replace K1 := Hid.mk K1
      replace K2 := Hid.mk K2
      clear hB
      go_wp2_with fail
      go_ret2
      exact ⟨by rw [K1.out, K2.out]; rfl, rfl⟩
theorem waits_any (h : RM w M ob wb sb ab R n T vw vs σ) (ho : Ok n T σ) (t : Int) : Calls Try.prog 58 #[.pointer (some ⟨M, 0, none⟩), .int .i64 t] w fun e w' => e = .returned (.bool (decide (wt σ t ≠ -1))) ∧ w' = w := by
  have K := where_any h ho t
  have hz : (!(whereK σ t == 0)) = decide (wt σ t ≠ -1) := by
    unfold whereK
    by_cases e : wt σ t = -1
    · simp [e]
    · rw [if_neg e, decide_eq_true e]
      split <;> rfl
  rw [← hz]
  generalize whereK σ t = k at *
  generalize whereO σ t = o at *
  clear hz
  go_enter Try.func58, Try.ntmps58
  go_wp2_with (first | (go_at_call 33; (with_reducible refine K.mono ?_); rintro e w1 ⟨rfl, hw⟩; subst w1))
  go_ret
  exact ⟨rfl, rfl⟩
end
end Go.Proofs.Ytimoleijdfoahaa.Lo
