/- ask. -/
import Derived.Test.YtcffmdimfmpheaaDoorMlFns
import Derived.Deep.CutRange
namespace Go.Proofs.YtcffmdimfmpheaaDoor
open Go Go.RowKit

section
variable {w : World} {B N : Nat} {v : Value} {xs l : List Ev} {a : Option Addr}
set_option maxHeartbeats 1000000 in
theorem ask_any (h : BM w B N v xs) (hl : xs.length ≤ N) (hT : Tab w) (c : Nat) (hy : EV w a l) (hn : l.length ≤ maxLen) :
    Calls Tryd.prog 35 #[.pointer (some ⟨B, 0, none⟩), .slice a l.length c] w fun e w' => e = .returned (.int .i64 (askE N xs l)) ∧ Below w.heap.size w w' := by
  have MA := made_any h
  have CA := contains_any (c := c) hy hT hn
  have HK : ∀ W, Below w.heap.size w W → BM W B N v xs := fun W b => h.below b
  obtain ⟨sl, c2, rfl, -, -, -⟩ := h.shape
  have hN := h.n2
  have hwr : IntKind.i64.wrap ((N : Int) - (xs.length : Int)) = (N : Int) - (xs.length : Int) := by rw [IntKind.wrap_i64]; omega
  cases hA : allM l with
  | false =>
    rw [askE_arg hA]
    rw [hA] at CA
    simp only [Bool.not_false] at CA
    go_enter Tryd.func35, Tryd.ntmps35
    go_wp2_with (first | (go_at_call 29; (with_reducible refine MA.mono ?_); rintro e w' ⟨rfl, hw⟩; subst w') | (go_at_call 44; (with_reducible refine CA.mono ?_); rintro e w1 ⟨rfl, b1⟩))
    go_ret
    exact ⟨rfl, b1⟩
  | true =>
    rw [hA] at CA
    simp only [Bool.not_true] at CA
    by_cases hf : xs.length + l.length ≤ N
    · rw [askE_ok hA hf]
      have hq : ¬ ((N : Int) - (xs.length : Int) < (l.length : Int)) := by omega
      clear hA
      go_enter Tryd.func35, Tryd.ntmps35
      go_upto_region 5 with (first | (go_at_call 29; (with_reducible refine MA.mono ?_); rintro e w' ⟨rfl, hw⟩; subst w') | (go_at_call 44; (with_reducible refine CA.mono ?_); rintro e w1 ⟨rfl, b1⟩))
      have c0 := (HK _ b1).c0
      have c1 := (HK _ b1).c1
      go_quiet (fail)
      go_wp2_with fail
      go_ret
      exact ⟨rfl, below_drewN b1 _⟩
    · rw [askE_full hA hf]
      have hq : (N : Int) - (xs.length : Int) < (l.length : Int) := by omega
      clear hA
      go_enter Tryd.func35, Tryd.ntmps35
      go_upto_region 5 with (first | (go_at_call 29; (with_reducible refine MA.mono ?_); rintro e w' ⟨rfl, hw⟩; subst w') | (go_at_call 44; (with_reducible refine CA.mono ?_); rintro e w1 ⟨rfl, b1⟩))
      have c0 := (HK _ b1).c0
      have c1 := (HK _ b1).c1
      go_quiet (fail)
      go_wp2_with fail
      go_ret
      exact ⟨rfl, below_drewN b1 _⟩
theorem ask_no {p : Option Addr} (h : UM w p) (v : Value) :
    Calls Tryd.prog 35 #[.pointer p, v] w fun e w' => e = .returned (.int .i64 1) ∧ w' = w := by
  have MA := made_no h
  go_enter Tryd.func35, Tryd.ntmps35
  go_wp2_with (go_at_call 29; (with_reducible refine MA.mono ?_); rintro e w' ⟨rfl, hw⟩; subst w')
  go_ret
  exact ⟨rfl, rfl⟩
end
end Go.Proofs.YtcffmdimfmpheaaDoor
