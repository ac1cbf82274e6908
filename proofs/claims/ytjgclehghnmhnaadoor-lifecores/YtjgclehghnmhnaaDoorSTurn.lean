/- Contracts of made, turn and taken. -/
import Derived.Test.YtjgclehghnmhnaaDoorSMem
import Derived.Test.YtjgclehghnmhnaaDoorSFns
import Derived.Laws.Bits64
import Derived.Laws.Bits64b
import Derived.Deep.RegionHeld3
namespace Go.Proofs.YtjgclehghnmhnaaDoor
open Go.RowKit

section
variable {w w' : World} {B G n c : Nat} {fs ag : List Nat}

theorem made_any (h : SlM w B G n c fs ag) :
    Calls Tryd.prog 62 #[.pointer (some ⟨B, 0, none⟩)] w fun e w' => e = .returned (.bool true) ∧ w' = w := by
  have h0 := h.c64
  have h1 : 0 < n := h.pos
  go_enter Tryd.func62, Tryd.ntmps62
  go_wp2_with fail
  go_ret
  exact ⟨rfl, rfl⟩

theorem tdiv64 (i : Nat) : Int.tdiv (i : Int) 64 = ((i / 64 : Nat) : Int) := by rw [Int.tdiv_eq_ediv_of_nonneg (by omega)]; omega
theorem tmod64 (i : Nat) : Int.tmod (i : Int) 64 = ((i % 64 : Nat) : Int) := by rw [Int.tmod_eq_emod_of_nonneg (by omega)]; omega
theorem pow_lt_64 {k : Nat} (h : k < 64) : 2 ^ k < 18446744073709551616 := by
  have : (2 : Nat) ^ k < 2 ^ 64 := Nat.pow_lt_pow_right (by decide) h
  have h3 : (2 : Nat) ^ 64 = 18446744073709551616 := by decide
  omega
theorem wrap_pow {k : Nat} (h : k < 64) : IntKind.u64.wrap (2 ^ k) = ((2 ^ k : Nat) : Int) := by
  have h1 := pow_lt_64 h
  rw [IntKind.wrap_u64]
  have e : ((2 : Int) ^ k) = ((2 ^ k : Nat) : Int) := by simp
  rw [e]
  generalize 2 ^ k = x at h1 ⊢
  omega
theorem SlM.word (h : SlM w B G n c fs ag) {i : Nat} (hi : i < 4096) : fs[i / 64]? = some (fs.getD (i / 64) 0) ∧ fs.getD (i / 64) 0 < 18446744073709551616 := by
  have hl : i / 64 < fs.length := by have := h.flen; omega
  have e : fs[i / 64]? = some fs[i / 64] := List.getElem?_eq_getElem hl
  have e2 : fs.getD (i / 64) 0 = fs[i / 64] := by simp [List.getD_eq_getElem?_getD, e]
  rw [e2]
  exact ⟨e, h.fb _ (List.getElem_mem hl)⟩

set_option maxHeartbeats 2000000 in
theorem turn_any (h : SlM w B G n c fs ag) (i : Nat) (hi : i < 4096) :
    Calls Tryd.prog 57 #[.pointer (some ⟨B, 0, none⟩), .int .i64 i] w fun e w' => e = .returned (.tuple #[]) ∧ SlM w' B G n c (fs.set (i / 64) (fs.getD (i / 64) 0 ^^^ 2 ^ (i % 64))) ag ∧ But [B] w w' := by
  obtain ⟨e1, e2⟩ := h.word hi
  have hc := h.f e1
  have hf := h.fB (i / 64)
  have t1 := tdiv64 i
  have t2 := tmod64 i
  have hk : i / 64 < 64 := by omega
  have hr : i % 64 < 64 := Nat.mod_lt _ (by decide)
  have hp := wrap_pow hr
  have hq := pow_lt_64 hr
  generalize fs.getD (i / 64) 0 = x at e1 e2 hc ⊢
  have hx := bits_xor_u64_nat x (2 ^ (i % 64)) e2 hq
  have hx2 : x ^^^ 2 ^ (i % 64) < 18446744073709551616 := Nat.xor_lt_two_pow (n := 64) e2 hq
  have hS := fun W (hd : Drawn w W) => (h.drawn hd).setF (j := i / 64) hk hx2
  generalize 2 ^ (i % 64) = p at hp hx hx2 hq hS ⊢
  generalize i % 64 = r at hr hp t2
  generalize i / 64 = k at hk hf hc t1 hS
  have hk0 : (0 : Int) ≤ (k : Int) := by omega
  have hk1 : (k : Int) < 64 := by omega
  have hr0 : (0 : Int) ≤ (r : Int) := by omega
  have hr1 : (r : Int) < 64 := by omega
  go_enter Tryd.func57, Tryd.ntmps57
  go_region
  go_end0
  exact ⟨rfl, (hS w (Drawn.refl w)).put rfl rfl, ((But.refl _ w).set (p := ⟨B, k, none⟩) (by simp) _).drew⟩

theorem and_pow_zero (x r : Nat) : (((x &&& 2 ^ r : Nat) : Int) == 0) = !x.testBit r := by
  cases hb : x.testBit r
  · have e : x &&& 2 ^ r = 0 := by
      apply Nat.eq_of_testBit_eq
      intro j
      rw [Nat.testBit_and, Nat.testBit_two_pow]
      by_cases hj : r = j
      · subst hj; simp [hb]
      · simp [hj]
    simp [e]
  · have e : x &&& 2 ^ r ≠ 0 := by
      intro hz
      have := congrArg (fun x => x.testBit r) hz
      simp [Nat.testBit_and, hb] at this
    have e2 : ((x &&& 2 ^ r : Nat) : Int) ≠ 0 := by omega
    simp only [Bool.not_true, beq_eq_false_iff_ne, ne_eq]
    exact e2

set_option maxHeartbeats 2000000 in
theorem taken_any (h : SlM w B G n c fs ag) (i : Nat) (hi : i < 4096) :
    Calls Tryd.prog 63 #[.pointer (some ⟨B, 0, none⟩), .int .i64 i] w fun e w' => e = .returned (.bool (!bitF fs i)) ∧ Drawn w w' := by
  obtain ⟨e1, e2⟩ := h.word hi
  have hc := h.f e1
  have t1 := tdiv64 i
  have t2 := tmod64 i
  have hk : i / 64 < 64 := by omega
  have hr : i % 64 < 64 := Nat.mod_lt _ (by decide)
  have hp := wrap_pow hr
  have hq := pow_lt_64 hr
  unfold bitF
  generalize fs.getD (i / 64) 0 = x at e1 e2 hc ⊢
  have hx := bits_and_u64_nat x (2 ^ (i % 64)) e2 hq
  rw [← and_pow_zero]
  generalize i % 64 = r at hr hp t2 hx hq ⊢
  generalize 2 ^ r = p at hp hx hq ⊢
  generalize i / 64 = k at hk hc t1
  have hk0 : (0 : Int) ≤ (k : Int) := by omega
  have hk1 : (k : Int) < 64 := by omega
  have hr0 : (0 : Int) ≤ (r : Int) := by omega
  have hr1 : (r : Int) < 64 := by omega
  go_enter Tryd.func63, Tryd.ntmps63
  go_wp2_with fail
  go_quiet (fail)
  go_wp2_with fail
  go_ret
  exact ⟨rfl, _, rfl⟩

end
end Go.Proofs.YtjgclehghnmhnaaDoor
