/- made, may, ask. -/
import Derived.Test.YtjgclehghnmhnaaDoorLfT
namespace Go.Proofs.YtjgclehghnmhnaaDoor
open Go Go.RowKit

section
variable {w : World} {B S G M N : Nat} {pb : Int → Nat} {σ : Sta}
theorem tmade (h : TM w B S G M N pb σ) :
    Calls Tryd.prog 40 #[.pointer (some ⟨B, 0, none⟩)] w fun e w' => e = .returned (.bool true) ∧ w' = w := by
  have h0 := h.c0
  go_enter Tryd.func40, Tryd.ntmps40
  go_wp2_with fail
  go_ret
  exact ⟨rfl, rfl⟩
theorem tmade_nil (w : World) : Calls Tryd.prog 40 #[.pointer none] w fun e w' => e = .returned (.bool false) ∧ w' = w := by
  go_enter Tryd.func40, Tryd.ntmps40
  go_wp2_with fail
  go_ret
  exact ⟨rfl, rfl⟩
theorem tmade_no {B : Nat} (h0 : w.cell? ⟨B, 0, none⟩ = some (.pointer none)) : Calls Tryd.prog 40 #[.pointer (some ⟨B, 0, none⟩)] w fun e w' => e = .returned (.bool false) ∧ w' = w := by
  go_enter Tryd.func40, Tryd.ntmps40
  go_wp2_with fail
  go_ret
  exact ⟨rfl, rfl⟩

/-- The steps. -/
def stepB (s : Nat) : Prop := s = 1 ∨ s = 2 ∨ s = 4 ∨ s = 8 ∨ s = 16 ∨ s = 32 ∨ s = 64
theorem fol_row {st : Int} {s : Nat} (h1 : 1 ≤ st) (h5 : st ≤ 5) (hs : stepB s) : ∃ (j x : Nat) (y : Int), st = (j : Int) ∧ j < 6 ∧ folL[j]? = some x ∧ bits BinOp.and IntKind.u8 (x : Int) (s : Int) = y ∧ (!(y == 0)) = folB s st := by
  obtain ⟨j, rfl⟩ : ∃ j : Nat, st = (j : Int) := ⟨st.toNat, by omega⟩
  have hj : j = 1 ∨ j = 2 ∨ j = 3 ∨ j = 4 ∨ j = 5 := by omega
  rcases hj with rfl | rfl | rfl | rfl | rfl <;> rcases hs with rfl | rfl | rfl | rfl | rfl | rfl | rfl <;> exact ⟨_, _, _, rfl, by decide, rfl, rfl, by decide⟩
theorem may_any {b : Nat} {a : Ac} {s : Nat} (hc : Cel w b (acA a) 44) (hl : Lc a) (hs : stepB s) (hF : Fol w) :
    Calls Tryd.prog 66 #[.pointer (some ⟨b, 0, none⟩), .int .u8 (s : Int)] w fun e w' => e = .returned (.bool (folB s a.st)) ∧ w' = w := by
  obtain ⟨j, x, y, ej, hj, hx, hy, hz⟩ := fol_row hl.s1 hl.s5 hs
  have c1 : w.cell? ⟨b, 1, none⟩ = some (.int .i64 a.st) := hc.cell (j := 1) rfl
  have cx := hF.2 j x hx
  rw [← hz]
  rw [ej] at c1
  have hj0 : (0 : Int) ≤ (j : Int) := by omega
  have hj1 : (j : Int) < 6 := by omega
  clear hx hz hl hs hc ej
  generalize (s : Int) = s' at *
  generalize (x : Int) = x' at *
  go_enter Tryd.func66, Tryd.ntmps66
  go_wp2_with fail
  go_ret
  exact ⟨rfl, rfl⟩

theorem ask_none (h : TM w B S G M N pb σ) {i : Int} {s : Nat} (hi : In64 i) (hf : fndA σ.xs i = none) :
    Calls Tryd.prog 46 #[.pointer (some ⟨B, 0, none⟩), .int .i64 i, .int .u8 (s : Int)] w fun e w' => e = .returned (.tuple #[.pointer none, .int .i64 4]) ∧ w' = w := by
  have hM := tmade h
  have c1 := h.c1
  have hL := h.m.look hi
  rw [show fB pb σ.xs i = none by unfold fB; rw [hf]; rfl] at hL
  simp only [ptr, Option.isSome_none] at hL
  go_enter Tryd.func46, Tryd.ntmps46
  go_wp2_with (go_at_call 40; refine hM.mono ?_; rintro e w' ⟨rfl, hw⟩; subst w')
  go_ret2
  exact ⟨rfl, rfl⟩
theorem ask_some (h : TM w B S G M N pb σ) {i : Int} {s : Nat} {a : Ac} (hf : fndA σ.xs i = some a) (hs : stepB s) (hF : Fol w) :
    Calls Tryd.prog 46 #[.pointer (some ⟨B, 0, none⟩), .int .i64 i, .int .u8 (s : Int)] w fun e w' => e = .returned (if folB s a.st = true then .tuple #[.pointer (some ⟨pb a.id, 0, none⟩), .int .i64 0] else .tuple #[.pointer none, .int .i64 5]) ∧ w' = w := by
  obtain ⟨ha, rfl⟩ := fnd_some hf
  have hM := tmade h
  have c1 := h.c1
  have hr := h.ok.idr ha
  have hL := h.m.look (i := a.id) ⟨by omega, by omega⟩
  rw [fB_some h.ok ha] at hL
  simp only [ptr, Option.isSome_some] at hL
  have hY := may_any (h.a a ha) (h.ok.lc a ha) hs hF
  clear hf hF hs hr
  cases hb : folB s a.st
  · rw [hb] at hY
    rw [if_neg (by simp)]
    clear hb
    go_enter Tryd.func46, Tryd.ntmps46
    go_wp2_with (first | (go_at_call 40; refine hM.mono ?_; rintro e w' ⟨rfl, hw⟩; subst w') | (go_at_call 66; refine hY.mono ?_; rintro e w' ⟨rfl, hw⟩; subst w'))
    go_ret2
    exact ⟨rfl, rfl⟩
  · rw [hb] at hY
    rw [if_pos rfl]
    clear hb
    go_enter Tryd.func46, Tryd.ntmps46
    go_wp2_with (first | (go_at_call 40; refine hM.mono ?_; rintro e w' ⟨rfl, hw⟩; subst w') | (go_at_call 66; refine hY.mono ?_; rintro e w' ⟨rfl, hw⟩; subst w'))
    go_ret2
    exact ⟨rfl, rfl⟩
theorem ask_made {s : Nat} {p : Option Addr} (hM : Calls Tryd.prog 40 #[.pointer p] w fun e w' => e = .returned (.bool false) ∧ w' = w) (i : Int) :
    Calls Tryd.prog 46 #[.pointer p, .int .i64 i, .int .u8 (s : Int)] w fun e w' => e = .returned (.tuple #[.pointer none, .int .i64 1]) ∧ w' = w := by
  go_enter Tryd.func46, Tryd.ntmps46
  go_wp2_with (go_at_call 40; refine hM.mono ?_; rintro e w' ⟨rfl, hw⟩; subst w')
  go_ret2
  exact ⟨rfl, rfl⟩
end
end Go.Proofs.YtjgclehghnmhnaaDoor
