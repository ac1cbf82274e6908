/- The calls of the reference's source: Flag, Text, End. -/
import Derived.Test.YtbcdjpafdmgbmaaDoorCRefC
namespace Go.Proofs.YtbcdjpafdmgbmaaDoor
open Go.RowKit

theorem RR.same {w : World} {lo M : Nat} {bs : List UInt8} (h : RR w lo M 0 bs) {a : Option Addr} {c : Nat} (h0 : w.cell? ⟨M, 0, none⟩ = some (.slice a bs.length c)) : RR (w.setCell ⟨M, 0, none⟩ (.slice a bs.length c)) lo M 0 bs := by
  obtain ⟨a1, c1, hb, hy, hlo, hG⟩ := h
  have e : a1 = a ∧ c1 = c := by
    simp [World.cell?, hb] at h0
    exact h0
  obtain ⟨rfl, rfl⟩ := e
  exact ⟨a1, c1, heap_setCell_same w M 0 _ 107 _ hb, hy.but (S := [M]) ((But.refl [M] w).set (by simp) _) (by simp), hlo, hG⟩
theorem Byts.leI {w : World} {B c : Nat} {a : Option Addr} {bs : List UInt8} (h : Byts w B a c bs) : (bs.length : Int) ≤ c := by
  have := h.len
  omega

section
variable {lo M : Nat} {w : World}
set_option maxHeartbeats 1000000 in
theorem rend (st : Nat × List UInt8) (h : RQ w lo M st) :
    Calls Tryd.prog 41 #[.pointer (some ⟨M, 0, none⟩)] w fun e w' => e = .returned (.int .i64 (endN st : Int)) ∧ w' = w := by
  obtain ⟨x, bs⟩ := st
  obtain ⟨hr, h2⟩ := h
  simp only at hr h2
  have m1 := hr.c1
  obtain ⟨a, c, m0, hy⟩ := hr.c0
  by_cases hx : x = 0
  · subst hx
    by_cases hb : bs = []
    · have e : endN (0, bs) = 0 := by simp [endN, hb]
      have k : ¬ (0 : Int) < bs.length := by simp [hb]
      rw [e]
      clear e hb h2
      go_enter Tryd.func41, Tryd.ntmps41
      go_wp2_with fail
      go_ret
      exact ⟨rfl, rfl⟩
    · have e : endN (0, bs) = 10 := by simp [endN, hb]
      have k : (0 : Int) < bs.length := by
        cases bs with
        | nil => exact absurd rfl hb
        | cons _ _ => simp
      rw [e]
      clear e hb h2
      go_enter Tryd.func41, Tryd.ntmps41
      go_wp2_with fail
      go_ret
      exact ⟨rfl, rfl⟩
  · have e : endN (x, bs) = x := by simp [endN, hx]
    have k : ((x : Int) == 0) = false := by simp; omega
    rw [e]
    clear e h2
    go_enter Tryd.func41, Tryd.ntmps41
    go_wp2_with fail
    go_ret
    exact ⟨rfl, rfl⟩

end

end Go.Proofs.YtbcdjpafdmgbmaaDoor
