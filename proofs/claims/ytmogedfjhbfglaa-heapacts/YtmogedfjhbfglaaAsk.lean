/- Contracts of has, ask, under. -/
import Derived.Test.YtmogedfjhbfglaaAhead
namespace Go.Proofs.Ytmogedfjhbfglaa
open Go.RowKit

/-- What ask tells. -/
def askE (N : Nat) (q : List Th) (t : Int) (there : Bool) (last : Int) : Int := if inN N t then (if hasB q t = there then 0 else last) else 8

section
variable {w : World} {B G k N : Nat} {v : Value} {xs : List Th} {pl : List Int} {q : List Th}

theorem has_any (h : HM w B G k N v xs pl) (hr : Rep N xs pl q) (t : Int) :
    Calls Try.prog 34 #[.pointer (some ⟨B, 0, none⟩), .int .i64 t] w fun e w' => e = .returned (.bool (hasB q t)) ∧ w' = w := by
  have hM := made_any h
  have c1 := h.c1
  by_cases h0 : t < 0
  · have e : hasB q t = false := hasB_not.2 (fun p hp => by omega)
    rw [e]
    go_enter Try.func34, Try.ntmps34
    go_wp2_with (first
      | (go_at_call 31; refine hM.mono ?_; rintro e w' ⟨rfl, hw⟩; subst w'))
    go_ret
    exact ⟨rfl, rfl⟩
  · by_cases h1 : (N : Int) ≤ t
    · have e : hasB q t = false := hasB_not.2 (fun p hp => by have := hr.lt hp; omega)
      rw [e]
      have h0' : 0 ≤ t := by omega
      go_enter Try.func34, Try.ntmps34
      go_wp2_with (first
        | (go_at_call 31; refine hM.mono ?_; rintro e w' ⟨rfl, hw⟩; subst w'))
      go_ret
      exact ⟨rfl, rfl⟩
    · obtain ⟨id, rfl⟩ : ∃ id : Nat, t = id := ⟨t.toNat, by omega⟩
      have hid : id < N := by omega
      have hid' : (id : Int) < (N : Int) := by omega
      cases hb : hasB q (id : Int) with
      | false =>
        have cx := h.x (hr.no hid hb)
        go_enter Try.func34, Try.ntmps34
        go_wp2_with (first
          | (go_at_call 31; refine hM.mono ?_; rintro e w' ⟨rfl, hw⟩; subst w'))
        go_ret
        exact ⟨rfl, rfl⟩
      | true =>
        obtain ⟨id', i, key, e, _, _, hp, _⟩ := hr.at' hb
        obtain rfl : id = id' := by omega
        have cx := h.x hp
        have hne : ((i : Int) == -1) = false := by simp
        clear hp e
        go_enter Try.func34, Try.ntmps34
        go_wp2_with (first
          | (go_at_call 31; refine hM.mono ?_; rintro e w' ⟨rfl, hw⟩; subst w'))
        go_ret
        exact ⟨rfl, rfl⟩

theorem ask_any (h : HM w B G k N v xs pl) (hr : Rep N xs pl q) (t : Int) (there : Bool) (last : Int) :
    Calls Try.prog 36 #[.pointer (some ⟨B, 0, none⟩), .int .i64 t, .bool there, .int .i64 last] w fun e w' => e = .returned (.int .i64 (askE N q t there last)) ∧ w' = w := by
  have hM := made_any h
  have hH := has_any h hr t
  have c1 := h.c1
  unfold askE inN
  by_cases h0 : t < 0
  · rw [if_neg (by simp; omega)]
    go_enter Try.func36, Try.ntmps36
    go_wp2_with (first
      | (go_at_call 31; refine hM.mono ?_; rintro e w' ⟨rfl, hw⟩; subst w'))
    go_ret
    exact ⟨rfl, rfl⟩
  · have h0' : 0 ≤ t := by omega
    by_cases h1 : (N : Int) ≤ t
    · rw [if_neg (by simp; omega)]
      go_enter Try.func36, Try.ntmps36
      go_wp2_with (first
        | (go_at_call 31; refine hM.mono ?_; rintro e w' ⟨rfl, hw⟩; subst w'))
      go_ret
      exact ⟨rfl, rfl⟩
    · rw [if_pos (by simp; omega)]
      have h1' : t < (N : Int) := by omega
      generalize hasB q t = y at *
      cases y <;> cases there
      all_goals
        go_enter Try.func36, Try.ntmps36
        go_wp2_with (first
          | (go_at_call 31; refine hM.mono ?_; rintro e w' ⟨rfl, hw⟩; subst w')
          | (go_at_call 34; refine hH.mono ?_; rintro e w' ⟨rfl, hw⟩; subst w'))
        go_ret
        exact ⟨rfl, rfl⟩

/-- The least place under a place, or itself. -/
def und (xs : List Th) (i : Nat) : Nat := if xs.length ≤ 2 * i + 1 then i else if 2 * i + 2 < xs.length ∧ befB (gx xs (2 * i + 2)) (gx xs (2 * i + 1)) = true then 2 * i + 2 else 2 * i + 1

set_option maxHeartbeats 1000000 in
theorem under_any (h : HM w B G k N v xs pl) (i : Nat) (hi : i < xs.length) (hn : xs.length ≤ 4096) :
    Calls Try.prog 46 #[.pointer (some ⟨B, 0, none⟩), .int .i64 i, .func (.func 32) #[.pointer (some ⟨B, 0, none⟩)] #[]] w fun e w' => e = .returned (.int .i64 (und xs i : Nat)) ∧ Below w.heap.size w w' := by
  have HA : ∀ a b : Nat, a < xs.length → b < xs.length → _ := fun a b ha hb => ahead_any h (i := a) (j := b) (gx_get ha) (gx_get hb)
  obtain ⟨sa, c, rfl, _, _⟩ := h.sl
  have c0 := h.c0
  unfold und
  by_cases h1 : xs.length ≤ 2 * i + 1
  · rw [if_pos h1]
    have h1' : (xs.length : Int) ≤ 2 * (i : Int) + 1 := by omega
    clear HA
    go_enter Try.func46, Try.ntmps46
    go_wp2_with fail
    go_ret
    exact ⟨rfl, Below.refl _ _⟩
  · rw [if_neg h1]
    have h1' : 2 * (i : Int) + 1 < (xs.length : Int) := by omega
    by_cases h2 : 2 * i + 2 < xs.length
    · have HA1 := HA (2 * i + 2) (2 * i + 1) h2 (by omega)
      rw [show ((2 * i + 2 : Nat) : Int) = 2 * (i : Int) + 2 by omega, show ((2 * i + 1 : Nat) : Int) = 2 * (i : Int) + 1 by omega] at HA1
      clear HA
      generalize befB (gx xs (2 * i + 2)) (gx xs (2 * i + 1)) = y at *
      have h2' : 2 * (i : Int) + 2 < (xs.length : Int) := by omega
      cases y with
      | true =>
        rw [if_pos ⟨h2, rfl⟩]
        go_enter Try.func46, Try.ntmps46
        go_wp2_with (first
          | (go_at_call 32; refine HA1.mono ?_; rintro e w1 ⟨rfl, b1⟩))
        go_ret
        exact ⟨by simp, b1⟩
      | false =>
        rw [if_neg (fun e => by cases e.2)]
        go_enter Try.func46, Try.ntmps46
        go_wp2_with (first
          | (go_at_call 32; refine HA1.mono ?_; rintro e w1 ⟨rfl, b1⟩))
        go_ret
        exact ⟨by simp, b1⟩
    · rw [if_neg (fun e => h2 e.1)]
      have h2' : (xs.length : Int) ≤ 2 * (i : Int) + 2 := by omega
      clear HA
      go_enter Try.func46, Try.ntmps46
      go_wp2_with fail
      go_ret
      exact ⟨by simp, Below.refl _ _⟩
end

end Go.Proofs.Ytmogedfjhbfglaa
