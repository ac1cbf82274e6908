/- Contracts of Where and Len; of ask and what it is asked by; of askPut. -/
import Derived.Test.YtmbpmcgppnanpaaLkPut
namespace Go.Proofs.Ytmbpmcgppnanpaa.Lk
open Go.RowKit Go.Proofs.Ytmbpmcgppnanpaa.Bs

/-- Where a thing stands; what a list has. -/
def wI (ls : List (List Nat)) (t : Int) : Int := if 0 ≤ t then whI ls t.toNat else -1
def lsI (ls : List (List Nat)) (i : Int) : List Nat := if 0 ≤ i then ls.getD i.toNat [] else []

theorem wI_nat (ls : List (List Nat)) (t : Nat) : wI ls (t : Int) = whI ls t := by
  unfold wI
  rw [if_pos (by omega)]
  simp
theorem lsI_nat (ls : List (List Nat)) (i : Nat) : lsI ls (i : Int) = ls.getD i [] := by
  unfold lsI
  rw [if_pos (by omega)]
  simp
theorem lsI_get {ls : List (List Nat)} {i : Nat} {q : List Nat} (h : ls[i]? = some q) : lsI ls (i : Int) = q := by
  rw [lsI_nat, List.getD_eq_getElem?_getD, h]
  rfl
theorem wI_out {N L : Nat} {ls : List (List Nat)} (h : Ok N L ls) {t : Int} (ht : inN N t = false) : wI ls t = -1 := by
  unfold wI
  split
  · refine whI_none fun i q hq hm => ?_
    have := h.lt i q hq _ hm
    unfold inN at ht
    simp at ht
    omega
  · rfl
theorem lsI_out {N L : Nat} {ls : List (List Nat)} (h : Ok N L ls) {i : Int} (hi : inN L i = false) : lsI ls i = [] := by
  unfold lsI
  split
  · unfold inN at hi
    simp at hi
    rw [List.getD_eq_getElem?_getD, List.getElem?_eq_none (by rw [h.len]; omega)]
    rfl
  · rfl
theorem Ok.at {N L : Nat} {ls : List (List Nat)} (h : Ok N L ls) {i : Nat} (hi : i < L) : ls[i]? = some (lsI ls (i : Int)) := by
  have : i < ls.length := by rw [h.len]; exact hi
  rw [lsI_nat, List.getD_eq_getElem?_getD, List.getElem?_eq_getElem this]
  rfl

section
variable {w : World} {P : Pl} {N L : Nat} {ls : List (List Nat)}

theorem where_any (h : LQ w P N L ls) (t : Int) :
    Calls Try.prog 37 #[.pointer (some ⟨P.B, 0, none⟩), .int .i64 t] w fun e w' => e = .returned (.int .i64 (wI ls t)) ∧ w' = w := by
  have ho := h.ok
  obtain ⟨nx, pv, hm, -⟩ := h
  have HT := hasThing_any hm t
  cases hb : inN N t with
  | false =>
    rw [wI_out ho hb]
    rw [hb] at HT
    go_enter Try.func37, Try.ntmps37
    go_wp2_with (first
      | (go_at_call 52; refine HT.mono ?_; rintro e w' ⟨rfl, hw⟩; subst w'))
    go_ret
    exact ⟨rfl, rfl⟩
  | true =>
    rw [hb] at HT
    obtain ⟨k, rfl, hk⟩ := inN_out hb
    rw [wI_nat]
    have cw := hm.xw (whL_get (ls := ls) hk)
    have c2 := hm.c2
    have hk' : (k : Int) < (N : Int) := by omega
    clear hb ho
    go_enter Try.func37, Try.ntmps37
    go_wp2_with (first
      | (go_at_call 52; refine HT.mono ?_; rintro e w' ⟨rfl, hw⟩; subst w'))
    go_ret
    exact ⟨rfl, rfl⟩

theorem len_any (h : LQ w P N L ls) (i : Int) :
    Calls Try.prog 64 #[.pointer (some ⟨P.B, 0, none⟩), .int .i64 i] w fun e w' => e = .returned (.int .i64 (lsI ls i).length) ∧ w' = w := by
  have ho := h.ok
  obtain ⟨nx, pv, hm, -⟩ := h
  have HT := hasList_any hm i
  cases hb : inN L i with
  | false =>
    rw [lsI_out ho hb]
    rw [hb] at HT
    go_enter Try.func64, Try.ntmps64
    go_wp2_with (first
      | (go_at_call 62; refine HT.mono ?_; rintro e w' ⟨rfl, hw⟩; subst w'))
    go_ret
    exact ⟨rfl, rfl⟩
  | true =>
    rw [hb] at HT
    obtain ⟨k, rfl, hk⟩ := inN_out hb
    have cw := hm.xc (ctL_get (ho.at hk))
    generalize (lsI ls (k : Int)).length = c at cw
    have c3 := hm.c3
    have hk' : (k : Int) < (L : Int) := by omega
    clear hb ho
    go_enter Try.func64, Try.ntmps64
    go_wp2_with (first
      | (go_at_call 62; refine HT.mono ?_; rintro e w' ⟨rfl, hw⟩; subst w'))
    go_ret
    exact ⟨rfl, rfl⟩

/-- What is asked ahead of a put. -/
theorem more_put {bl bt t : Nat} (h : LQ w P N L ls) (ht : t < N) (h0 : w.cell? ⟨bl, 0, none⟩ = some (.pointer (some ⟨P.B, 0, none⟩))) (h1 : w.cell? ⟨bt, 0, none⟩ = some (.int .i64 t)) :
    Calls Try.prog 63 #[.pointer (some ⟨bl, 0, none⟩), .pointer (some ⟨bt, 0, none⟩)] w fun e w' => e = .returned (.int .i64 (if whI ls t = -1 then 0 else 5)) ∧ Drawn w w' := by
  obtain ⟨nx, pv, hm, -⟩ := h
  have cw := hm.xw (whL_get (ls := ls) ht)
  have c2 := hm.c2
  have ht' : (t : Int) < (N : Int) := by omega
  have ht0 : (0 : Int) ≤ (t : Int) := by omega
  generalize whI ls t = y at cw
  by_cases hy : y = -1
  · subst hy
    rw [if_pos rfl]
    go_enter Try.func63, Try.ntmps63
    go_wp2_with fail
    go_quiet (fail)
    go_wp2_with fail
    go_ret
    exact ⟨rfl, _, rfl⟩
  · rw [if_neg hy]
    have hy' : (y == -1) = false := by simpa using hy
    go_enter Try.func63, Try.ntmps63
    go_wp2_with fail
    go_quiet (fail)
    go_wp2_with fail
    go_ret
    exact ⟨rfl, _, rfl⟩

theorem ask_range (h : LQ w P N L ls) (f : Value) :
    Calls Try.prog 55 #[.pointer (some ⟨P.B, 0, none⟩), .bool false, f] w fun e w' => e = .returned (.int .i64 8) ∧ w' = w := by
  obtain ⟨nx, pv, hm, -⟩ := h
  go_enter Try.func55, Try.ntmps55
  go_wp2_with (first
    | (go_at_call 61; refine (made_any hm).mono ?_; rintro e w' ⟨rfl, hw⟩; subst w'))
  go_ret
  exact ⟨rfl, rfl⟩

theorem ask_put {bl bt : Nat} {r : Int} (h : LQ w P N L ls) (H : Calls Try.prog 63 #[.pointer (some ⟨bl, 0, none⟩), .pointer (some ⟨bt, 0, none⟩)] w fun e w' => e = .returned (.int .i64 r) ∧ Drawn w w') :
    Calls Try.prog 55 #[.pointer (some ⟨P.B, 0, none⟩), .bool true, .func (.func 63) #[] #[.pointer (some ⟨bl, 0, none⟩), .pointer (some ⟨bt, 0, none⟩)]] w fun e w' => e = .returned (.int .i64 r) ∧ Drawn w w' := by
  obtain ⟨nx, pv, hm, -⟩ := h
  go_enter Try.func55, Try.ntmps55
  go_wp2_with (first
    | (go_at_call 61; refine (made_any hm).mono ?_; rintro e w' ⟨rfl, hw⟩; subst w')
    | (go_at_call 63; refine H.mono ?_; rintro e w' ⟨rfl, hd⟩))
  go_ret
  exact ⟨rfl, hd⟩
end

end Go.Proofs.Ytmbpmcgppnanpaa.Lk
