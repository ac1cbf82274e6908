/- Contracts of made, hasThing, hasList, end, chain, Where, Len. -/
import Derived.Test.YtmbpmcgppnanpaaLkMem
import Derived.Deep.RegionHeld3
namespace Go.Proofs.Ytmbpmcgppnanpaa.Lk
open Go.RowKit Go.Proofs.Ytmbpmcgppnanpaa.Bs

section
variable {w : World} {P : Pl} {N L : Nat} {nx pv : List Nat} {wh : List Int} {ct : List Nat}

theorem made_any (h : LM w P N L nx pv wh ct) :
    Calls Try.prog 61 #[.pointer (some ⟨P.B, 0, none⟩)] w fun e w' => e = .returned (.bool true) ∧ w' = w := by
  have c3 := h.c3
  have hp : 0 < L := h.l1
  go_enter Try.func61, Try.ntmps61
  go_wp2_with fail
  go_ret
  exact ⟨rfl, rfl⟩

theorem hasThing_any (h : LM w P N L nx pv wh ct) (t : Int) :
    Calls Try.prog 52 #[.pointer (some ⟨P.B, 0, none⟩), .int .i64 t] w fun e w' => e = .returned (.bool (inN N t)) ∧ w' = w := by
  have c2 := h.c2
  unfold inN
  by_cases h0 : 0 ≤ t
  · have e : decide (0 ≤ t ∧ t < (N : Int)) = decide (t < (N : Int)) := by simp [h0]
    rw [e]
    clear e
    go_enter Try.func52, Try.ntmps52
    go_wp2_with (first
      | (go_at_call 61; refine (made_any h).mono ?_; rintro e w' ⟨rfl, hw⟩; subst w'))
    go_ret
    exact ⟨rfl, rfl⟩
  · have e : decide (0 ≤ t ∧ t < (N : Int)) = false := by simp [h0]
    rw [e]
    clear e
    have h1 : t < 0 := by omega
    go_enter Try.func52, Try.ntmps52
    go_wp2_with (first
      | (go_at_call 61; refine (made_any h).mono ?_; rintro e w' ⟨rfl, hw⟩; subst w'))
    go_ret
    exact ⟨rfl, rfl⟩

theorem hasList_any (h : LM w P N L nx pv wh ct) (t : Int) :
    Calls Try.prog 62 #[.pointer (some ⟨P.B, 0, none⟩), .int .i64 t] w fun e w' => e = .returned (.bool (inN L t)) ∧ w' = w := by
  have c3 := h.c3
  unfold inN
  by_cases h0 : 0 ≤ t
  · have e : decide (0 ≤ t ∧ t < (L : Int)) = decide (t < (L : Int)) := by simp [h0]
    rw [e]
    clear e
    go_enter Try.func62, Try.ntmps62
    go_wp2_with (first
      | (go_at_call 61; refine (made_any h).mono ?_; rintro e w' ⟨rfl, hw⟩; subst w'))
    go_ret
    exact ⟨rfl, rfl⟩
  · have e : decide (0 ≤ t ∧ t < (L : Int)) = false := by simp [h0]
    rw [e]
    clear e
    have h1 : t < 0 := by omega
    go_enter Try.func62, Try.ntmps62
    go_wp2_with (first
      | (go_at_call 61; refine (made_any h).mono ?_; rintro e w' ⟨rfl, hw⟩; subst w'))
    go_ret
    exact ⟨rfl, rfl⟩

theorem end_any (h : LM w P N L nx pv wh ct) (i : Nat) (hi : i ≤ 4096) :
    Calls Try.prog 49 #[.pointer (some ⟨P.B, 0, none⟩), .int .i64 i] w fun e w' => e = .returned (.int .i64 ((N + i : Nat) : Int)) ∧ w' = w := by
  have c2 := h.c2
  have h2 := h.n2
  go_enter Try.func49, Try.ntmps49
  go_wp2_with fail
  go_ret
  exact ⟨by simp, rfl⟩

set_option maxHeartbeats 1000000 in
theorem chain_any (h : LM w P N L nx pv wh ct) (a b : Nat) (ha : a < N + L) (hb : b < N + L) :
    Calls Try.prog 48 #[.pointer (some ⟨P.B, 0, none⟩), .int .i64 a, .int .i64 b] w fun e w' => e = .returned (.tuple #[]) ∧ LM w' P N L (nx.set a b) (pv.set b a) wh ct ∧ But P.S w w' := by
  obtain ⟨x, hx⟩ : ∃ x, nx[a]? = some x := ⟨_, List.getElem?_eq_getElem (by rw [h.nl]; exact ha)⟩
  obtain ⟨y, hy⟩ : ∃ y, pv[b]? = some y := ⟨_, List.getElem?_eq_getElem (by rw [h.pl]; exact hb)⟩
  have c0 := h.c0
  have c1 := h.c1
  have cx := h.xn hx
  have cy := h.xp hy
  have hnes := h.nes.2.1.1
  have hnB := h.nes.1.1
  have hpB := h.nes.1.2.1
  have fx := h.rn.fz a
  have fy := h.rp.fz b
  have ha' : (a : Int) < ((N : Int) + (L : Int)) := by omega
  have hb' : (b : Int) < ((N : Int) + (L : Int)) := by omega
  have ha0 : (0 : Int) ≤ (a : Int) := by omega
  have hb0 : (0 : Int) ≤ (b : Int) := by omega
  go_enter Try.func48, Try.ntmps48
  go_wp2_with fail
  go_region
  all_goals
    go_wp2_with fail
    go_end0
    exact ⟨rfl, ((h.keep (But.refl [] w).drew).setN a b).setP b a, ((But.refl P.S w).drew.set (p := ⟨P.n, a, none⟩) (by simp [Pl.S]) _).set (p := ⟨P.p, b, none⟩) (by simp [Pl.S]) _⟩
end

end Go.Proofs.Ytmbpmcgppnanpaa.Lk
