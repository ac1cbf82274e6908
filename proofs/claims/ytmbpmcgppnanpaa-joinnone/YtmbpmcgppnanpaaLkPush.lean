/- Contracts of askPut, Push, Front. -/
import Derived.Test.YtmbpmcgppnanpaaLkAskPut
namespace Go.Proofs.Ytmbpmcgppnanpaa.Lk
open Go.RowKit Go.Proofs.Ytmbpmcgppnanpaa.Bs

section
variable {w : World} {P : Pl} {N L : Nat} {ls : List (List Nat)}

set_option maxHeartbeats 2000000 in
theorem askPut_out (h : LQ w P N L ls) (i t : Int) (h1 : (inN L i && inN N t) = false) :
    Calls Try.prog 53 #[.pointer (some ⟨P.B, 0, none⟩), .int .i64 i, .int .i64 t] w fun e w' => e = .returned (.int .i64 8) ∧ But [] w w' := by
  have hB : But [] w ((w.alloc (.cells #[.pointer (some ⟨P.B, 0, none⟩)] 50)).alloc (.cells #[.int .i64 t] 3)) := ((But.refl [] w).alloc _).alloc _
  obtain ⟨x0, x1⟩ := box_two w 50 3 (.pointer (some ⟨P.B, 0, none⟩)) (.int .i64 t)
  have h' := h.keep hB
  have HL : ∀ W, LQ W P N L ls → Calls Try.prog 62 #[.pointer (some ⟨P.B, 0, none⟩), .int .i64 i] W fun e w' => e = .returned (.bool (inN L i)) ∧ w' = W := fun W ⟨_, _, hm, _⟩ => hasList_any hm i
  have HT : ∀ W, LQ W P N L ls → Calls Try.prog 52 #[.pointer (some ⟨P.B, 0, none⟩), .int .i64 t] W fun e w' => e = .returned (.bool (inN N t)) ∧ w' = W := fun W ⟨_, _, hm, _⟩ => hasThing_any hm t
  have HA : ∀ W f, LQ W P N L ls → Calls Try.prog 55 #[.pointer (some ⟨P.B, 0, none⟩), .bool false, f] W fun e w' => e = .returned (.int .i64 8) ∧ w' = W := fun W f h => ask_range h f
  generalize inN L i = b1 at HL h1
  generalize inN N t = b2 at HT h1
  clear h
  go_enter Try.func53, Try.ntmps53
  go_wp2_with fail
  generalize ((w.alloc (.cells #[.pointer (some ⟨P.B, 0, none⟩)] 50)).alloc (.cells #[.int .i64 t] 3)) = W0 at *
  have hS : W0.cell? ⟨w.heap.size, 0, none⟩ = some (.pointer (some ⟨P.B, 0, none⟩)) ∧ W0.cell? ⟨w.heap.size + 1, 0, none⟩ = some (.int .i64 t) ∧ Drawn W0 W0 := ⟨x0, x1, Drawn.refl _⟩
  cases b1 with
  | false =>
    clear h1
    go_quiet (first
      | (go_at_call 62; exact Calls.quiet_of_same (HL _ (h'.drawn ⟨_, rfl⟩)))
      | (go_at_call 55; exact Calls.quiet_of_same (HA _ _ (h'.drawn ⟨_, rfl⟩))))
    go_wp2_with fail
    go_ret
    exact ⟨rfl, hB.drewN _⟩
  | true =>
    obtain rfl : b2 = false := by simpa using h1
    clear h1
    go_region_held3 (fun w' => w'.cell? ⟨w.heap.size, 0, none⟩ = some (.pointer (some ⟨P.B, 0, none⟩)) ∧ w'.cell? ⟨w.heap.size + 1, 0, none⟩ = some (.int .i64 t) ∧ Drawn W0 w') (first | with_reducible assumption | (with_reducible refine bx_drew ?_; with_reducible assumption)) (first
      | (go_at_call 62; refine (HL _ (bx_lq h' (by assumption))).mono ?_; rintro e w' ⟨rfl, hw⟩; subst w')
      | (go_at_call 52; refine (HT _ (bx_lq h' (by assumption))).mono ?_; rintro e w' ⟨rfl, hw⟩; subst w')
      | (go_at_call 55; refine (HA _ _ (bx_lq h' (by assumption))).mono ?_; rintro e w' ⟨rfl, hw⟩; subst w'))
    all_goals
      go_wp2_with fail
      go_ret
      exact ⟨rfl, hB.drew⟩

theorem askPut_any (h : LQ w P N L ls) (i t : Int) :
    Calls Try.prog 53 #[.pointer (some ⟨P.B, 0, none⟩), .int .i64 i, .int .i64 t] w fun e w' => e = .returned (.int .i64 (putE N L ls i t)) ∧ But [] w w' := by
  unfold putE
  cases hb : inN L i && inN N t with
  | false => simpa using askPut_out h i t hb
  | true =>
    simp at hb
    obtain ⟨k, rfl, hk⟩ := inN_out hb.2
    rw [wI_nat]
    exact askPut_in h i k hb.1 hk

/-- What Push and Front make of lists. -/
def pushS (N L : Nat) (ls : List (List Nat)) (i t : Int) : List (List Nat) := if putE N L ls i t = 0 then ls.set i.toNat (lsI ls i ++ [t.toNat]) else ls
def frontS (N L : Nat) (ls : List (List Nat)) (i t : Int) : List (List Nat) := if putE N L ls i t = 0 then ls.set i.toNat (t.toNat :: lsI ls i) else ls

theorem putE_zero {N L : Nat} {ls : List (List Nat)} {i t : Int} (ho : Ok N L ls) (h : putE N L ls i t = 0) : ∃ a b : Nat, i = a ∧ t = b ∧ a < L ∧ b < N ∧ ∀ (j : Nat) (q : List Nat), ls[j]? = some q → b ∉ q := by
  unfold putE at h
  split at h
  · rename_i hb
    simp at hb
    obtain ⟨a, rfl, ha⟩ := inN_out hb.1
    obtain ⟨b, rfl, hb'⟩ := inN_out hb.2
    refine ⟨a, b, rfl, rfl, ha, hb', ?_⟩
    split at h
    · rename_i hw
      rw [wI_nat] at hw
      rcases whI_cases ho.len b with ⟨_, hn⟩ | ⟨j, q, _, _, e, _⟩
      · exact hn
      · omega
    · simp at h
  · simp at h

set_option maxHeartbeats 2000000 in
theorem push_any (h : LQ w P N L ls) (i t : Int) :
    Calls Try.prog 38 #[.pointer (some ⟨P.B, 0, none⟩), .int .i64 i, .int .i64 t] w fun e w' => e = .returned (.int .i64 (putE N L ls i t)) ∧ LQ w' P N L (pushS N L ls i t) ∧ But P.S w w' := by
  have HA := askPut_any h i t
  unfold pushS
  by_cases hz : putE N L ls i t = 0
  · rw [if_pos hz]
    rw [hz] at HA ⊢
    obtain ⟨a, b, rfl, rfl, ha, hb, hn⟩ := putE_zero h.ok hz
    clear hz
    rw [Int.toNat_natCast, Int.toNat_natCast]
    have hq := h.ok.at ha
    have hq' : ls[a]? = some (lsI ls (a : Int) ++ []) := by simpa using hq
    have HP : ∀ W, LQ W P N L ls → _ := fun W h => put_any (w := W) (P := P) (pre := lsI ls (a : Int)) (post := []) h hq' hb hn
    have HX : ∀ W, LQ W P N L ls → W.cell? ⟨P.p, N + a, none⟩ = some (.int .i64 (lastN (N + a) (lsI ls (a : Int)))) ∧ W.cell? ⟨P.B, 1, none⟩ = some (.slice (some ⟨P.p, 0, none⟩) (N + L) P.k2) := fun W ⟨nx, pv, hm, hR⟩ => ⟨hm.xp (hR.lk a _ hq').split.2, hm.c1⟩
    have HE : ∀ W, LQ W P N L ls → Calls Try.prog 49 #[.pointer (some ⟨P.B, 0, none⟩), .int .i64 a] W fun e w' => e = .returned (.int .i64 ((N + a : Nat) : Int)) ∧ w' = W := fun W ⟨nx, pv, hm, hR⟩ => end_any hm a (by have := hm.l2; omega)
    generalize lastN (N + a) (lsI ls (a : Int)) = p at *
    generalize ls.set a (lsI ls (a : Int) ++ [b]) = ls' at *
    have hNa : ((N + a : Nat) : Int) < (N : Int) + (L : Int) := by omega
    have hN0 : (0 : Int) ≤ ((N + a : Nat) : Int) := by omega
    generalize N + a = na at *
    clear hq hq' hn
    go_enter Try.func38, Try.ntmps38
    go_wp2_with (first
      | (go_at_call 53; refine HA.mono ?_; rintro e w1 ⟨rfl, hb1⟩; have h1 := h.keep hb1; have h1' := h1.keep (But.refl [] _).drew; obtain ⟨x0, x1⟩ := HX _ h1))
    go_region_with (first
      | (go_at_call 49; refine (HE _ h1').mono ?_; rintro e w' ⟨rfl, hw⟩; subst w')
      | (go_at_call 54; refine (HP _ h1').mono ?_; rintro e w2 ⟨rfl, h2, b2⟩))
    all_goals
      go_wp2_with fail
      go_ret
      exact ⟨rfl, h2, (hb1.drew.wide).trans b2⟩
  · rw [if_neg hz]
    generalize putE N L ls i t = e at *
    have hz' : (e == 0) = false := by simpa using hz
    go_enter Try.func38, Try.ntmps38
    go_wp2_with (first
      | (go_at_call 53; refine HA.mono ?_; rintro e w1 ⟨rfl, hb1⟩))
    go_ret
    exact ⟨rfl, h.keep hb1, hb1.wide⟩

end

end Go.Proofs.Ytmbpmcgppnanpaa.Lk
