/- Join. -/
import Derived.Test.YtmbpmcgppnanpaaJlD
import Derived.Test.YtmbpmcgppnanpaaJnJ
namespace Go.Proofs.Ytmbpmcgppnanpaa.Jl
open Go Go.RowKit Go.Shelf Go.Proofs.Ytmbpmcgppnanpaa.Bs Go.Proofs.Ytmbpmcgppnanpaa.Jn
open Go.Proofs.Ytmbpmcgppnanpaa.Ids (right indexI ageI idI index_any)
open Go.Proofs.Ytmbpmcgppnanpaa.Lk (LQ Pl iv ints inN_of wI wI_nat whI_cases where_any putE pushS push_any lsI lsI_get lsI_nat)
attribute [local go_sem] Oper.semAt_some
set_option linter.unusedSimpArgs false
variable {w w' : World} {B t j n : Nat} {P : Pl} {σ : St} {ls : List (List Nat)} {wt : List Int}

theorem push_at (h : PM w B t j P n σ ls wt) {i k : Nat} (hi : i < n) (hk : k < n) (hw : Lk.whI ls k = -1) : Calls Try.prog 38 #[.pointer (some ⟨P.B, 0, none⟩), .int .i64 (i : Int), .int .i64 (k : Int)] w fun e w' => e = .returned (.int .i64 0) ∧ PM w' B t j P n σ (ls.set i (lsN ls i ++ [k])) wt ∧ But (bl B t j P) w w' := by
  have h0 : putE n n ls (i : Int) (k : Int) = 0 := by
    unfold putE
    rw [inN_of hi, inN_of hk, wI_nat, hw]
    rfl
  have hS : pushS n n ls (i : Int) (k : Int) = ls.set i (lsN ls i ++ [k]) := by
    unfold pushS
    rw [if_pos h0, lsI_nat, Int.toNat_natCast, Int.toNat_natCast]
    rfl
  have hR := push_any h.q (i : Int) (k : Int)
  rw [h0, hS] at hR
  exact hR.mono fun e w' ⟨h1, h2, h3⟩ => ⟨h1, h.lists h2 h3, h3.mono (sub_S B t j P)⟩
section
set_option maxRecDepth 100000
set_option maxHeartbeats 2000000
theorem join1_any (h : PM w B t j P n σ ls wt) (l : Li n σ ls wt) (H : Ok n σ) (id y : Int) (hy : Iv y) {k : Nat} (e1 : plc σ y = k) (e3 : indexI y = k) {a b c : Int} (hq : (a == 0 && (b == 0 && c == 0)) = decide (stI σ id = 0)) {x1 x2 x3 d : Nat}
    (c0 : w.cell? ⟨x1, 0, none⟩ = some (.pointer (some ⟨B, 0, none⟩))) (c1 : w.cell? ⟨x2, 0, none⟩ = some (.int .i64 y)) (c2 : w.cell? ⟨x3, 0, none⟩ = some (.int .i64 id)) (d0 : w.cell? ⟨d, 0, none⟩ = some (.int .i64 a)) (d1 : w.cell? ⟨d, 1, none⟩ = some (.int .i64 b)) (d2 : w.cell? ⟨d, 2, none⟩ = some (.int .i64 c)) :
    Calls Try.prog 36 #[.pointer (some ⟨x1, 0, none⟩), .pointer (some ⟨x2, 0, none⟩), .pointer (some ⟨x3, 0, none⟩), .pointer (some ⟨d, 0, none⟩)] w fun e w' => e = .returned (.int .i64 (joinE σ id y)) ∧ ∃ m, w' = w.drewN m := by
  have hA := l.atP H k
  have W := fun X (hX : But [] w X) => where_any (h.keep hX).q (k : Int)
  rw [wI_nat] at W
  have I := fun X => index_any y hy.1 hy.2 X
  rw [e3] at I
  have hE : joinE σ id y = if 0 ≤ Lk.whI ls k ∨ y = id then 5 else if stI σ id = 0 then 4 else 0 := by
    unfold joinE
    rw [if_neg (by omega), e1, hA]
  rw [hE]
  have cc := h.c1
  have EQ := fun W => eqK W a b c 0 0 0
  rw [hq] at EQ
  unfold agK at EQ
  clear hA hE hq
  rcases l.wh k with ⟨e5, -⟩ | ⟨i, hi2, hm, e5⟩
  · rw [e5] at W ⊢
    by_cases hyi : y = id
    · subst hyi
      rw [if_pos (.inr rfl)]
      go_enter Try.func36, Try.ntmps36
      go_wp2_with fail
      go_quiet (first
        | (go_at_call 34; exact Calls.quiet_of_same (I _))
        | (go_at_call 37; exact Calls.quiet_of_same (W _ ((But.refl [] w).drewN _))))
      go_wp2_with fail
      go_ret
      exact ⟨rfl, _, rfl⟩
    · rw [if_neg (by omega)]
      have hne : (y == id) = false := by simpa using hyi
      by_cases hs : stI σ id = 0
      all_goals
        first | rw [if_pos hs] | rw [if_neg hs]
        first | rw [decide_eq_true hs] at EQ | rw [decide_eq_false hs] at EQ
        clear hs hyi
        go_enter Try.func36, Try.ntmps36
        go_wp2_with fail
        go_quiet (first
          | (go_at_call 34; exact Calls.quiet_of_same (I _))
          | (go_at_call 37; exact Calls.quiet_of_same (W _ ((But.refl [] w).drewN _))))
        have hW1 := (But.refl [] w).drewN nq
        have d0' := hW1.cell d0
        have d1' := hW1.cell d1
        have d2' := hW1.cell d2
        generalize hWe : w.drewN nq = W1 at hW1 d0' d1' d2' ⊢
        replace hWe := Hid.mk hWe
        go_wp2_with fail
        go_ret
        exact ⟨rfl, _, hWe.out.symm⟩
  · rw [e5] at W ⊢
    rw [if_pos (.inl (by omega))]
    have hi0 : ((i : Int) != -1) = true := by simp
    clear e5
    go_enter Try.func36, Try.ntmps36
    go_wp2_with fail
    go_quiet (first
      | (go_at_call 34; exact Calls.quiet_of_same (I _))
      | (go_at_call 37; exact Calls.quiet_of_same (W _ ((But.refl [] w).drewN _))))
    go_wp2_with fail
    go_ret
    exact ⟨rfl, _, rfl⟩
theorem ask_join (h : PM w B t j P n σ ls wt) (l : Li n σ ls wt) (H : Ok n σ) (id y : Int) (hy : Iv y) {a b c : Int} (hq : (a == 0 && (b == 0 && c == 0)) = decide (stI σ id = 0)) {x1 x2 x3 d : Nat}
    (c0 : w.cell? ⟨x1, 0, none⟩ = some (.pointer (some ⟨B, 0, none⟩))) (c1 : w.cell? ⟨x2, 0, none⟩ = some (.int .i64 y)) (c2 : w.cell? ⟨x3, 0, none⟩ = some (.int .i64 id)) (d0 : w.cell? ⟨d, 0, none⟩ = some (.int .i64 a)) (d1 : w.cell? ⟨d, 1, none⟩ = some (.int .i64 b)) (d2 : w.cell? ⟨d, 2, none⟩ = some (.int .i64 c)) :
    Calls Try.prog 30 #[.pointer (some ⟨B, 0, none⟩), .int .i64 y, .func (.func 36) #[] #[.pointer (some ⟨x1, 0, none⟩), .pointer (some ⟨x2, 0, none⟩), .pointer (some ⟨x3, 0, none⟩), .pointer (some ⟨d, 0, none⟩)]] w fun e w' => e = .returned (.int .i64 (joinE σ id y)) ∧ ∃ m, w' = w.drewN m := by
  by_cases hp : plc σ y < 0
  · have hE : joinE σ id y = 8 := by unfold joinE; rw [if_pos hp]
    rw [hE]
    exact (ask_range h y hy hp _).mono fun e w' ⟨h1, h2⟩ => ⟨h1, 0, h2⟩
  have hM := made_any h
  have HH := has_any h y hy
  rw [decide_eq_true hp] at HH
  obtain ⟨k, e1, -, e3, -⟩ := H.plc hp
  have J1 := join1_any h l H id y hy e1 e3 hq c0 c1 c2 d0 d1 d2
  generalize joinE σ id y = z at *
  go_enter Try.func30, Try.ntmps30
  go_wp2_with (first
    | (go_at_call 40; (with_reducible refine hM.mono ?_); rintro e w1 ⟨rfl, hw⟩; subst w1)
    | (go_at_call 39; (with_reducible refine HH.mono ?_); rintro e w1 ⟨rfl, hw⟩; subst w1)
    | (go_at_call 36; (with_reducible refine J1.mono ?_); rintro e w1 ⟨rfl, b1⟩))
  go_ret
  exact ⟨rfl, b1⟩
end
end Go.Proofs.Ytmbpmcgppnanpaa.Jl
