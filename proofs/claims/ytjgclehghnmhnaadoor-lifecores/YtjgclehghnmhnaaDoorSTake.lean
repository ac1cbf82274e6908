/- Contracts of Take and New; the document's example. -/
import Derived.Test.YtjgclehghnmhnaaDoorSLeast
namespace Go.Proofs.YtjgclehghnmhnaaDoor
open Go.RowKit

/-- What Take tells, and what it makes of ages and of who is taken. -/
def takeI (ag : List Nat) (tk : List Bool) : Int := match leastO ag tk with | some i => idI i (ag.getD i 0 + 1 : Nat) | none => 0
def takeE (ag : List Nat) (tk : List Bool) : Int := match leastO ag tk with | some _ => 0 | none => 3
def takeA (ag : List Nat) (tk : List Bool) : List Nat := match leastO ag tk with | some i => ag.set i (ag.getD i 0 + 1) | none => ag
def takeT (ag : List Nat) (tk : List Bool) : List Bool := match leastO ag tk with | some i => tk.set i true | none => tk

section
variable {w w' : World} {B G n : Nat} {ag : List Nat} {tk : List Bool}

set_option maxHeartbeats 4000000 in
theorem take_any (hsq : SlQ w B G n ag tk) (hT : Tab w) :
    Calls Tryd.prog 44 #[.pointer (some ⟨B, 0, none⟩)] w fun e w' => e = .returned (.tuple #[.int .i64 (takeI ag tk), .int .i64 (takeE ag tk)]) ∧ SlQ w' B G n (takeA ag tk) (takeT ag tk) ∧ But [B, G] w w' := by
  have hM : Calls Tryd.prog 62 #[.pointer (some ⟨B, 0, none⟩)] w fun e w' => e = .returned (.bool true) ∧ w' = w := by
    obtain ⟨c, fs, h, _⟩ := hsq
    exact made_any h
  have hL := least_any hsq hT
  unfold takeI takeE takeA takeT
  cases ho : leastO ag tk with
  | none =>
    dsimp only
    have e : leastI ag tk = -1 := by unfold leastI; rw [ho]
    rw [e] at hL
    clear ho e
    go_enter Tryd.func44, Tryd.ntmps44
    go_wp2_with (first
      | (go_at_call 62; refine hM.mono ?_; rintro e w' ⟨rfl, hw⟩; subst w')
      | (go_at_call 67; refine hL.mono ?_; rintro e w' ⟨rfl, hw⟩; subst w'))
    go_ret2
    exact ⟨rfl, hsq, But.refl _ _⟩
  | some i =>
    dsimp only
    have e : leastI ag tk = (i : Int) := by unfold leastI; rw [ho]
    rw [e] at hL
    obtain ⟨hok, _⟩ := leastO_iff ho
    have hlt := okB_lt hok
    unfold okB at hok
    simp only [Bool.and_eq_true, beq_iff_eq, decide_eq_true_eq] at hok
    obtain ⟨ht, ha⟩ := hok
    obtain ⟨c, fs, hm, hl, hb⟩ := hsq
    have hn := hm.le
    have hin : i < n := by omega
    have hq := bits_turn hm.flen hb (j := i) (by omega) ht
    have hU := turn_any hm i (by omega)
    have hx : ag[i]? = some (ag.getD i 0) := by
      have : i < ag.length := by rw [hm.alen]; exact hin
      simp [List.getD_eq_getElem?_getD, this]
    generalize ag.getD i 0 = a at ha hx ⊢
    generalize (fs.set (i / 64) (fs.getD (i / 64) 0 ^^^ 2 ^ (i % 64))) = fs' at hU hq
    have hi0 : (0 : Int) ≤ (i : Int) := by omega
    have hi1 : (i : Int) < (n : Int) := by omega
    have hw1 : IntKind.i64.wrap ((a : Int) + 1) = ((a + 1 : Nat) : Int) := by rw [IntKind.wrap_i64]; omega
    have hD : ∀ W, Calls Tryd.prog 64 #[.int .i64 (i : Int), .int .i64 ((a + 1 : Nat) : Int)] W fun e w' => e = .returned (.int .i64 (idI i (a + 1 : Nat))) ∧ w' = W := fun W => id_any _ _ W
    have hS : ∀ W, SlM W B G n c fs' ag → SlM (W.setCell ⟨G, i, none⟩ (.int .i64 ((a + 1 : Nat) : Int))) B G n c fs' (ag.set i (a + 1)) := fun W h => h.setA i (by omega)
    have hX : Aside (∀ W, SlM W B G n c fs' ag → W.cell? ⟨B, 64, none⟩ = some (.slice (some ⟨G, 0, none⟩) n c) ∧ W.cell? ⟨G, i, none⟩ = some (.int .i64 (a : Int)) ∧ W.frozen? ⟨G, i, none⟩ = false) := fun W h => ⟨h.c64, h.a hx, h.fG i⟩
    have hY : Aside (∀ W, SlM W B G n c fs' (ag.set i (a + 1)) → W.cell? ⟨B, 64, none⟩ = some (.slice (some ⟨G, 0, none⟩) n c) ∧ W.cell? ⟨G, i, none⟩ = some (.int .i64 ((a + 1 : Nat) : Int))) := fun W h => ⟨h.c64, h.a (by rw [List.getElem?_set_self]; rw [hm.alen]; exact hin)⟩
    have hl' : Hid ((tk.set i true).length = n) := (List.length_set).trans hl
    clear ho e hx ht hb hm hl
    generalize idI (i : Int) (a + 1 : Nat) = id at hD ⊢
    generalize ((a + 1 : Nat) : Int) = a1 at hD hS hY hw1
    generalize (a : Int) = a0 at hX hw1
    go_enter Tryd.func44, Tryd.ntmps44
    go_wp2_with (first
      | (go_at_call 62; refine hM.mono ?_; rintro e w' ⟨rfl, hw⟩; subst w')
      | (go_at_call 67; refine hL.mono ?_; rintro e w' ⟨rfl, hw⟩; subst w')
      | (go_at_call 57; refine hU.mono ?_; rintro e w1 ⟨rfl, hs, hbt⟩; obtain ⟨x1, x2, x3⟩ := hX.out w1 hs; have hs2 := hS w1 hs; obtain ⟨x4, x5⟩ := hY.out _ hs2)
      | (go_at_call 64; refine (hD _).mono ?_; rintro e w' ⟨rfl, hw⟩; subst w'))
    go_ret2
    refine ⟨?_, ⟨c, fs', ?_, hl'.out, hq⟩, ?_⟩
    · rfl
    · exact hs2
    · exact (hbt.mono (by simp)).set (p := ⟨G, i, none⟩) (by simp) _

end
end Go.Proofs.YtjgclehghnmhnaaDoor
