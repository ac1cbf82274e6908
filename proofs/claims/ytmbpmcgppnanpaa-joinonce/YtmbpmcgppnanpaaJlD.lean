/- Drop. -/
import Derived.Test.YtmbpmcgppnanpaaJlE
namespace Go.Proofs.Ytmbpmcgppnanpaa.Jl
open Go Go.RowKit Go.Shelf Go.Proofs.Ytmbpmcgppnanpaa.Bs Go.Proofs.Ytmbpmcgppnanpaa.Jn
open Go.Proofs.Ytmbpmcgppnanpaa.Ids (right indexI ageI idI index_any)
open Go.Proofs.Ytmbpmcgppnanpaa.Lk (LQ Pl iv ints inN_of wI wI_nat whI_cases remE remS remove_any lsI lsI_get lsI_nat filter_mid)
attribute [local go_sem] Oper.semAt_some
set_option linter.unusedSimpArgs false
variable {w w' : World} {B t j n : Nat} {P : Pl} {σ : St} {ls : List (List Nat)} {wt : List Int}

/-- One that waits is removed. -/
theorem rem_in (ho : Lk.Ok n n ls) {k p : Nat} (hk : k < n) (hp : p ∈ lsN ls k) : remE n ls (p : Int) = 0 ∧ remS n ls (p : Int) = ls.set k ((lsN ls k).filter (fun y => !(y == p))) := by
  have hq := lsN_get ho hk
  have hpn : p < n := ho.lt k _ hq p hp
  have hw : wI ls (p : Int) = k := by
    rw [wI_nat]
    rcases whI_cases ho.len p with ⟨-, hn⟩ | ⟨i, q', h1, h2, e, -⟩
    · exact absurd hp (hn k _ hq)
    · by_cases hik : i = k
      · rw [e, hik]
      · exact absurd hp (ho.dj i k _ _ h1 hq hik p h2)
  have h0 : remE n ls (p : Int) = 0 := by
    unfold remE
    rw [inN_of hpn, if_pos rfl, hw, if_neg (by omega)]
  refine ⟨h0, ?_⟩
  unfold remS
  rw [if_pos h0, hw, lsI_get hq, Int.toNat_natCast, Int.toNat_natCast]
/-- A row of which all is kept but who waits. -/
theorem PM.rows (h : PM w B t j P n σ ls wt) {k : Nat} (hk : k < n) {r : Rw} (h1 : r.id = (rw σ k).id) (h2 : r.en = (rw σ k).en) (h3 : r.va = (rw σ k).va) : PM w B t j P n (σ.set k r) ls wt := by
  refine ⟨h.b, ?_, h.rj, h.q, h.nd, by rw [List.length_set]; exact h.sl, h.wl⟩
  obtain ⟨cur, g, q⟩ := h.g
  refine ⟨cur, g, fun i c hi hc => ?_⟩
  have hs : rw (σ.set k r) i = if i = k then r else rw σ i := getD_set (by rw [h.sl]; exact hk)
  rw [q i c hi hc, hs]
  split
  · next e =>
    subst e
    have e : c = 0 ∨ c = 1 ∨ c = 2 := by omega
    rcases e with rfl | rfl | rfl
    · show some (Value.int .i64 _) = some (.int .i64 _)
      rw [h1]
    · show some (Value.int .i64 (stN _)) = some (.int .i64 (stN _))
      unfold stN
      rw [h1, h2]
    · show some (Value.int .i64 (vaN _)) = some (.int .i64 (vaN _))
      unfold vaN
      rw [h2, h3]
  · rfl
/-- Does one wait, and where does it? -/
theorem in_cases (l : Li n σ ls wt) (H : Ok n σ) (y : Int) : (whI σ y = 0 ∧ inR σ y = none) ∨ ∃ k p : Nat, k < n ∧ p ∈ lsN ls k ∧ wtI wt p = y ∧ indexI y = p ∧ inR σ y = some k ∧ whI σ y ≠ 0 := by
  cases e : inR σ y with
  | none => exact .inl ⟨by unfold whI; rw [e], rfl⟩
  | some k =>
    refine .inr ?_
    unfold inR at e
    obtain ⟨hk, h1, -⟩ := List.findIdx?_eq_some_iff_getElem.1 e
    rw [H.len] at hk
    have hm : y ∈ (rw σ k).q := by
      have h2 := H.at hk
      rw [List.getElem?_eq_getElem (by rw [H.len]; exact hk)] at h2
      injection h2 with h2
      rw [h2] at h1
      simpa [hasI] using h1
    obtain ⟨p, hp, hpn, e1, e2⟩ := l.pl hk hm
    refine ⟨k, p, hk, hp, e2, e1, rfl, ?_⟩
    show whI σ y ≠ 0
    have e3 : whI σ y = (rw σ k).id := by unfold whI inR; rw [e]
    rw [e3]
    intro h0
    rw [H.q0 k hk (.inl h0)] at hm
    cases hm
section
set_option maxRecDepth 100000
set_option maxHeartbeats 2000000
theorem drop_any (h : PM w B t j P n σ ls wt) (l : Li n σ ls wt) (H : Ok n σ) (y : Int) (hi : Iv y) :
    Calls Try.prog 21 #[.pointer (some ⟨B, 0, none⟩), .int .i64 y] w fun e w' => e = .returned (.bool (dropB σ y)) ∧ ∃ l2, PM w' B t j P n (dropS σ y) l2 wt ∧ Li n (dropS σ y) l2 wt ∧ But (bl B t j P) w w' := by
  have hd := h.keep ((But.refl [] w).drew)
  have WH := where_any2 hd l H y hi
  have bd : But (bl B t j P) w w.drew := (But.refl _ w).drew
  rcases in_cases l H y with ⟨e0, e1⟩ | ⟨k, p, hk, hp, e2, e3, e1, e4⟩
  · have eB : dropB σ y = false := by unfold dropB; rw [e1]; rfl
    have eS : dropS σ y = σ := by unfold dropS; rw [e1]
    have WQ := fun m => where_drawn (h.keep ((But.refl [] w).drewN m)) l H y hi
    rw [e0] at WQ
    rw [eB, eS]
    clear e0 e1 eB eS
    go_enter Try.func21, Try.ntmps21
    go_wp2_with fail
    go_quiet (first | (go_at_call 14; exact Calls.quiet_of (WQ _)))
    go_wp2_with fail
    go_ret
    exact ⟨rfl, ls, h.keep ((But.refl [] w).drewN _), l, (But.refl _ w).drewN _⟩
  · have eB : dropB σ y = true := by unfold dropB; rw [e1]; rfl
    have l2 := l.rem H hk hp e2
    obtain ⟨r1, r2⟩ := rem_in l.lk hk hp
    have ez : (whI σ y != 0) = true := by simpa using e4
    rw [eB]
    have RM := fun X (hX : PM X B t j P n σ ls wt) => remove_any hX.q (p : Int)
    rw [r1, r2] at RM
    have J := fun X => index_any y hi.1 hi.2 X
    rw [e3] at J
    have hrow : ∀ X l3, PM X B t j P n σ l3 wt → PM X B t j P n (dropS σ y) l3 wt := fun X l3 hX => by
      have e : dropS σ y = σ.set k ⟨(rw σ k).id, (rw σ k).en, (rw σ k).va, out y (rw σ k).q⟩ := by unfold dropS; rw [e1]
      rw [e]
      exact hX.rows hk rfl rfl rfl
    generalize dropS σ y = σ2 at *
    generalize whI σ y = z at *
    generalize (lsN ls k).filter (fun y => !(y == p)) = q2 at *
    clear eB e1 e4 r1 r2 hp e2
    have c1d := hd.c1
    go_enter Try.func21, Try.ntmps21
    go_wp2_with fail
    go_region_held3 (fun w' : World => w'.cell? ⟨B, 1, none⟩ = some (.pointer (some ⟨P.B, 0, none⟩))) (first | with_reducible assumption) (first
      | (go_at_call 14; (with_reducible refine WH.mono ?_); rintro e w1 ⟨rfl, b1⟩; have h1 := hd.below b1; have c11 := h1.c1)
      | (go_at_call 34; (with_reducible refine (J _).mono ?_); rintro e w2 ⟨rfl, hw⟩; subst w2)
      | (go_at_call 41; (with_reducible refine (RM _ h1).mono ?_); rintro e w3 ⟨rfl, q3, b3⟩; have h3 := h1.lists q3 b3; have c13 := h3.c1))
    all_goals
      go_wp2_with fail
      go_ret
      exact ⟨rfl, _, hrow _ _ h3, l2, (bd.trans (.of_below b1)).trans (b3.mono (sub_S B t j P))⟩
end
end Go.Proofs.Ytmbpmcgppnanpaa.Jl
