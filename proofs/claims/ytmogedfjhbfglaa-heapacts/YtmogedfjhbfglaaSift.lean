/- Contract of sift. -/
import Derived.Test.YtmogedfjhbfglaaSwap
import Derived.WalkMore
import Derived.Deep.LoopGhost
namespace Go.Proofs.Ytmogedfjhbfglaa
open Go.RowKit

theorem und_lt {xs : List Th} {i : Nat} (hi : i < xs.length) : und xs i < xs.length := by
  unfold und
  split
  · exact hi
  · split
    · rename_i h; exact h.1
    · omega
/-- The place that und tells is under i, if it is another one; and no thing under i comes ahead of the one there. -/
theorem und_par {xs : List Th} {i : Nat} (h : und xs i ≠ i) : 0 < und xs i ∧ par (und xs i) = i := by
  unfold und at h ⊢
  split at h
  · exact absurd rfl h
  · rename_i h1
    rw [if_neg h1]
    split
    · exact ⟨by omega, by unfold par; omega⟩
    · exact ⟨by omega, by unfold par; omega⟩
theorem und_least {xs : List Th} {i j : Nat} (h0 : 0 < j) (hj : j < xs.length) (hp : par j = i) : le (gx xs (und xs i)) (gx xs j) ∧ und xs i ≠ i := by
  have hc : j = 2 * i + 1 ∨ j = 2 * i + 2 := by unfold par at hp; omega
  unfold und
  rw [if_neg (by omega)]
  split
  · rename_i h
    refine ⟨?_, by omega⟩
    rcases hc with rfl | rfl
    · exact befB_le h.2
    · exact le_rf _
  · rename_i h
    refine ⟨?_, by omega⟩
    rcases hc with rfl | rfl
    · exact le_rf _
    · cases e : befB (gx xs (2 * i + 2)) (gx xs (2 * i + 1)) with
      | true => exact absurd ⟨hj, e⟩ h
      | false => exact e

/-- Which way a thing goes: up, or down. -/
def HpB (d : Bool) (xs : List Th) (i : Nat) : Prop := if d then HpU le (gx xs) xs.length i else HpD le (gx xs) xs.length i

/-- Up it goes on, if it comes ahead of the one over it. -/
theorem HpB.up {xs : List Th} {i : Nat} {d : Bool} (h : HpB d xs i) (h0 : 0 < i) (hi : i < xs.length) (hb : befB (gx xs i) (gx xs (par i)) = true) : d = true ∧ HpB true (swL xs i (par i)) (par i) := by
  cases d with
  | false =>
    exfalso
    have hp := par_lt h0
    have := h.1 i h0 hi (by omega)
    unfold le at this
    rw [hb] at this
    cases this
  | true =>
    have hp := par_lt h0
    have := HpU.step le_tr (show HpU le (gx xs) xs.length i from h) h0 hi (befB_le hb)
    refine ⟨rfl, ?_⟩
    show HpU le _ _ _
    rw [gx_swL hi (by omega), swL_len]
    exact this
/-- Else down, if one under it comes ahead of it. -/
theorem HpB.down {xs : List Th} {i : Nat} {d : Bool} (h : HpB d xs i) (hi : i < xs.length) (hu : 0 < i → befB (gx xs i) (gx xs (par i)) = false) (hb : befB (gx xs (und xs i)) (gx xs i) = true) : d = false ∧ HpB false (swL xs i (und xs i)) (und xs i) := by
  have hne : und xs i ≠ i := fun e => by rw [e, befB_rf] at hb; cases hb
  obtain ⟨h1, h2⟩ := und_par hne
  have hlt := und_lt hi
  cases d with
  | true =>
    exfalso
    have hh : Hp le (gx xs) xs.length := HpU.done h (by
      by_cases h0 : 0 < i
      · exact .inr (hu h0)
      · exact .inl (by omega))
    have := hh _ h1 hlt
    rw [h2] at this
    unfold le at this
    rw [hb] at this
    cases this
  | false =>
    have := HpD.step (show HpD le (gx xs) xs.length i from h) h1 hlt h2 (befB_le hb) (fun j hj hn e => (und_least hj hn e).1)
    refine ⟨rfl, ?_⟩
    show HpD le _ _ _
    rw [gx_swL hi hlt, swL_len]
    exact this
/-- Else it stands right. -/
theorem HpB.stop {xs : List Th} {i : Nat} {d : Bool} (h : HpB d xs i) (hu : 0 < i → befB (gx xs i) (gx xs (par i)) = false) (hb : befB (gx xs (und xs i)) (gx xs i) = false) : Hp le (gx xs) xs.length := by
  cases d with
  | true =>
    exact HpU.done h (by
      by_cases h0 : 0 < i
      · exact .inr (hu h0)
      · exact .inl (by omega))
  | false => exact HpD.done h (fun j hj hn e => le_tr _ _ _ hb (und_least hj hn e).1)

section
variable {w : World} {B G k N H c n : Nat} {xs : List Th} {pl : List Int}

set_option maxHeartbeats 4000000 in
theorem siftd_any (d : Bool) (h : HM w B G k N (.slice (some ⟨H, 0, none⟩) n c) xs pl) (hp : Pls N xs pl) {i : Nat} (hi : i < xs.length) (hd : HpB d xs i) :
    Calls Try.prog 37 #[.pointer (some ⟨B, 0, none⟩), .int .i64 i] w fun e w' => e = .returned (.tuple #[]) ∧ (∃ ys pl', HM w' B G k N (.slice (some ⟨H, 0, none⟩) n c) ys pl' ∧ Pls N ys pl' ∧ ys.Perm xs ∧ Hp le (gx ys) ys.length) ∧ But [G, H] w w' := by
  have hr := h.row
  subst hr
  have hn : xs.length ≤ 4096 := Nat.le_trans hp.short h.n2
  go_enter Try.func37, Try.ntmps37
  go_wp2_with fail
  go_step3
  go_wp2_with fail
  go_step3
  go_wp2_with fail
  go_loopw [1, 5] (fun p _ wr => ∃ (at_ : Nat) (ys : List Th) (pl' : List Int), p = .int .i64 at_ ∧ at_ < xs.length ∧ ys.length = xs.length ∧ HM wr B G k N (.slice (some ⟨H, 0, none⟩) xs.length c) ys pl' ∧ Pls N ys pl' ∧ ys.Perm xs ∧ HpB d ys at_ ∧ But [G, H] w wr) (fun p _ _ => if d then (intOf p).toNat else 4096 - (intOf p).toNat)
  case atStart => exact ⟨i, xs, pl, rfl, hi, rfl, h, hp, List.Perm.refl _, hd, But.refl _ _⟩
  case round =>
    clear h hp hd hi
    obtain ⟨t, ys, pl', rfl, ht, hl, h, hp, pm, hd, hB⟩ := hrel
    rw [← hl] at ht hn
    have HU := under_any h t ht hn
    have hto := und_lt ht
    have HA : ∀ W, But [] wr W → Calls Try.prog 32 #[.pointer (some ⟨B, 0, none⟩), .int .i64 (und ys t : Nat), .int .i64 t] W fun e w' => e = .returned (.bool (befB (gx ys (und ys t)) (gx ys t))) ∧ Below W.heap.size W w' := fun W hW => ahead_any (h.keep hW) (gx_get hto) (gx_get ht)
    by_cases h0 : 0 < t
    · have hpt := par_lt h0
      have HO := over_any t h0 (by omega)
      have HA0 : ∀ W, But [] wr W → Calls Try.prog 32 #[.pointer (some ⟨B, 0, none⟩), .int .i64 t, .int .i64 (par t : Nat)] W fun e w' => e = .returned (.bool (befB (gx ys t) (gx ys (par t)))) ∧ Below W.heap.size W w' := fun W hW => ahead_any (h.keep hW) (gx_get ht) (gx_get (by omega))
      have h0' : (0 : Int) < (t : Int) := by omega
      cases hb : befB (gx ys t) (gx ys (par t)) with
      | true =>
        obtain ⟨rfl, hd2⟩ := hd.up h0 ht hb
        have HS : ∀ W, But [] wr W → _ := fun W hW => swap_any (h.keep hW) hp (i := t) (j := par t) ht (by omega)
        have HPS := hp.swap (i := t) (j := par t) ht (by omega)
        have hpm := swL_perm (i := t) (j := par t) ht (by omega)
        have hln := swL_len ys t (par t)
        rw [hb] at HA0
        clear hb hd HA h hp
        generalize swL ys t (par t) = zs at *
        generalize ((pl'.set (gx ys (par t)).1 (t : Int)).set (gx ys t).1 ((par t : Nat) : Int)) = pl2 at *
        generalize par t = s at *
        generalize und ys t = u at *
        go_wp2_with (first
          | (go_at_call 46; refine HU.mono ?_; rintro e w1 ⟨rfl, b1⟩; have k1 : But [] wr w1 := .of_below b1)
          | (go_at_call 33; refine (HO _).mono ?_; rintro e w' ⟨rfl, hw⟩; subst w')
          | (go_at_call 32; refine (HA0 _ k1).mono ?_; rintro e w2 ⟨rfl, b2⟩; have k2 : But [] wr w2 := k1.trans (.of_below b2))
          | (go_at_call 47; refine (HS _ k2).mono ?_; rintro e w3 ⟨rfl, h3, b3⟩))
        go_roundw
        case rel => exact ⟨s, zs, pl2, by simp, by omega, by omega, h3, HPS, hpm.trans pm, hd2, (hB.trans k2.wide).trans b3⟩
        case measure =>
          simp [intOf]
          omega
      | false =>
        rw [hb] at HA0
        have hu : 0 < t → befB (gx ys t) (gx ys (par t)) = false := fun _ => hb
        clear hb
        generalize hs : par t = s at *
        have Hs : Hid (par t = s) := hs
        clear hs
        cases hb2 : befB (gx ys (und ys t)) (gx ys t) with
        | true =>
          obtain ⟨rfl, hd2⟩ := hd.down ht (Hs.out ▸ hu) hb2
          have HS : ∀ W, But [] wr W → _ := fun W hW => swap_any (h.keep hW) hp (i := t) (j := und ys t) ht hto
          have HPS := hp.swap (i := t) (j := und ys t) ht hto
          have hpm := swL_perm (i := t) (j := und ys t) ht hto
          have hln := swL_len ys t (und ys t)
          have hgt : t < und ys t := by
            have hne : und ys t ≠ t := fun e => by rw [e, befB_rf] at hb2; cases hb2
            obtain ⟨p1, p2⟩ := und_par hne
            have := par_lt p1
            omega
          rw [hb2] at HA
          clear hb2 hd h hp
          generalize swL ys t (und ys t) = zs at *
          generalize ((pl'.set (gx ys (und ys t)).1 (t : Int)).set (gx ys t).1 ((und ys t : Nat) : Int)) = pl2 at *
          generalize und ys t = u at *
          go_wp2_with (first
            | (go_at_call 46; refine HU.mono ?_; rintro e w1 ⟨rfl, b1⟩; have k1 : But [] wr w1 := .of_below b1)
            | (go_at_call 33; refine (HO _).mono ?_; rintro e w' ⟨rfl, hw⟩; subst w')
            | (go_at_call 32; (with_reducible refine (HA0 _ k1).mono ?_); rintro e w2 ⟨rfl, b2⟩; have k2 : But [] wr w2 := k1.trans (.of_below b2))
            | (go_at_call 32; (with_reducible refine (HA _ k2).mono ?_); rintro e w3 ⟨rfl, b3⟩; have k3 : But [] wr w3 := k2.trans (.of_below b3))
            | (go_at_call 47; refine (HS _ k3).mono ?_; rintro e w4 ⟨rfl, h3, b3⟩))
          go_roundw
          case rel => exact ⟨u, zs, pl2, by simp, by omega, by omega, h3, HPS, hpm.trans pm, hd2, (hB.trans k3.wide).trans b3⟩
          case measure =>
            simp [intOf]
            omega
        | false =>
          have hh := hd.stop (Hs.out ▸ hu) hb2
          rw [hb2] at HA
          clear hb2 hd
          generalize und ys t = u at *
          go_wp2_with (first
            | (go_at_call 46; refine HU.mono ?_; rintro e w1 ⟨rfl, b1⟩; have k1 : But [] wr w1 := .of_below b1)
            | (go_at_call 33; refine (HO _).mono ?_; rintro e w' ⟨rfl, hw⟩; subst w')
            | (go_at_call 32; (with_reducible refine (HA0 _ k1).mono ?_); rintro e w2 ⟨rfl, b2⟩; have k2 : But [] wr w2 := k1.trans (.of_below b2))
            | (go_at_call 32; (with_reducible refine (HA _ k2).mono ?_); rintro e w3 ⟨rfl, b3⟩; have k3 : But [] wr w3 := k2.trans (.of_below b3)))
          rw [Exit.noGoto_normal]
          go_end0
          exact ⟨rfl, ⟨ys, pl', h.keep k3, hp, pm, hh⟩, hB.trans k3.wide⟩
    · have h0' : ¬ (0 : Int) < (t : Int) := by omega
      have hu : 0 < t → befB (gx ys t) (gx ys (par t)) = false := fun e => absurd e h0
      cases hb2 : befB (gx ys (und ys t)) (gx ys t) with
      | true =>
        obtain ⟨rfl, hd2⟩ := hd.down ht hu hb2
        have HS : ∀ W, But [] wr W → _ := fun W hW => swap_any (h.keep hW) hp (i := t) (j := und ys t) ht hto
        have HPS := hp.swap (i := t) (j := und ys t) ht hto
        have hpm := swL_perm (i := t) (j := und ys t) ht hto
        have hln := swL_len ys t (und ys t)
        have hgt : t < und ys t := by
          have hne : und ys t ≠ t := fun e => by rw [e, befB_rf] at hb2; cases hb2
          obtain ⟨p1, p2⟩ := und_par hne
          have := par_lt p1
          omega
        rw [hb2] at HA
        clear hb2 hd h hp
        generalize swL ys t (und ys t) = zs at *
        generalize ((pl'.set (gx ys (und ys t)).1 (t : Int)).set (gx ys t).1 ((und ys t : Nat) : Int)) = pl2 at *
        generalize und ys t = u at *
        go_wp2_with (first
          | (go_at_call 46; refine HU.mono ?_; rintro e w1 ⟨rfl, b1⟩; have k1 : But [] wr w1 := .of_below b1)
          | (go_at_call 32; (with_reducible refine (HA _ k1).mono ?_); rintro e w3 ⟨rfl, b3⟩; have k3 : But [] wr w3 := k1.trans (.of_below b3))
          | (go_at_call 47; refine (HS _ k3).mono ?_; rintro e w4 ⟨rfl, h3, b3⟩))
        go_roundw
        case rel => exact ⟨u, zs, pl2, by simp, by omega, by omega, h3, HPS, hpm.trans pm, hd2, (hB.trans k3.wide).trans b3⟩
        case measure =>
          simp [intOf]
          omega
      | false =>
        have hh := hd.stop hu hb2
        rw [hb2] at HA
        clear hb2 hd
        generalize und ys t = u at *
        go_wp2_with (first
          | (go_at_call 46; refine HU.mono ?_; rintro e w1 ⟨rfl, b1⟩; have k1 : But [] wr w1 := .of_below b1)
          | (go_at_call 32; (with_reducible refine (HA _ k1).mono ?_); rintro e w3 ⟨rfl, b3⟩; have k3 : But [] wr w3 := k1.trans (.of_below b3)))
        rw [Exit.noGoto_normal]
        go_end0
        exact ⟨rfl, ⟨ys, pl', h.keep k3, hp, pm, hh⟩, hB.trans k3.wide⟩
end

end Go.Proofs.Ytmogedfjhbfglaa
