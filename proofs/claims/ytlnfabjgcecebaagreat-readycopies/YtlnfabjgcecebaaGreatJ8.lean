/- Contract of swap. -/
/- Contract of sift. -/
/- Contracts of sift and take. -/
/- Contracts of Put, Change, Remove. -/
import Derived.Test.YtlnfabjgcecebaaGreatJ7
import Derived.BigRegion
import Derived.WalkMore
import Derived.Deep.LoopGhost
import Derived.Maps.AppendAt
import Derived.Deep.RegionLaw
namespace Go.Proofs.YtlnfabjgcecebaaGreat.Hp
open Go.RowKit

theorem set_same {α : Type} : ∀ {xs : List α} {i : Nat} {x : α}, xs[i]? = some x → xs.set i x = xs
  | [], i, x, h => by simp at h
  | a :: t, 0, x, h => by simp at h; subst h; rfl
  | a :: t, i + 1, x, h => by rw [List.set_cons_succ, set_same (by simpa using h)]

section
variable {w : World} {B G k N H c n : Nat} {xs : List Th} {pl : List Int}
theorem HM.ne (h : HM w B G k N (.slice (some ⟨H, 0, none⟩) n c) xs pl) : B ≠ H ∧ G ≠ H ∧ B ≠ G := ⟨fun e => h.vb (by rw [e]; rfl), fun e => h.vg (by rw [e]; rfl), h.bg⟩
theorem HM.row (h : HM w B G k N (.slice (some ⟨H, 0, none⟩) n c) xs pl) : n = xs.length := by
  rcases h.h.2 with ⟨e, _⟩ | ⟨g, cap, cur, e, _⟩
  · cases e
  · cases e
    rfl
/-- A cell of the things' block. -/
theorem HM.setH (h : HM w B G k N (.slice (some ⟨H, 0, none⟩) n c) xs pl) {ys : List Th} (j : Nat) (u : Value) (hl : ys.length = xs.length) (hf : flat ys = (flat xs).set j u) : HM (w.setCell ⟨H, j, none⟩ u) B G k N (.slice (some ⟨H, 0, none⟩) n c) ys pl := by
  obtain ⟨h1, h2, h3⟩ := h.ne
  have hr := h.row
  subst hr
  refine ⟨(Below.heap_setCell w ⟨H, j, none⟩ _ B h1).trans h.b, ?_, h.g.other h2 _ _, h.bg, h.vb, h.vg, h.n1, h.n2⟩
  have := (h.h.stored j u).1
  rw [hf, hl]
  exact this
/-- Another thing at a place. -/
theorem HM.setT (h : HM w B G k N (.slice (some ⟨H, 0, none⟩) n c) xs pl) {i : Nat} {p : Th} (r : Th) (hp : xs[i]? = some p) : HM ((w.setCell ⟨H, i * 2, none⟩ (.int .i64 (r.1 : Int))).setCell ⟨H, i * 2 + 1, none⟩ (.int .i64 r.2)) B G k N (.slice (some ⟨H, 0, none⟩) n c) (xs.set i r) pl := by
  have hi := (List.getElem?_eq_some_iff.1 hp).1
  have h1 := h.setH (ys := xs.set i (r.1, p.2)) (i * 2) (.int .i64 (r.1 : Int)) (by simp) (by
    rw [flat_set (r.1, p.2) hp]
    have : ((flat xs).set (i * 2) (.int .i64 (r.1 : Int)))[i * 2 + 1]? = some (.int .i64 p.2) := by rw [List.getElem?_set_ne (by omega)]; exact flat_1 hp
    exact set_same this)
  refine h1.setH (i * 2 + 1) (.int .i64 r.2) (by simp) ?_
  have := flat_set1 (xs := xs.set i (r.1, p.2)) r.2 (List.getElem?_set_self hi)
  rw [List.set_set] at this
  exact this
theorem HM.setG (h : HM w B G k N (.slice (some ⟨H, 0, none⟩) n c) xs pl) (j : Nat) (x : Int) : HM (w.setCell ⟨G, j, none⟩ (.int .i64 x)) B G k N (.slice (some ⟨H, 0, none⟩) n c) xs (pl.set j x) := by
  obtain ⟨h1, h2, h3⟩ := h.ne
  refine ⟨(Below.heap_setCell w ⟨G, j, none⟩ _ B h3).trans h.b, ownsRow_put h.h (fun x hx => ?_), ?_, h.bg, h.vb, h.vg, h.n1, h.n2⟩
  · cases hx
    exact Below.heap_setCell w ⟨G, j, none⟩ _ H (Ne.symm h2)
  · rw [List.map_set]
    exact h.g.set j _

set_option maxHeartbeats 2000000 in
theorem swap_any (h : HM w B G k N (.slice (some ⟨H, 0, none⟩) n c) xs pl) (hp : Pls N xs pl) {i j : Nat} (hi : i < xs.length) (hj : j < xs.length) :
    Calls Tryz.prog 91 #[.pointer (some ⟨B, 0, none⟩), .int .i64 i, .int .i64 j] w fun e w' => e = .returned (.tuple #[]) ∧ HM w' B G k N (.slice (some ⟨H, 0, none⟩) n c) (swL xs i j) ((pl.set (gx xs j).1 i).set (gx xs i).1 j) ∧ But [G, H] w w' := by
  have hr := h.row
  subst hr
  have ha := gx_get hi
  have hb := gx_get hj
  have c0 := h.c0
  have a0 := h.t0 ha
  have a1 := h.t1 ha
  have b0 := h.t0 hb
  have b1 := h.t1 hb
  have c60 := cells60
  have f0 := h.ft (i * 2)
  have f1 := h.ft (i * 2 + 1)
  have f2 := h.ft (j * 2)
  have f3 := h.ft (j * 2 + 1)
  have hi' : (i : Int) < (xs.length : Int) := by omega
  have hj' : (j : Int) < (xs.length : Int) := by omega
  have hi0 : (0 : Int) ≤ (i : Int) := by omega
  have hj0 : (0 : Int) ≤ (j : Int) := by omega
  obtain ⟨n1, n2, n3⟩ := h.ne
  obtain ⟨y0, e0⟩ := cell?_setCell_some (p := ⟨H, i * 2, none⟩) (x := .int .i64 ((gx xs j).1 : Int)) b0
  obtain ⟨y1, e1⟩ := cell?_setCell_some (p := ⟨H, i * 2, none⟩) (x := .int .i64 ((gx xs j).1 : Int)) b1
  obtain ⟨y2, e2⟩ := cell?_setCell_some (p := ⟨H, i * 2 + 1, none⟩) (x := .int .i64 (gx xs j).2) e1
  have h1 := h.setT (gx xs j) ha
  have hb1 : (xs.set i (gx xs j))[j]? = some (gx xs j) := by
    by_cases e : i = j
    · subst e
      exact List.getElem?_set_self hi
    · rw [List.getElem?_set_ne e]
      exact hb
  have h2 := (h1.setT (gx xs i) hb1).drew
  have hB : But [G, H] w (((((w.setCell ⟨H, i * 2, none⟩ (.int .i64 ((gx xs j).1 : Int))).setCell ⟨H, i * 2 + 1, none⟩ (.int .i64 (gx xs j).2)).setCell ⟨H, j * 2, none⟩ (.int .i64 ((gx xs i).1 : Int))).setCell ⟨H, j * 2 + 1, none⟩ (.int .i64 (gx xs i).2)).drew) := (((((But.refl _ w)).set (by simp) _).set (by simp) _).set (by simp) _).set (by simp) _ |>.drew
  have HP := hp.swap hi hj
  have P0 := hp.at' i _ ha
  have P1 := hp.at' j _ hb
  have hai := hp.lt ha
  have hbj := hp.lt hb
  have g1 : (swL xs i j)[i]? = some (gx xs j) := by
    rw [swL_get hi hj, if_pos rfl]
    by_cases e : i = j
    · subst e; rw [if_pos rfl]
    · rw [if_neg e]
  have g2 : (swL xs i j)[j]? = some (gx xs i) := by rw [swL_get hi hj, if_pos rfl]
  change HM _ B G k N (.slice (some ⟨H, 0, none⟩) xs.length c) (swL xs i j) pl at h2
  have hpl := hp.len
  clear h1 hb1
  generalize swL xs i j = ys at *
  generalize gx xs i = a at *
  generalize gx xs j = b at *
  obtain ⟨ai, ak⟩ := a
  obtain ⟨bi, bk⟩ := b
  dsimp only at *
  have hai' : (ai : Int) < (N : Int) := by omega
  have hbj' : (bi : Int) < (N : Int) := by omega
  have hai0 : (0 : Int) ≤ (ai : Int) := by omega
  have hbj0 : (0 : Int) ≤ (bi : Int) := by omega
  have HX : ∀ W, HM W B G k N (.slice (some ⟨H, 0, none⟩) xs.length c) ys (pl.set bi i) → ∃ x, W.cell? ⟨G, ai, none⟩ = some (.int .i64 x) := fun W hW => by
    have e : (pl.set bi (i : Int))[ai]? = some ((pl.set bi (i : Int))[ai]'(by simp; omega)) := List.getElem?_eq_getElem _
    exact ⟨_, hW.x e⟩
  clear ha hb P0 HP hp
  go_enter Tryz.func91, Tryz.ntmps91
  go_wp2_with fail
  go_region
  clear e0 e1 e2 a0 a1 b0 b1 c0 f0 f1 f2 f3
  generalize ((((w.setCell ⟨H, i * 2, none⟩ (.int .i64 (bi : Int))).setCell ⟨H, i * 2 + 1, none⟩ (.int .i64 bk)).setCell ⟨H, j * 2, none⟩ (.int .i64 (ai : Int))).setCell ⟨H, j * 2 + 1, none⟩ (.int .i64 ak)).drew = W1 at *
  have c0 := h2.c0
  have c1 := h2.c1
  have t0 := h2.t0 g1
  have x0 := h2.x P1
  have fx := h2.g.fz bi
  clear h
  go_wp2_with fail
  go_region
  have h3 := (h2.setG bi i).drew
  have hB3 : But [G, H] w (W1.setCell ⟨G, bi, none⟩ (.int .i64 (i : Int))).drew := (hB.set (by simp) _).drew
  clear c0 c1 t0 x0 fx P1 hB h2
  generalize (W1.setCell ⟨G, bi, none⟩ (.int .i64 (i : Int))).drew = W2 at *
  have c0 := h3.c0
  have c1 := h3.c1
  have t0 := h3.t0 g2
  obtain ⟨x, x0⟩ := HX _ h3
  have fx := h3.g.fz ai
  go_wp2_with fail
  go_region
  have h4 := (h3.setG ai j).drew
  have hB4 : But [G, H] w (W2.setCell ⟨G, ai, none⟩ (.int .i64 (j : Int))).drew := (hB3.set (by simp) _).drew
  go_wp2_with fail
  go_end0
  exact ⟨rfl, h4, hB4⟩
end

end Go.Proofs.YtlnfabjgcecebaaGreat.Hp
namespace Go.Proofs.YtlnfabjgcecebaaGreat.Hp
open Go.RowKit

theorem und_lt {xs : List Th} {i : Nat} (hi : i < xs.length) : und xs i < xs.length := by
  unfold und
  split
  · exact hi
  · split
    · rename_i h; exact h.1
    · omega
/-- The place that und tells is under i, if it is another one; and no thing under i comes ahead of the one there. -/
theorem und_par {xs : List Th} {i : Nat} (h : und xs i ≠ i) : 0 < und xs i ∧ par (und xs i) = i := by
  unfold und at h ⊢
  split at h
  · exact absurd rfl h
  · rename_i h1
    rw [if_neg h1]
    split
    · exact ⟨by omega, by unfold par; omega⟩
    · exact ⟨by omega, by unfold par; omega⟩
theorem und_least {xs : List Th} {i j : Nat} (h0 : 0 < j) (hj : j < xs.length) (hp : par j = i) : le (gx xs (und xs i)) (gx xs j) ∧ und xs i ≠ i := by
  have hc : j = 2 * i + 1 ∨ j = 2 * i + 2 := by unfold par at hp; omega
  unfold und
  rw [if_neg (by omega)]
  split
  · rename_i h
    refine ⟨?_, by omega⟩
    rcases hc with rfl | rfl
    · exact befB_le h.2
    · exact le_rf _
  · rename_i h
    refine ⟨?_, by omega⟩
    rcases hc with rfl | rfl
    · exact le_rf _
    · cases e : befB (gx xs (2 * i + 2)) (gx xs (2 * i + 1)) with
      | true => exact absurd ⟨hj, e⟩ h
      | false => exact e

/-- Which way a thing goes: up, or down. -/
def HpB (d : Bool) (xs : List Th) (i : Nat) : Prop := if d then HpU le (gx xs) xs.length i else HpD le (gx xs) xs.length i

/-- Up it goes on, if it comes ahead of the one over it. -/
theorem HpB.up {xs : List Th} {i : Nat} {d : Bool} (h : HpB d xs i) (h0 : 0 < i) (hi : i < xs.length) (hb : befB (gx xs i) (gx xs (par i)) = true) : d = true ∧ HpB true (swL xs i (par i)) (par i) := by
  cases d with
  | false =>
    exfalso
    have hp := par_lt h0
    have := h.1 i h0 hi (by omega)
    unfold le at this
    rw [hb] at this
    cases this
  | true =>
    have hp := par_lt h0
    have := HpU.step le_tr (show HpU le (gx xs) xs.length i from h) h0 hi (befB_le hb)
    refine ⟨rfl, ?_⟩
    show HpU le _ _ _
    rw [gx_swL hi (by omega), swL_len]
    exact this
/-- Else down, if one under it comes ahead of it. -/
theorem HpB.down {xs : List Th} {i : Nat} {d : Bool} (h : HpB d xs i) (hi : i < xs.length) (hu : 0 < i → befB (gx xs i) (gx xs (par i)) = false) (hb : befB (gx xs (und xs i)) (gx xs i) = true) : d = false ∧ HpB false (swL xs i (und xs i)) (und xs i) := by
  have hne : und xs i ≠ i := fun e => by rw [e, befB_rf] at hb; cases hb
  obtain ⟨h1, h2⟩ := und_par hne
  have hlt := und_lt hi
  cases d with
  | true =>
    exfalso
    have hh : Hp le (gx xs) xs.length := HpU.done h (by
      by_cases h0 : 0 < i
      · exact .inr (hu h0)
      · exact .inl (by omega))
    have := hh _ h1 hlt
    rw [h2] at this
    unfold le at this
    rw [hb] at this
    cases this
  | false =>
    have := HpD.step (show HpD le (gx xs) xs.length i from h) h1 hlt h2 (befB_le hb) (fun j hj hn e => (und_least hj hn e).1)
    refine ⟨rfl, ?_⟩
    show HpD le _ _ _
    rw [gx_swL hi hlt, swL_len]
    exact this
/-- Else it stands right. -/
theorem HpB.stop {xs : List Th} {i : Nat} {d : Bool} (h : HpB d xs i) (hu : 0 < i → befB (gx xs i) (gx xs (par i)) = false) (hb : befB (gx xs (und xs i)) (gx xs i) = false) : Hp le (gx xs) xs.length := by
  cases d with
  | true =>
    exact HpU.done h (by
      by_cases h0 : 0 < i
      · exact .inr (hu h0)
      · exact .inl (by omega))
  | false => exact HpD.done h (fun j hj hn e => le_tr _ _ _ hb (und_least hj hn e).1)

section
variable {w : World} {B G k N H c n : Nat} {xs : List Th} {pl : List Int}

set_option maxHeartbeats 4000000 in
theorem siftd_any (d : Bool) (h : HM w B G k N (.slice (some ⟨H, 0, none⟩) n c) xs pl) (hp : Pls N xs pl) {i : Nat} (hi : i < xs.length) (hd : HpB d xs i) :
    Calls Tryz.prog 90 #[.pointer (some ⟨B, 0, none⟩), .int .i64 i] w fun e w' => e = .returned (.tuple #[]) ∧ (∃ ys pl', HM w' B G k N (.slice (some ⟨H, 0, none⟩) n c) ys pl' ∧ Pls N ys pl' ∧ ys.Perm xs ∧ Hp le (gx ys) ys.length) ∧ But [G, H] w w' := by
  have hr := h.row
  subst hr
  have hn : xs.length ≤ 4096 := Nat.le_trans hp.short h.n2
  go_enter Tryz.func90, Tryz.ntmps90
  go_wp2_with fail
  go_step3
  go_wp2_with fail
  go_step3
  go_wp2_with fail
  go_loopw [1, 5] (fun p _ wr => ∃ (at_ : Nat) (ys : List Th) (pl' : List Int), p = .int .i64 at_ ∧ at_ < xs.length ∧ ys.length = xs.length ∧ HM wr B G k N (.slice (some ⟨H, 0, none⟩) xs.length c) ys pl' ∧ Pls N ys pl' ∧ ys.Perm xs ∧ HpB d ys at_ ∧ But [G, H] w wr) (fun p _ _ => if d then (intOf p).toNat else 4096 - (intOf p).toNat)
  case atStart => exact ⟨i, xs, pl, rfl, hi, rfl, h, hp, List.Perm.refl _, hd, But.refl _ _⟩
  case round =>
    clear h hp hd hi
    obtain ⟨t, ys, pl', rfl, ht, hl, h, hp, pm, hd, hB⟩ := hrel
    rw [← hl] at ht hn
    have HU := under_any h t ht hn
    have hto := und_lt ht
    have HA : ∀ W, But [] wr W → Calls Tryz.prog 86 #[.pointer (some ⟨B, 0, none⟩), .int .i64 (und ys t : Nat), .int .i64 t] W fun e w' => e = .returned (.bool (befB (gx ys (und ys t)) (gx ys t))) ∧ Below W.heap.size W w' := fun W hW => ahead_any (h.keep hW) (gx_get hto) (gx_get ht)
    by_cases h0 : 0 < t
    · have hpt := par_lt h0
      have HO := over_any t h0 (by omega)
      have HA0 : ∀ W, But [] wr W → Calls Tryz.prog 86 #[.pointer (some ⟨B, 0, none⟩), .int .i64 t, .int .i64 (par t : Nat)] W fun e w' => e = .returned (.bool (befB (gx ys t) (gx ys (par t)))) ∧ Below W.heap.size W w' := fun W hW => ahead_any (h.keep hW) (gx_get ht) (gx_get (by omega))
      have h0' : (0 : Int) < (t : Int) := by omega
      cases hb : befB (gx ys t) (gx ys (par t)) with
      | true =>
        obtain ⟨rfl, hd2⟩ := hd.up h0 ht hb
        have HS : ∀ W, But [] wr W → _ := fun W hW => swap_any (h.keep hW) hp (i := t) (j := par t) ht (by omega)
        have HPS := hp.swap (i := t) (j := par t) ht (by omega)
        have hpm := swL_perm (i := t) (j := par t) ht (by omega)
        have hln := swL_len ys t (par t)
        rw [hb] at HA0
        clear hb hd HA h hp
        generalize swL ys t (par t) = zs at *
        generalize ((pl'.set (gx ys (par t)).1 (t : Int)).set (gx ys t).1 ((par t : Nat) : Int)) = pl2 at *
        generalize par t = s at *
        generalize und ys t = u at *
        go_wp2_with (first
          | (go_at_call 103; refine HU.mono ?_; rintro e w1 ⟨rfl, b1⟩; have k1 : But [] wr w1 := .of_below b1)
          | (go_at_call 87; refine (HO _).mono ?_; rintro e w' ⟨rfl, hw⟩; subst w')
          | (go_at_call 86; refine (HA0 _ k1).mono ?_; rintro e w2 ⟨rfl, b2⟩; have k2 : But [] wr w2 := k1.trans (.of_below b2))
          | (go_at_call 91; refine (HS _ k2).mono ?_; rintro e w3 ⟨rfl, h3, b3⟩))
        go_roundw
        case rel => exact ⟨s, zs, pl2, by simp, by omega, by omega, h3, HPS, hpm.trans pm, hd2, (hB.trans k2.wide).trans b3⟩
        case measure =>
          simp [intOf]
          omega
      | false =>
        rw [hb] at HA0
        have hu : 0 < t → befB (gx ys t) (gx ys (par t)) = false := fun _ => hb
        clear hb
        generalize hs : par t = s at *
        have Hs : Hid (par t = s) := hs
        clear hs
        cases hb2 : befB (gx ys (und ys t)) (gx ys t) with
        | true =>
          obtain ⟨rfl, hd2⟩ := hd.down ht (Hs.out ▸ hu) hb2
          have HS : ∀ W, But [] wr W → _ := fun W hW => swap_any (h.keep hW) hp (i := t) (j := und ys t) ht hto
          have HPS := hp.swap (i := t) (j := und ys t) ht hto
          have hpm := swL_perm (i := t) (j := und ys t) ht hto
          have hln := swL_len ys t (und ys t)
          have hgt : t < und ys t := by
            have hne : und ys t ≠ t := fun e => by rw [e, befB_rf] at hb2; cases hb2
            obtain ⟨p1, p2⟩ := und_par hne
            have := par_lt p1
            omega
          rw [hb2] at HA
          clear hb2 hd h hp
          generalize swL ys t (und ys t) = zs at *
          generalize ((pl'.set (gx ys (und ys t)).1 (t : Int)).set (gx ys t).1 ((und ys t : Nat) : Int)) = pl2 at *
          generalize und ys t = u at *
          go_wp2_with (first
            | (go_at_call 103; refine HU.mono ?_; rintro e w1 ⟨rfl, b1⟩; have k1 : But [] wr w1 := .of_below b1)
            | (go_at_call 87; refine (HO _).mono ?_; rintro e w' ⟨rfl, hw⟩; subst w')
            | (go_at_call 86; (with_reducible refine (HA0 _ k1).mono ?_); rintro e w2 ⟨rfl, b2⟩; have k2 : But [] wr w2 := k1.trans (.of_below b2))
            | (go_at_call 86; (with_reducible refine (HA _ k2).mono ?_); rintro e w3 ⟨rfl, b3⟩; have k3 : But [] wr w3 := k2.trans (.of_below b3))
            | (go_at_call 91; refine (HS _ k3).mono ?_; rintro e w4 ⟨rfl, h3, b3⟩))
          go_roundw
          case rel => exact ⟨u, zs, pl2, by simp, by omega, by omega, h3, HPS, hpm.trans pm, hd2, (hB.trans k3.wide).trans b3⟩
          case measure =>
            simp [intOf]
            omega
        | false =>
          have hh := hd.stop (Hs.out ▸ hu) hb2
          rw [hb2] at HA
          clear hb2 hd
          generalize und ys t = u at *
          go_wp2_with (first
            | (go_at_call 103; refine HU.mono ?_; rintro e w1 ⟨rfl, b1⟩; have k1 : But [] wr w1 := .of_below b1)
            | (go_at_call 87; refine (HO _).mono ?_; rintro e w' ⟨rfl, hw⟩; subst w')
            | (go_at_call 86; (with_reducible refine (HA0 _ k1).mono ?_); rintro e w2 ⟨rfl, b2⟩; have k2 : But [] wr w2 := k1.trans (.of_below b2))
            | (go_at_call 86; (with_reducible refine (HA _ k2).mono ?_); rintro e w3 ⟨rfl, b3⟩; have k3 : But [] wr w3 := k2.trans (.of_below b3)))
          rw [Exit.noGoto_normal]
          go_end0
          exact ⟨rfl, ⟨ys, pl', h.keep k3, hp, pm, hh⟩, hB.trans k3.wide⟩
    · have h0' : ¬ (0 : Int) < (t : Int) := by omega
      have hu : 0 < t → befB (gx ys t) (gx ys (par t)) = false := fun e => absurd e h0
      cases hb2 : befB (gx ys (und ys t)) (gx ys t) with
      | true =>
        obtain ⟨rfl, hd2⟩ := hd.down ht hu hb2
        have HS : ∀ W, But [] wr W → _ := fun W hW => swap_any (h.keep hW) hp (i := t) (j := und ys t) ht hto
        have HPS := hp.swap (i := t) (j := und ys t) ht hto
        have hpm := swL_perm (i := t) (j := und ys t) ht hto
        have hln := swL_len ys t (und ys t)
        have hgt : t < und ys t := by
          have hne : und ys t ≠ t := fun e => by rw [e, befB_rf] at hb2; cases hb2
          obtain ⟨p1, p2⟩ := und_par hne
          have := par_lt p1
          omega
        rw [hb2] at HA
        clear hb2 hd h hp
        generalize swL ys t (und ys t) = zs at *
        generalize ((pl'.set (gx ys (und ys t)).1 (t : Int)).set (gx ys t).1 ((und ys t : Nat) : Int)) = pl2 at *
        generalize und ys t = u at *
        go_wp2_with (first
          | (go_at_call 103; refine HU.mono ?_; rintro e w1 ⟨rfl, b1⟩; have k1 : But [] wr w1 := .of_below b1)
          | (go_at_call 86; (with_reducible refine (HA _ k1).mono ?_); rintro e w3 ⟨rfl, b3⟩; have k3 : But [] wr w3 := k1.trans (.of_below b3))
          | (go_at_call 91; refine (HS _ k3).mono ?_; rintro e w4 ⟨rfl, h3, b3⟩))
        go_roundw
        case rel => exact ⟨u, zs, pl2, by simp, by omega, by omega, h3, HPS, hpm.trans pm, hd2, (hB.trans k3.wide).trans b3⟩
        case measure =>
          simp [intOf]
          omega
      | false =>
        have hh := hd.stop hu hb2
        rw [hb2] at HA
        clear hb2 hd
        generalize und ys t = u at *
        go_wp2_with (first
          | (go_at_call 103; refine HU.mono ?_; rintro e w1 ⟨rfl, b1⟩; have k1 : But [] wr w1 := .of_below b1)
          | (go_at_call 86; (with_reducible refine (HA _ k1).mono ?_); rintro e w3 ⟨rfl, b3⟩; have k3 : But [] wr w3 := k1.trans (.of_below b3)))
        rw [Exit.noGoto_normal]
        go_end0
        exact ⟨rfl, ⟨ys, pl', h.keep k3, hp, pm, hh⟩, hB.trans k3.wide⟩
end

end Go.Proofs.YtlnfabjgcecebaaGreat.Hp
namespace Go.Proofs.YtlnfabjgcecebaaGreat.Hp
open Go.RowKit

section
variable {w : World} {B G k N H c n : Nat} {xs : List Th} {pl : List Int}

theorem sift_any (h : HM w B G k N (.slice (some ⟨H, 0, none⟩) n c) xs pl) (hp : Pls N xs pl) {i : Nat} (hi : i < xs.length) (hx : HpX le (gx xs) xs.length i) :
    Calls Tryz.prog 90 #[.pointer (some ⟨B, 0, none⟩), .int .i64 i] w fun e w' => e = .returned (.tuple #[]) ∧ (∃ ys pl', HM w' B G k N (.slice (some ⟨H, 0, none⟩) n c) ys pl' ∧ Pls N ys pl' ∧ ys.Perm xs ∧ Hp le (gx ys) ys.length) ∧ But [G, H] w w' := by
  rcases hx.parts le_tr le_tot with hd | hd
  · exact siftd_any true h hp hi hd
  · exact siftd_any false h hp hi hd

/-- The last thing goes. -/
theorem HM.pop {m : Nat} {p : Th} (h : HM w B G k N (.slice (some ⟨H, 0, none⟩) (m + 1) c) (xs ++ [p]) pl) (hm : m = xs.length) : HM (w.setCell ⟨B, 0, none⟩ (.slice (some ⟨H, 0, none⟩) m c)) B G k N (.slice (some ⟨H, 0, none⟩) m c) xs pl := by
  obtain ⟨h1, h2, h3⟩ := h.ne
  subst hm
  have e : (xs ++ [p]).length = xs.length + 1 := by simp
  have hr := h.h
  rw [e, flat_app] at hr
  have hpop := ownsRow_pop (flat_len xs) hr
  refine ⟨?_, ownsRow_put hpop (fun x hx => ?_), h.g.other (Ne.symm h3) _ _, h.bg, (fun e => h1 (by cases e; rfl)), (fun e => h2 (by cases e; rfl)), h.n1, h.n2⟩
  · have := heap_setCell_same w B 0 _ 63 (.slice (some ⟨H, 0, none⟩) xs.length c) h.b
    rw [this]
    simp
  · cases hx
    exact Below.heap_setCell w ⟨B, 0, none⟩ _ H (Ne.symm h1)

theorem HM.cap (h : HM w B G k N (.slice (some ⟨H, 0, none⟩) n c) xs pl) : xs.length ≤ c := by
  rcases h.h.2 with ⟨e, _⟩ | ⟨g, cap, cur, e, _, _, hc, _⟩
  · cases e
  · cases e
    exact hc

set_option maxHeartbeats 2000000 in
theorem take_any (h : HM w B G k N (.slice (some ⟨H, 0, none⟩) n c) xs pl) (hp : Pls N xs pl) (hh : Hp le (gx xs) xs.length) {i : Nat} (hi : i < xs.length) :
    Calls Tryz.prog 74 #[.pointer (some ⟨B, 0, none⟩), .int .i64 i] w fun e w' => e = .returned (.tuple #[]) ∧ (∃ ys pl', HM w' B G k N (.slice (some ⟨H, 0, none⟩) (n - 1) c) ys pl' ∧ Pls N ys pl' ∧ xs.Perm (gx xs i :: ys) ∧ Hp le (gx ys) ys.length) ∧ But [B, G, H] w w' := by
  have hr := h.row
  have hn : xs.length ≤ 4096 := Nat.le_trans hp.short h.n2
  have hcap := h.cap
  obtain ⟨m, hm⟩ : ∃ m, xs.length = m + 1 := ⟨xs.length - 1, by omega⟩
  obtain rfl : n = m + 1 := by omega
  have hml : m < xs.length := by omega
  have HS := swap_any h hp hi hml
  have HP := hp.swap hi hml
  have hpm := swL_perm hi hml
  have hln := swL_len xs i m
  have hg : (swL xs i m)[m]? = some (gx xs i) := by rw [swL_get hi hml, if_pos rfl]
  have hgk : ∀ k, k < m → k ≠ i → (swL xs i m)[k]? = xs[k]? := fun k h1 h2 => by rw [swL_get hi hml, if_neg (by omega), if_neg h2]
  obtain ⟨ys, v, ez, hyl, -⟩ := mid_of hg
  obtain rfl : v = [] := by
    have := congrArg List.length ez
    rw [hln, hm] at this
    simp at this
    exact List.eq_nil_of_length_eq_zero (by omega)
  have hyk : ∀ k, k < m → k ≠ i → gx ys k = gx xs k := fun k h1 h2 => by
    have e := hgk k h1 h2
    rw [ez, List.getElem?_append_left (by omega)] at e
    rw [gx, gx, List.getD_eq_getElem?_getD, List.getD_eq_getElem?_getD, e]
  have HX : i < m → HpX le (gx ys) ys.length i := fun _ => by
    rw [hyl]
    exact hh.any le_tr hi (by omega) hyk
  have HY : ¬ i < m → Hp le (gx ys) ys.length := fun e => by
    rw [hyl]
    exact (hh.cut (m := m) (by omega)).congr (fun k hk => hyk k hk (by omega))
  have hperm : xs.Perm (gx xs i :: ys) := (ez ▸ hpm.symm).trans (List.perm_append_comm)
  rw [ez] at HS HP hg
  have c0 := h.c0
  generalize ((pl.set (gx xs m).1 (i : Int)).set (gx xs i).1 ((m : Nat) : Int)) = pl1 at *
  have hid := HP.lt hg
  obtain ⟨x, hx⟩ : ∃ x, pl1[(gx xs i).1]? = some x := ⟨_, HP.at' m _ hg⟩
  have HPP : Pls N ys (pl1.set (gx xs i).1 (-1)) := Pls.pop (k := (gx xs i).2) HP
  rw [hm] at hi hn hcap
  clear hpm hgk hyk ez HP hp hh hln hr hm hml
  have Hyl : Hid (ys.length = m) := hyl
  generalize gx xs i = a at *
  obtain ⟨id, ky⟩ := a
  dsimp only at *
  have hid' : (id : Int) < (N : Int) := by omega
  have hmc : m ≤ c := by omega
  have hmc' : (m : Int) ≤ (c : Int) := by omega
  have hm' : (m : Int) < (m : Int) + 1 := by omega
  have c60 := cells60
  clear hyl
  go_enter Tryz.func74, Tryz.ntmps74
  go_wp2_with (first
    | (go_at_call 91; refine HS.mono ?_; rintro e w1 ⟨rfl, h1, b1⟩))
  have d0 := h1.c0
  have d1 := h1.c1
  have d2 := h1.t0 hg
  have d3 := h1.x hx
  have d4 := h1.g.fz id
  clear c0 HS
  go_region
  have h2 := (h1.setG id (-1)).drew
  have b2 : But [B, G, H] w (w1.setCell ⟨G, id, none⟩ (.int .i64 (-1))).drew := ((b1.mono (by simp)).set (by simp) _).drew
  clear d0 d1 d2 d3 d4 h1 b1
  generalize (w1.setCell ⟨G, id, none⟩ (.int .i64 (-1))).drew = W2 at *
  have d0 := h2.c0
  have d1 := h2.fb 0
  have h3 := h2.pop Hyl.out.symm
  have b3 : But [B, G, H] w (W2.setCell ⟨B, 0, none⟩ (.slice (some ⟨H, 0, none⟩) m c)) := b2.set (by simp) _
  by_cases hlt : i < m
  · have SF := sift_any h3 HPP (by rw [Hyl.out]; exact hlt) (HX hlt)
    have hlt' : (i : Int) < (m : Int) := by omega
    clear h2 h3 b2
    go_wp2_with (first
      | (go_at_call 90; refine SF.mono ?_; rintro e w4 ⟨rfl, ⟨zs, pl4, h4, p4, pm4, hp4⟩, b4⟩))
    go_end0
    exact ⟨rfl, ⟨zs, pl4, h4, p4, hperm.trans (pm4.symm.cons _), hp4⟩, b3.trans (b4.mono (by simp))⟩
  · have hlt' : ¬ (i : Int) < (m : Int) := by omega
    have HY := HY hlt
    go_wp2_with fail
    go_end0
    exact ⟨rfl, ⟨ys, _, h3, HPP, hperm, HY⟩, b3⟩
end

end Go.Proofs.YtlnfabjgcecebaaGreat.Hp
namespace Go.Proofs.YtlnfabjgcecebaaGreat.Hp
open Go.RowKit

theorem info60 : (Tryz.prog.info? 80).map (fun i => (i.zero, i.size, i.bytes)) = some (some (.agg #[.int .i64 0, .int .i64 0]), 2, 16) := by kernel_rfl

theorem run_appT {w : World} {v : Value} {xs : List Th} {ty : TypeId} (hown : w.ownsRow 0 80 2 v xs.length (flat xs)) {ad : Addr} {m c : Nat} {news : List Th} (hl : news.length = m) (hr : ∀ j u, (flat news)[j]? = some u → w.cell? (ad.add j) = some u)
    (hk : xs.length + m ≤ 100000) :
    ∃ v' w', (Builtin.append_ #[61, 61] ty #[v, .slice (some ad) m c]).run Tryz.prog w = .ok v' w' ∧ w'.ownsRow 0 80 2 v' (xs.length + m) (flat (xs ++ news)) ∧ w.grownBy w' v.ownBlock ∧ (v'.ownBlock = v.ownBlock ∨ v'.ownBlock = some w.heap.size) := by
  obtain ⟨i0, hi, hz0, hz1, hz2⟩ := info_parts info60
  obtain ⟨v', w', h1, h2, h3, _, h5⟩ := run_append_own_at (P := Tryz.prog) w 0 61 ty 80 i0 (.agg #[.int .i64 0, .int .i64 0]) 2 16 Tryz.underlying61 hi hz0 hz1 hz2 rfl (by decide) v _ _ hown ad m c (flat news) (by rw [flat_len, hl]) hr
    (fun u hu => by unfold flat at hu; obtain ⟨x, _, hx⟩ := List.mem_flatMap.1 hu; simp at hx; rcases hx with rfl | rfl <;> rfl) (by unfold maxLen; omega) (by omega) (Nat.zero_le _)
  refine ⟨v', w', h1, ?_, h3, h5⟩
  rw [flat_app]
  exact h2

theorem wpList_appT {w : World} {ops : Array Oper} {rest : List Oper} {o : Oper} {a : Act} {Q : Exit → Act → World → Prop} (hg : o.guard = none) (s x : Operand) (hop : o.op = Op.call { callee := Callee.builtin Builtin.append, args := #[s, x], argTypes := #[61, 61] })
    (v : Value) (xs : List Th) (hs : a.eval s = v) (hown : w.ownsRow 0 80 2 v xs.length (flat xs)) (ad : Addr) (m c : Nat) (news : List Th) (hx : a.eval x = .slice (some ad) m c) (hl : news.length = m) (hr : ∀ j u, (flat news)[j]? = some u → w.cell? (ad.add j) = some u)
    (hk : xs.length + m ≤ 100000)
    (hK : ∀ v' w', w'.ownsRow 0 80 2 v' (xs.length + m) (flat (xs ++ news)) → w.grownBy w' v.ownBlock → (v'.ownBlock = v.ownBlock ∨ v'.ownBlock = some w.heap.size) → wpList Tryz.prog ops Q rest (a.put o.dst v') w') :
    wpList Tryz.prog ops Q (o :: rest) a w := by
  refine wpList_plain hg fun K hK' => ?_
  obtain ⟨v', w', hrun, r1, r2, r3⟩ := run_appT (ty := o.type) (c := c) hown hl hr hk
  unfold Oper.wp execOp
  simp only [hop, resolve, invoke, builtin, Sem.run_bind, Sem.run_pure, Result.andThen_ok, List.map_toArray, List.map_cons, List.map_nil, hs, hx, hrun]
  exact hK' _ _ (hK v' w' r1 r2 r3)

section
variable {w : World} {B G k N : Nat} {v : Value} {xs : List Th} {pl : List Int}

/-- Another row of things. -/
theorem HM.grow {w2 : World} {v' : Value} {ys : List Th} {n : Nat} (h : HM w B G k N v xs pl) (hn : n = ys.length) (ho : w2.ownsRow 0 80 2 v' n (flat ys)) (hg : w.grownBy w2 v.ownBlock) (hv : v'.ownBlock = v.ownBlock ∨ v'.ownBlock = some w.heap.size) :
    HM (w2.setCell ⟨B, 0, none⟩ v') B G k N v' ys pl ∧ Step (bks B G v) w (bks B G v') (w2.setCell ⟨B, 0, none⟩ v') := by
  subst hn
  have lB := h.lt (x := B) bks_B
  have lG := h.lt (x := G) bks_G
  have nB : v'.ownBlock ≠ some B := fun e => hv.elim (fun e1 => h.vb (e1 ▸ e)) (fun e1 => by rw [e1] at e; cases e; omega)
  have nG : v'.ownBlock ≠ some G := fun e => hv.elim (fun e1 => h.vg (e1 ▸ e)) (fun e1 => by rw [e1] at e; cases e; omega)
  have eB : w2.heap[B]? = _ := (hg.block B lB (fun e => h.vb e.symm)).trans h.b
  have eG : w2.heap[G]? = w.heap[G]? := hg.block G lG (fun e => h.vg e.symm)
  have b1 : But (bks B G v) w w2 := ⟨hg.os, hg.tape, hg.output, hg.size, fun x hx hs => hg.block x hx (fun e => hs (bks_v e.symm))⟩
  refine ⟨⟨?_, ownsRow_put ho (fun x hx => ?_), (h.g.put eG).other (Ne.symm h.bg) _ _, h.bg, nB, nG, h.n1, h.n2⟩, b1.set bks_B _, fun x hx => ?_⟩
  · have := heap_setCell_same w2 B 0 _ 63 v' eB
    rw [this]
    simp
  · exact Below.heap_setCell w2 ⟨B, 0, none⟩ _ x (fun e => nB (by rw [hx, e]))
  · rcases bks_out hx with rfl | rfl | hx
    · exact .inl bks_B
    · exact .inl bks_G
    · rcases hv with e | e
      · exact .inl (bks_v (e ▸ hx))
      · rw [e] at hx
        cases hx
        exact .inr (Nat.le_refl _)
theorem own_some {v' : Value} {n : Nat} {vs : List Value} (h : w.ownsRow 0 80 2 v' n vs) (hn : 0 < n) : ∃ H c, v' = .slice (some ⟨H, 0, none⟩) n c := by
  rcases h.2 with ⟨_, h0⟩ | ⟨g, cap, cur, e, _⟩
  · omega
  · exact ⟨g, cap, e⟩
theorem bks_GH {H n c : Nat} : ∀ x ∈ [G, H], x ∈ bks B G (.slice (some ⟨H, 0, none⟩) n c) := by
  intro x hx
  simp at hx
  rcases hx with rfl | rfl
  · exact bks_G
  · exact bks_v rfl
theorem bks_BGH {H n c : Nat} : ∀ x ∈ [B, G, H], x ∈ bks B G (.slice (some ⟨H, 0, none⟩) n c) := by
  intro x hx
  simp at hx
  rcases hx with rfl | rfl | rfl
  · exact bks_B
  · exact bks_G
  · exact bks_v rfl
end

/-- What Put, Change and Remove make of the list. -/
def putS (N : Nat) (q : List Th) (t key : Int) : List Th := if askE N q t false 5 = 0 then insq (t.toNat, key) q else q
def chgS (N : Nat) (q : List Th) (t key : Int) : List Th := if askE N q t true 4 = 0 then insq (t.toNat, key) (remq q t) else q
def remS (N : Nat) (q : List Th) (t : Int) : List Th := if askE N q t true 4 = 0 then remq q t else q

theorem askE_zero {N : Nat} {q : List Th} {t : Int} {there : Bool} {last : Int} (hl : last ≠ 0) (h : askE N q t there last = 0) : ∃ id : Nat, t = id ∧ id < N ∧ hasB q t = there := by
  unfold askE at h
  split at h
  · rename_i hb
    obtain ⟨id, rfl, hid⟩ := inN_out hb
    split at h
    · rename_i e
      exact ⟨id, rfl, hid, e⟩
    · exact absurd h hl
  · simp at h

theorem two_cells (W : World) (id : Nat) (key : Int) : ∀ j u, (flat [(id, key)])[j]? = some u → (W.alloc (.cells #[.int .i64 (id : Int), .int .i64 key] 80)).cell? ((⟨W.heap.size, 0, none⟩ : Addr).add j) = some u := cell_two_new W _ _ 80

section
variable {w : World} {B N : Nat} {T : List Nat} {q : List Th}

set_option maxHeartbeats 2000000 in
theorem put_any (h : HQ w B T N q) (t key : Int) :
    Calls Tryz.prog 72 #[.pointer (some ⟨B, 0, none⟩), .int .i64 t, .int .i64 key] w fun e w' => e = .returned (.int .i64 (askE N q t false 5)) ∧ ∃ T', HQ w' B T' N (putS N q t key) ∧ Step T w T' w' := by
  obtain ⟨G, k, v, xs, pl, rfl, hm, hR⟩ := h
  have HA := ask_any hm hR t false 5
  unfold putS
  by_cases hz : askE N q t false 5 = 0
  · rw [if_pos hz]
    rw [hz] at HA ⊢
    obtain ⟨id, rfl, hid, hb⟩ := askE_zero (by decide) hz
    rw [Int.toNat_natCast]
    have hno := hR.no hid hb
    have hn : xs.length ≤ 4096 := Nat.le_trans hR.pls.short hm.n2
    have HPP := hR.pls.push key hno
    have HX : HpX le (gx (xs ++ [(id, key)])) (xs ++ [(id, key)]).length xs.length := by
      have := hR.hp.more (f := gx (xs ++ [(id, key)])) (fun k hk => by rw [gx, gx, List.getD_eq_getElem?_getD, List.getD_eq_getElem?_getD, List.getElem?_append_left hk])
      simpa using this
    have HI : ∀ ys pl', Pls N ys pl' → Hp le (gx ys) ys.length → ys.Perm (xs ++ [(id, key)]) → Rep N ys pl' (insq (id, key) q) := fun ys pl' a b c => hR.insq hb a b c
    obtain ⟨sa, c, rfl, -, -⟩ := hm.sl
    have c0 := hm.c0
    have hma := hm.keep ((But.refl [] w).alloc (.cells #[.int .i64 (id : Int), .int .i64 key] 80))
    have d0 := hma.c0
    have d1 := hma.fb 0
    have hid' : (id : Int) < (N : Int) := by omega
    have TC := two_cells w id key
    have hst : Step (bks B G (.slice sa xs.length c)) w (bks B G (.slice sa xs.length c)) (w.alloc (.cells #[.int .i64 (id : Int), .int .i64 key] 80)) := Step.keep ((But.refl [] w).alloc _)
    clear hz hb hR
    generalize insq (id, key) q = q' at *
    have hlen : xs.length + 1 = (xs ++ [(id, key)]).length := by simp
    have Hlen : Hid (xs.length + 1 = (xs ++ [(id, key)]).length) := hlen
    clear hlen
    obtain ⟨ys, hys⟩ : ∃ ys, xs ++ [(id, key)] = ys := ⟨_, rfl⟩
    have Hys : Hid (xs ++ [(id, key)] = ys) := hys
    rw [hys] at HPP HX HI Hlen
    clear hys
    go_enter Tryz.func72, Tryz.ntmps72
    go_wp2_with (first
      | (go_at_call 78; refine HA.mono ?_; rintro e w1 ⟨rfl, hw⟩; subst w1)
      | (at_builtin; refine wpList_appT rfl _ _ rfl (.slice sa xs.length c) xs rfl hma.h _ _ _ [(id, key)] rfl rfl TC (by omega) ?_; intro v2 w2 ho2 hg2 hv2; rw [Hys.out] at ho2; obtain ⟨h3, s3⟩ := hma.grow Hlen.out ho2 hg2 hv2; obtain ⟨H2, c2, rfl⟩ := own_some ho2 (by simp); have f0 : w2.cell? ⟨B, 0, none⟩ = some (.slice sa xs.length c) := hg2.cell d0 (fun e => hma.vb e.symm); have f1 : w2.frozen? ⟨B, 0, none⟩ = false := (World.frozen?_of_block (hg2.block B (hma.lt bks_B) (fun e => hma.vb e.symm))).trans d1; have g0 := h3.c1; have g1 := h3.x hno; have g2 := h3.g.fz id; have h4 := h3.setG id xs.length; have s4 := s3.trans (Step.same ((But.refl _ _).set (p := ⟨G, id, none⟩) bks_G (.int .i64 (xs.length : Int)))); have SF := sift_any h4 HPP (i := xs.length) (by have := Hlen.out; omega) HX)
      | (go_at_call 90; refine SF.mono ?_; rintro e w5 ⟨rfl, ⟨zs, pl5, h5, p5, pm5, hp5⟩, b5⟩))
    go_ret
    exact ⟨rfl, _, ⟨G, k, _, zs, pl5, rfl, h5, HI _ _ p5 hp5 pm5⟩, (hst.trans s4).trans (Step.same (b5.mono bks_GH))⟩
  · rw [if_neg hz]
    generalize askE N q t false 5 = e at *
    have hz' : (e == 0) = false := by simpa using hz
    go_enter Tryz.func72, Tryz.ntmps72
    go_wp2_with (first
      | (go_at_call 78; refine HA.mono ?_; rintro e w1 ⟨rfl, hw⟩; subst w1))
    go_ret
    exact ⟨rfl, _, ⟨G, k, v, xs, pl, rfl, hm, hR⟩, Step.refl _ _⟩
end

end Go.Proofs.YtlnfabjgcecebaaGreat.Hp
