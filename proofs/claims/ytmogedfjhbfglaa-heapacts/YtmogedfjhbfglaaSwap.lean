/- Contract of swap. -/
import Derived.Test.YtmogedfjhbfglaaAsk
import Derived.BigRegion
namespace Go.Proofs.Ytmogedfjhbfglaa
open Go.RowKit

theorem set_same {α : Type} : ∀ {xs : List α} {i : Nat} {x : α}, xs[i]? = some x → xs.set i x = xs
  | [], i, x, h => by simp at h
  | a :: t, 0, x, h => by simp at h; subst h; rfl
  | a :: t, i + 1, x, h => by rw [List.set_cons_succ, set_same (by simpa using h)]

section
variable {w : World} {B G k N H c n : Nat} {xs : List Th} {pl : List Int}
theorem HM.ne (h : HM w B G k N (.slice (some ⟨H, 0, none⟩) n c) xs pl) : B ≠ H ∧ G ≠ H ∧ B ≠ G := ⟨fun e => h.vb (by rw [e]; rfl), fun e => h.vg (by rw [e]; rfl), h.bg⟩
theorem HM.row (h : HM w B G k N (.slice (some ⟨H, 0, none⟩) n c) xs pl) : n = xs.length := by
  rcases h.h.2 with ⟨e, _⟩ | ⟨g, cap, cur, e, _⟩
  · cases e
  · cases e
    rfl
/-- A cell of the things' block. -/
theorem HM.setH (h : HM w B G k N (.slice (some ⟨H, 0, none⟩) n c) xs pl) {ys : List Th} (j : Nat) (u : Value) (hl : ys.length = xs.length) (hf : flat ys = (flat xs).set j u) : HM (w.setCell ⟨H, j, none⟩ u) B G k N (.slice (some ⟨H, 0, none⟩) n c) ys pl := by
  obtain ⟨h1, h2, h3⟩ := h.ne
  have hr := h.row
  subst hr
  refine ⟨(Below.heap_setCell w ⟨H, j, none⟩ _ B h1).trans h.b, ?_, h.g.other h2 _ _, h.bg, h.vb, h.vg, h.n1, h.n2⟩
  have := (h.h.stored j u).1
  rw [hf, hl]
  exact this
/-- Another thing at a place. -/
theorem HM.setT (h : HM w B G k N (.slice (some ⟨H, 0, none⟩) n c) xs pl) {i : Nat} {p : Th} (r : Th) (hp : xs[i]? = some p) : HM ((w.setCell ⟨H, i * 2, none⟩ (.int .i64 (r.1 : Int))).setCell ⟨H, i * 2 + 1, none⟩ (.int .i64 r.2)) B G k N (.slice (some ⟨H, 0, none⟩) n c) (xs.set i r) pl := by
  have hi := (List.getElem?_eq_some_iff.1 hp).1
  have h1 := h.setH (ys := xs.set i (r.1, p.2)) (i * 2) (.int .i64 (r.1 : Int)) (by simp) (by
    rw [flat_set (r.1, p.2) hp]
    have : ((flat xs).set (i * 2) (.int .i64 (r.1 : Int)))[i * 2 + 1]? = some (.int .i64 p.2) := by rw [List.getElem?_set_ne (by omega)]; exact flat_1 hp
    exact set_same this)
  refine h1.setH (i * 2 + 1) (.int .i64 r.2) (by simp) ?_
  have := flat_set1 (xs := xs.set i (r.1, p.2)) r.2 (List.getElem?_set_self hi)
  rw [List.set_set] at this
  exact this
theorem HM.setG (h : HM w B G k N (.slice (some ⟨H, 0, none⟩) n c) xs pl) (j : Nat) (x : Int) : HM (w.setCell ⟨G, j, none⟩ (.int .i64 x)) B G k N (.slice (some ⟨H, 0, none⟩) n c) xs (pl.set j x) := by
  obtain ⟨h1, h2, h3⟩ := h.ne
  refine ⟨(Below.heap_setCell w ⟨G, j, none⟩ _ B h3).trans h.b, ownsRow_put h.h (fun x hx => ?_), ?_, h.bg, h.vb, h.vg, h.n1, h.n2⟩
  · cases hx
    exact Below.heap_setCell w ⟨G, j, none⟩ _ H (Ne.symm h2)
  · rw [List.map_set]
    exact h.g.set j _

set_option maxHeartbeats 2000000 in
theorem swap_any (h : HM w B G k N (.slice (some ⟨H, 0, none⟩) n c) xs pl) (hp : Pls N xs pl) {i j : Nat} (hi : i < xs.length) (hj : j < xs.length) :
    Calls Try.prog 47 #[.pointer (some ⟨B, 0, none⟩), .int .i64 i, .int .i64 j] w fun e w' => e = .returned (.tuple #[]) ∧ HM w' B G k N (.slice (some ⟨H, 0, none⟩) n c) (swL xs i j) ((pl.set (gx xs j).1 i).set (gx xs i).1 j) ∧ But [G, H] w w' := by
  have hr := h.row
  subst hr
  have ha := gx_get hi
  have hb := gx_get hj
  have c0 := h.c0
  have a0 := h.t0 ha
  have a1 := h.t1 ha
  have b0 := h.t0 hb
  have b1 := h.t1 hb
  have c60 := cells60
  have f0 := h.ft (i * 2)
  have f1 := h.ft (i * 2 + 1)
  have f2 := h.ft (j * 2)
  have f3 := h.ft (j * 2 + 1)
  have hi' : (i : Int) < (xs.length : Int) := by omega
  have hj' : (j : Int) < (xs.length : Int) := by omega
  have hi0 : (0 : Int) ≤ (i : Int) := by omega
  have hj0 : (0 : Int) ≤ (j : Int) := by omega
  obtain ⟨n1, n2, n3⟩ := h.ne
  obtain ⟨y0, e0⟩ := cell?_setCell_some (p := ⟨H, i * 2, none⟩) (x := .int .i64 ((gx xs j).1 : Int)) b0
  obtain ⟨y1, e1⟩ := cell?_setCell_some (p := ⟨H, i * 2, none⟩) (x := .int .i64 ((gx xs j).1 : Int)) b1
  obtain ⟨y2, e2⟩ := cell?_setCell_some (p := ⟨H, i * 2 + 1, none⟩) (x := .int .i64 (gx xs j).2) e1
  have h1 := h.setT (gx xs j) ha
  have hb1 : (xs.set i (gx xs j))[j]? = some (gx xs j) := by
    by_cases e : i = j
    · subst e
      exact List.getElem?_set_self hi
    · rw [List.getElem?_set_ne e]
      exact hb
  have h2 := (h1.setT (gx xs i) hb1).drew
  have hB : But [G, H] w (((((w.setCell ⟨H, i * 2, none⟩ (.int .i64 ((gx xs j).1 : Int))).setCell ⟨H, i * 2 + 1, none⟩ (.int .i64 (gx xs j).2)).setCell ⟨H, j * 2, none⟩ (.int .i64 ((gx xs i).1 : Int))).setCell ⟨H, j * 2 + 1, none⟩ (.int .i64 (gx xs i).2)).drew) := (((((But.refl _ w)).set (by simp) _).set (by simp) _).set (by simp) _).set (by simp) _ |>.drew
  have HP := hp.swap hi hj
  have P0 := hp.at' i _ ha
  have P1 := hp.at' j _ hb
  have hai := hp.lt ha
  have hbj := hp.lt hb
  have g1 : (swL xs i j)[i]? = some (gx xs j) := by
    rw [swL_get hi hj, if_pos rfl]
    by_cases e : i = j
    · subst e; rw [if_pos rfl]
    · rw [if_neg e]
  have g2 : (swL xs i j)[j]? = some (gx xs i) := by rw [swL_get hi hj, if_pos rfl]
  change HM _ B G k N (.slice (some ⟨H, 0, none⟩) xs.length c) (swL xs i j) pl at h2
  have hpl := hp.len
  clear h1 hb1
  generalize swL xs i j = ys at *
  generalize gx xs i = a at *
  generalize gx xs j = b at *
  obtain ⟨ai, ak⟩ := a
  obtain ⟨bi, bk⟩ := b
  dsimp only at *
  have hai' : (ai : Int) < (N : Int) := by omega
  have hbj' : (bi : Int) < (N : Int) := by omega
  have hai0 : (0 : Int) ≤ (ai : Int) := by omega
  have hbj0 : (0 : Int) ≤ (bi : Int) := by omega
  have HX : ∀ W, HM W B G k N (.slice (some ⟨H, 0, none⟩) xs.length c) ys (pl.set bi i) → ∃ x, W.cell? ⟨G, ai, none⟩ = some (.int .i64 x) := fun W hW => by
    have e : (pl.set bi (i : Int))[ai]? = some ((pl.set bi (i : Int))[ai]'(by simp; omega)) := List.getElem?_eq_getElem _
    exact ⟨_, hW.x e⟩
  clear ha hb P0 HP hp
  go_enter Try.func47, Try.ntmps47
  go_wp2_with fail
  go_region
  clear e0 e1 e2 a0 a1 b0 b1 c0 f0 f1 f2 f3
  generalize ((((w.setCell ⟨H, i * 2, none⟩ (.int .i64 (bi : Int))).setCell ⟨H, i * 2 + 1, none⟩ (.int .i64 bk)).setCell ⟨H, j * 2, none⟩ (.int .i64 (ai : Int))).setCell ⟨H, j * 2 + 1, none⟩ (.int .i64 ak)).drew = W1 at *
  have c0 := h2.c0
  have c1 := h2.c1
  have t0 := h2.t0 g1
  have x0 := h2.x P1
  have fx := h2.g.fz bi
  clear h
  go_wp2_with fail
  go_region
  have h3 := (h2.setG bi i).drew
  have hB3 : But [G, H] w (W1.setCell ⟨G, bi, none⟩ (.int .i64 (i : Int))).drew := (hB.set (by simp) _).drew
  clear c0 c1 t0 x0 fx P1 hB h2
  generalize (W1.setCell ⟨G, bi, none⟩ (.int .i64 (i : Int))).drew = W2 at *
  have c0 := h3.c0
  have c1 := h3.c1
  have t0 := h3.t0 g2
  obtain ⟨x, x0⟩ := HX _ h3
  have fx := h3.g.fz ai
  go_wp2_with fail
  go_region
  have h4 := (h3.setG ai j).drew
  have hB4 : But [G, H] w (W2.setCell ⟨G, ai, none⟩ (.int .i64 (j : Int))).drew := (hB3.set (by simp) _).drew
  go_wp2_with fail
  go_end0
  exact ⟨rfl, h4, hB4⟩
end

end Go.Proofs.Ytmogedfjhbfglaa
