/- Contracts of sift and take. -/
import Derived.Test.YtmogedfjhbfglaaSift
namespace Go.Proofs.Ytmogedfjhbfglaa
open Go.RowKit

section
variable {w : World} {B G k N H c n : Nat} {xs : List Th} {pl : List Int}

theorem sift_any (h : HM w B G k N (.slice (some ⟨H, 0, none⟩) n c) xs pl) (hp : Pls N xs pl) {i : Nat} (hi : i < xs.length) (hx : HpX le (gx xs) xs.length i) :
    Calls Try.prog 37 #[.pointer (some ⟨B, 0, none⟩), .int .i64 i] w fun e w' => e = .returned (.tuple #[]) ∧ (∃ ys pl', HM w' B G k N (.slice (some ⟨H, 0, none⟩) n c) ys pl' ∧ Pls N ys pl' ∧ ys.Perm xs ∧ Hp le (gx ys) ys.length) ∧ But [G, H] w w' := by
  rcases hx.parts le_tr le_tot with hd | hd
  · exact siftd_any true h hp hi hd
  · exact siftd_any false h hp hi hd

/-- The last thing goes. -/
theorem HM.pop {m : Nat} {p : Th} (h : HM w B G k N (.slice (some ⟨H, 0, none⟩) (m + 1) c) (xs ++ [p]) pl) (hm : m = xs.length) : HM (w.setCell ⟨B, 0, none⟩ (.slice (some ⟨H, 0, none⟩) m c)) B G k N (.slice (some ⟨H, 0, none⟩) m c) xs pl := by
  obtain ⟨h1, h2, h3⟩ := h.ne
  subst hm
  have e : (xs ++ [p]).length = xs.length + 1 := by simp
  have hr := h.h
  rw [e, flat_app] at hr
  have hpop := ownsRow_pop (flat_len xs) hr
  refine ⟨?_, ownsRow_put hpop (fun x hx => ?_), h.g.other (Ne.symm h3) _ _, h.bg, (fun e => h1 (by cases e; rfl)), (fun e => h2 (by cases e; rfl)), h.n1, h.n2⟩
  · have := heap_setCell_same w B 0 _ 54 (.slice (some ⟨H, 0, none⟩) xs.length c) h.b
    rw [this]
    simp
  · cases hx
    exact Below.heap_setCell w ⟨B, 0, none⟩ _ H (Ne.symm h1)

theorem HM.cap (h : HM w B G k N (.slice (some ⟨H, 0, none⟩) n c) xs pl) : xs.length ≤ c := by
  rcases h.h.2 with ⟨e, _⟩ | ⟨g, cap, cur, e, _, _, hc, _⟩
  · cases e
  · cases e
    exact hc

set_option maxHeartbeats 2000000 in
theorem take_any (h : HM w B G k N (.slice (some ⟨H, 0, none⟩) n c) xs pl) (hp : Pls N xs pl) (hh : Hp le (gx xs) xs.length) {i : Nat} (hi : i < xs.length) :
    Calls Try.prog 38 #[.pointer (some ⟨B, 0, none⟩), .int .i64 i] w fun e w' => e = .returned (.tuple #[]) ∧ (∃ ys pl', HM w' B G k N (.slice (some ⟨H, 0, none⟩) (n - 1) c) ys pl' ∧ Pls N ys pl' ∧ xs.Perm (gx xs i :: ys) ∧ Hp le (gx ys) ys.length) ∧ But [B, G, H] w w' := by
  have hr := h.row
  have hn : xs.length ≤ 4096 := Nat.le_trans hp.short h.n2
  have hcap := h.cap
  obtain ⟨m, hm⟩ : ∃ m, xs.length = m + 1 := ⟨xs.length - 1, by omega⟩
  obtain rfl : n = m + 1 := by omega
  have hml : m < xs.length := by omega
  have HS := swap_any h hp hi hml
  have HP := hp.swap hi hml
  have hpm := swL_perm hi hml
  have hln := swL_len xs i m
  have hg : (swL xs i m)[m]? = some (gx xs i) := by rw [swL_get hi hml, if_pos rfl]
  have hgk : ∀ k, k < m → k ≠ i → (swL xs i m)[k]? = xs[k]? := fun k h1 h2 => by rw [swL_get hi hml, if_neg (by omega), if_neg h2]
  obtain ⟨ys, v, ez, hyl, -⟩ := mid_of hg
  obtain rfl : v = [] := by
    have := congrArg List.length ez
    rw [hln, hm] at this
    simp at this
    exact List.eq_nil_of_length_eq_zero (by omega)
  have hyk : ∀ k, k < m → k ≠ i → gx ys k = gx xs k := fun k h1 h2 => by
    have e := hgk k h1 h2
    rw [ez, List.getElem?_append_left (by omega)] at e
    rw [gx, gx, List.getD_eq_getElem?_getD, List.getD_eq_getElem?_getD, e]
  have HX : i < m → HpX le (gx ys) ys.length i := fun _ => by
    rw [hyl]
    exact hh.any le_tr hi (by omega) hyk
  have HY : ¬ i < m → Hp le (gx ys) ys.length := fun e => by
    rw [hyl]
    exact (hh.cut (m := m) (by omega)).congr (fun k hk => hyk k hk (by omega))
  have hperm : xs.Perm (gx xs i :: ys) := (ez ▸ hpm.symm).trans (List.perm_append_comm)
  rw [ez] at HS HP hg
  have c0 := h.c0
  generalize ((pl.set (gx xs m).1 (i : Int)).set (gx xs i).1 ((m : Nat) : Int)) = pl1 at *
  have hid := HP.lt hg
  obtain ⟨x, hx⟩ : ∃ x, pl1[(gx xs i).1]? = some x := ⟨_, HP.at' m _ hg⟩
  have HPP : Pls N ys (pl1.set (gx xs i).1 (-1)) := Pls.pop (k := (gx xs i).2) HP
  rw [hm] at hi hn hcap
  clear hpm hgk hyk ez HP hp hh hln hr hm hml
  have Hyl : Hid (ys.length = m) := hyl
  generalize gx xs i = a at *
  obtain ⟨id, ky⟩ := a
  dsimp only at *
  have hid' : (id : Int) < (N : Int) := by omega
  have hmc : m ≤ c := by omega
  have hmc' : (m : Int) ≤ (c : Int) := by omega
  have hm' : (m : Int) < (m : Int) + 1 := by omega
  have c60 := cells60
  clear hyl
  go_enter Try.func38, Try.ntmps38
  go_wp2_with (first
    | (go_at_call 47; refine HS.mono ?_; rintro e w1 ⟨rfl, h1, b1⟩))
  have d0 := h1.c0
  have d1 := h1.c1
  have d2 := h1.t0 hg
  have d3 := h1.x hx
  have d4 := h1.g.fz id
  clear c0 HS
  go_region
  have h2 := (h1.setG id (-1)).drew
  have b2 : But [B, G, H] w (w1.setCell ⟨G, id, none⟩ (.int .i64 (-1))).drew := ((b1.mono (by simp)).set (by simp) _).drew
  clear d0 d1 d2 d3 d4 h1 b1
  generalize (w1.setCell ⟨G, id, none⟩ (.int .i64 (-1))).drew = W2 at *
  have d0 := h2.c0
  have d1 := h2.fb 0
  have h3 := h2.pop Hyl.out.symm
  have b3 : But [B, G, H] w (W2.setCell ⟨B, 0, none⟩ (.slice (some ⟨H, 0, none⟩) m c)) := b2.set (by simp) _
  by_cases hlt : i < m
  · have SF := sift_any h3 HPP (by rw [Hyl.out]; exact hlt) (HX hlt)
    have hlt' : (i : Int) < (m : Int) := by omega
    clear h2 h3 b2
    go_wp2_with (first
      | (go_at_call 37; refine SF.mono ?_; rintro e w4 ⟨rfl, ⟨zs, pl4, h4, p4, pm4, hp4⟩, b4⟩))
    go_end0
    exact ⟨rfl, ⟨zs, pl4, h4, p4, hperm.trans (pm4.symm.cons _), hp4⟩, b3.trans (b4.mono (by simp))⟩
  · have hlt' : ¬ (i : Int) < (m : Int) := by omega
    have HY := HY hlt
    go_wp2_with fail
    go_end0
    exact ⟨rfl, ⟨ys, _, h3, HPP, hperm, HY⟩, b3⟩
end

end Go.Proofs.Ytmogedfjhbfglaa
