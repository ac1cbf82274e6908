/- Put. -/
import Derived.Test.YtcffmdimfmpheaaDoorMlAsk
namespace Go.Proofs.YtcffmdimfmpheaaDoor
open Go Go.RowKit

section
variable {w : World} {B N : Nat} {T : List Nat} {xs : List Ev}
set_option maxHeartbeats 4000000 in
set_option maxRecDepth 100000 in
theorem put_any (h : BQ w B T N xs) (hT : Tab w) (e : Ev) :
    Calls Tryd.prog 19 #[.pointer (some ⟨B, 0, none⟩), .agg (evA e)] w fun r w' => r = .returned (.int .i64 (askE N xs [e])) ∧ ∃ T', BQ w' B T' N (putX N xs e) ∧ Step T w T' w' := by
  have hL := put_len h.len.1 e
  have hln := h.len
  obtain ⟨v, rfl, hm, hl⟩ := h
  have b1 : Below w.heap.size w (w.alloc (.cells (evA e) 33)) := (Below.refl _ w).alloc (Nat.le_refl _) _
  have b2 : Below w.heap.size w ((w.alloc (.cells (evA e) 33)).alloc (.cells (evA e) 33)) := b1.alloc b1.size _
  have hm2 := hm.below b2
  have AK := ask_any hm2 hl (hT.on b2) 1 (ev_one (w.alloc (.cells (evA e) 33)) e) (by unfold maxLen; simp)
  have hat : ∀ W, Below ((w.alloc (.cells (evA e) 33)).alloc (.cells (evA e) 33)).heap.size ((w.alloc (.cells (evA e) 33)).alloc (.cells (evA e) 33)) W → At15 W w.heap.size 0 e := fun W b => ((at15_new w e).below ((Below.refl _ _).alloc (Nat.le_refl _) _)).below b
  have hlB := hm.lt (x := B) bks_B
  have hout : w.heap.size ∉ bks B v := fun hx => by have := hm.lt hx; omega
  obtain ⟨sl, c, rfl, -, -, -⟩ := hm.shape
  simp only [World.size_alloc, List.length_cons, List.length_nil, Nat.zero_add] at AK
  have HK : ∀ W, Below ((w.alloc (.cells (evA e) 33)).alloc (.cells (evA e) 33)).heap.size ((w.alloc (.cells (evA e) 33)).alloc (.cells (evA e) 33)) W → BM W B N (.slice sl xs.length c) xs ∧ Below w.heap.size w W := fun W b => ⟨hm2.below b, below2 b2 b2.size b⟩
  simp only [World.size_alloc] at HK hat
  by_cases h0 : askE N xs [e] = 0
  · have HX : Hid (putX N xs e = xs ++ [e]) := by unfold putX; rw [if_pos h0]; rfl
    rw [h0] at AK ⊢
    clear h0 hm2
    unfold evA at *
    go_enter Tryd.func19, Tryd.ntmps19
    go_upto_region 3 with (go_at_call 35; (with_reducible refine AK.mono ?_); rintro r w1 ⟨rfl, bb⟩)
    have k1 := (HK _ bb).1
    have b3 := (HK _ bb).2
    have a1 := hat _ bb
    clear HK hat AK bb
    generalize w1 = W at *
    have a1d : At15 W.drew w.heap.size 0 e := a1
    obtain ⟨c0, c1, c2, c3, c4, c5, c6, c7, c8, c9, c10, c11, c12, c13, c14⟩ := a1d.cells
    have hr1 := ev_one W.drew e
    unfold evA at hr1
    have k4 := k1.drew.keep ((But.refl [] W.drew).alloc (.cells (evA e) 33))
    have d0 := k1.drew.c0
    have d0a := (k1.keep ((But.refl [] W).alloc (.cells (evA e) 33))).c0
    have s4 : Step (bks B (.slice sl xs.length c)) w (bks B (.slice sl xs.length c)) (W.drew.alloc (.cells (evA e) 33)) := Step.keep ((But.of_below b3).drew.alloc _)
    unfold evA at k4 d0a s4
    clear a1 a1d
    go_region_law (refine step_appL rfl _ _ rfl 0 (.slice sl xs.length c) xs rfl k4.h _ _ _ [e] rfl rfl hr1 (by simp; omega) (Nat.zero_le _) ?_; intro v5 w5 ho5 hg5 hv5; obtain ⟨k5, s5, f0, f1⟩ := k4.row (But.own hg5) ho5 (hv5.imp id (fun e x hx => by rw [e] at hx; cases hx; exact Nat.le_refl _)); obtain ⟨a5, c5, rfl⟩ := ho5.at_ (n := xs.length + 1) (by simp))
    all_goals
      go_wp2_with fail
      go_ret
      rw [HX.out] at hL ⊢
      exact ⟨rfl, _, ⟨_, rfl, k5, hL⟩, s4.trans s5⟩
  · have HX : Hid (putX N xs e = xs) := by unfold putX; rw [if_neg h0]; rfl
    have hne : (askE N xs [e] == 0) = false := by simpa using h0
    generalize askE N xs [e] = q at *
    clear h0 hm2
    unfold evA at *
    go_enter Tryd.func19, Tryd.ntmps19
    go_wp2_with (go_at_call 35; (with_reducible refine AK.mono ?_); rintro r w1 ⟨rfl, bb⟩)
    go_ret
    rw [HX.out]
    exact ⟨rfl, _, ⟨_, rfl, (HK _ bb).1, hl⟩, Step.keep (.of_below (HK _ bb).2)⟩
theorem put_no {p : Option Addr} (h : UM w p) (e : Ev) :
    Calls Tryd.prog 19 #[.pointer p, .agg (evA e)] w fun r w' => r = .returned (.int .i64 1) ∧ Below w.heap.size w w' := by
  have b1 : Below w.heap.size w (w.alloc (.cells (evA e) 33)) := (Below.refl _ w).alloc (Nat.le_refl _) _
  have b2 : Below w.heap.size w ((w.alloc (.cells (evA e) 33)).alloc (.cells (evA e) 33)) := b1.alloc b1.size _
  have MA := ask_no (h.below b2)
  unfold evA at *
  go_enter Tryd.func19, Tryd.ntmps19
  go_wp2_with (go_at_call 35; (with_reducible refine (MA _).mono ?_); rintro e w' ⟨rfl, hw⟩; subst w')
  go_ret
  exact ⟨rfl, b2⟩
end
end Go.Proofs.YtcffmdimfmpheaaDoor
