/- The contract of Finish. -/
import Derived.Test.YtdhgffnlocgfkaaSta
import Derived.Deep.RegionWith
namespace Go.Proofs.Ytdhgffnlocgfkaa
open Go.RowKit

theorem plc_mod {xs : List Rq} (k : Int) (h : xs ≠ []) : (if k < 0 then 0 else k) % (xs.length : Int) = ((plc xs k : Nat) : Int) := by
  have hp : 0 < xs.length := List.length_pos_iff.2 h
  by_cases hk : 0 < k
  · rw [plc_pos hk, if_neg (by omega), Int.tmod_eq_emod_of_nonneg (by omega)]
  · rw [plc_neg hk]
    by_cases h0 : k < 0
    · rw [if_pos h0]
      simp
    · obtain rfl : k = 0 := by omega
      simp
/-- Five cells that are set, one behind the other. -/
theorem But.set5 {S : List Nat} {a b : World} (h : But S a b) {g o : Nat} (hp : g ∈ S) (v0 v1 v2 v3 v4 : Value) : But S a (((((b.setCell ⟨g, o, none⟩ v0).setCell ⟨g, o + 1, none⟩ v1).setCell ⟨g, o + 2, none⟩ v2).setCell ⟨g, o + 3, none⟩ v3).setCell ⟨g, o + 4, none⟩ v4) :=
  ((((h.set (p := ⟨g, o, none⟩) hp v0).set (p := ⟨g, o + 1, none⟩) hp v1).set (p := ⟨g, o + 2, none⟩) hp v2).set (p := ⟨g, o + 3, none⟩) hp v3).set (p := ⟨g, o + 4, none⟩) hp v4
theorem fz_on {w w' : World} {S : List Nat} (hb : But S w w') {g : Nat} (hg : g < w.heap.size) (hS : g ∉ S) (h : ∀ j, w.frozen? ⟨g, j, none⟩ = false) : ∀ j, w'.frozen? ⟨g, j, none⟩ = false := fun j => (World.frozen?_of_block (hb.block g hg hS)).trans (h j)

section
variable {w : World} {B N la dn : Nat} {T : List Nat} {xs : List Rq}

set_option maxHeartbeats 2000000 in
theorem finish_any (h : DQ w B T N la dn xs) (hdn : dn ≤ 100000) (k : Int) :
    Calls Try.prog 17 #[.pointer (some ⟨B, 0, none⟩), .int .i64 k] w fun e w' => e = .returned (.tuple #[a5 (finR xs k), .int .i64 (finV xs k), .int .i64 (finE xs)]) ∧ ∃ T', DQ w' B T' N la (finD dn xs) (finX xs k) ∧ Step T w T' w' := by
  obtain ⟨v, rfl, hm, hl, ho⟩ := h
  have hma := hm.keep ((But.refl [] w).alloc (.cells #[.int .i64 0, .int .i64 0, .int .i64 0, .int .i64 0, .int .i64 0] 29))
  have ha5 := at5_new w 0 0 0 0 0 29
  have sa : Step (bks B v) w (bks B v) (w.alloc (.cells #[.int .i64 0, .int .i64 0, .int .i64 0, .int .i64 0, .int .i64 0] 29)) := Step.keep ((But.refl [] w).alloc _)
  have MA := made_any hma
  have hlB := hm.lt (x := B) bks_B
  obtain ⟨sl, c, rfl, hrv, hlc, hsl⟩ := hm.shape
  have n0 : w.heap.size ∉ bks B (.slice sl xs.length c) := fun e => by have := hm.lt e; omega
  by_cases hx : xs = []
  · subst hx
    have c3 := hma.c3
    go_enter Try.func17, Try.ntmps17
    go_wp2_with (first
      | (go_at_call 29; refine MA.mono ?_; rintro e w1 ⟨rfl, hw⟩; subst w1))
    exact bodyPost_ret (v := .tuple #[a5 z5, .int .i64 0, .int .i64 4]) (by simp [results, Try.results17, go_sem, a5, z5]) rfl ⟨rfl, _, ⟨_, rfl, hma, hl, ho⟩, sa⟩
  · have hlp := List.length_pos_iff.2 hx
    have hO := ho.fin k
    have hL := fin_len hl k
    have hp := plc_lt k hx
    have hget := finR_get k hx
    have hmem := finR_mem k hx
    have hv : finV xs k = resV (finR xs k) := by unfold finV; rw [if_neg hx]
    have he : finE xs = 0 := by unfold finE; rw [if_neg hx]
    have hd : finD dn xs = dn + 1 := by unfold finD; rw [if_neg hx]
    rw [hv, he, hd]
    have c3 := hma.c3
    have hne : ((xs.length : Int) == 0) = false := by simp; exact hx
    have hpm := plc_mod k hx
    obtain ⟨g, rfl, hgB⟩ : ∃ g, sl = some ⟨g, 0, none⟩ ∧ g ≠ B := by
      rcases hsl with ⟨_, h0, _⟩ | h
      · omega
      · exact h
    have hok := ho _ hmem
    have hat : At5 w g (plc xs k * 5) (finR xs k) := by
      obtain ⟨b, o, e, hh⟩ := hrv _ hp
      cases e
      have : rq xs (plc xs k) = finR xs k := rfl
      rw [this, Nat.zero_add] at hh
      exact hh
    have hxs : finX xs k = xs.eraseIdx (plc xs k) := rfl
    rw [hxs] at hO hL ⊢
    have hw1 : IntKind.i64.wrap ((plc xs k : Int) + 1) = (plc xs k : Int) + 1 := by rw [IntKind.wrap_i64]; have := hm.n2; omega
    generalize plc xs k = p at *
    generalize finR xs k = r at *
    obtain ⟨ri, rs, rt, rk, rz⟩ := r
    have hgd := goodB_iff.1 hok.1
    dsimp only at hgd
    obtain ⟨r0, r1, r2, r3, r4⟩ := hat.below (w' := w.alloc (.cells #[.int .i64 0, .int .i64 0, .int .i64 0, .int .i64 0, .int .i64 0] 29)) ((Below.refl _ _).alloc (Nat.le_refl _) _)
    dsimp only at r0 r1 r2 r3 r4
    have hp' : (p : Int) < (xs.length : Int) := by omega
    have hmb := hma.keep ((But.refl [] _).alloc (.cells #[.int .i64 ri, .int .i64 rs, .int .i64 rt, .int .i64 rk, .int .i64 rz] 29))
    have hab := at5_new (w.alloc (.cells #[.int .i64 0, .int .i64 0, .int .i64 0, .int .i64 0, .int .i64 0] 29)) ri rs rt rk rz 29
    have haz := ha5.below (w' := (w.alloc (.cells #[.int .i64 0, .int .i64 0, .int .i64 0, .int .i64 0, .int .i64 0] 29)).alloc (.cells #[.int .i64 ri, .int .i64 rs, .int .i64 rt, .int .i64 rk, .int .i64 rz] 29)) ((Below.refl _ _).alloc (Nat.le_refl _) _)
    have hfz : ∀ j, ((w.alloc (.cells #[.int .i64 0, .int .i64 0, .int .i64 0, .int .i64 0, .int .i64 0] 29)).alloc (.cells #[.int .i64 ri, .int .i64 rs, .int .i64 rt, .int .i64 rk, .int .i64 rz] 29)).frozen? ⟨w.heap.size, j, none⟩ = false := fun j => by simp [go_sem]
    rw [show (w.alloc (.cells #[.int .i64 0, .int .i64 0, .int .i64 0, .int .i64 0, .int .i64 0] 29)).heap.size = w.heap.size + 1 by simp] at hab
    have sb := sa.trans (Step.keep ((But.refl [] _).alloc (.cells #[.int .i64 ri, .int .i64 rs, .int .i64 rt, .int .i64 rk, .int .i64 rz] 29)))
    have c3b := hmb.c3
    have n4 : xs.length ≤ 4096 := Nat.le_trans hl hm.n2
    have DE := delete_any hmb.h hp n4
    have hsz : w.heap.size + 1 < ((w.alloc (.cells #[.int .i64 0, .int .i64 0, .int .i64 0, .int .i64 0, .int .i64 0] 29)).alloc (.cells #[.int .i64 ri, .int .i64 rs, .int .i64 rt, .int .i64 rk, .int .i64 rz] 29)).heap.size := by simp
    have hgl : g < w.heap.size := hm.lt (bks_v rfl)
    have hR := fun W => result_any ri rs rt rk rz ⟨hgd.2.2.2.1, hgd.2.2.2.2⟩ W
    generalize resV (ri, rs, rt, rk, rz) = y at *
    clear hget hmem hv he hd ha5 hat hrv hsl
    go_enter Try.func17, Try.ntmps17
    go_upto_region 9 with (first
      | (go_at_call 29; refine MA.mono ?_; rintro e w1 ⟨rfl, hw⟩; subst w1)
      | (go_at_call 31; (with_reducible refine DE.mono ?_); rintro e w5 ⟨rfl, ho5, b5⟩; obtain ⟨k5, s5, f0, f1⟩ := hmb.row (by simpa [Value.ownBlock] using b5) ho5 (.inl rfl); have c2 := k5.c2; have f2 := k5.fb 2))
    have k6 := k5.setDn (x := (dn : Int) + 1) (dn + 1) (by simp)
    have s6 := (sb.trans s5).trans (Step.same ((But.refl _ _).set (p := ⟨B, 2, none⟩) bks_B (.int .i64 ((dn : Int) + 1))))
    have hbk : ∀ x, w.heap.size ≤ x → x ∉ [g, B] := fun x h e => by simp at e; omega
    have b6 := ((b5.mono (T := [g, B]) (by simp)).set (p := ⟨B, 3, none⟩) (by simp) (.slice (some ⟨g, 0, none⟩) (p + (xs.length - (p + 1))) c)).set (p := ⟨B, 2, none⟩) (by simp) (.int .i64 ((dn : Int) + 1))
    have ab6 := hab.but b6 (hbk _ (by omega))
    have az6 := haz.but b6 (hbk _ (Nat.le_refl _))
    have fz6 := fz_on b6 (by omega) (hbk _ (Nat.le_refl _)) hfz
    have sz6 := Nat.lt_of_lt_of_le hsz b6.size
    clear k5 s5 b5 ho5 DE MA hma hmb hab haz hfz hsz sb sa c2 f2 f0 f1 c3 c3b r0 r1 r2 r3 r4
    generalize ((w5.setCell ⟨B, 3, none⟩ (.slice (some ⟨g, 0, none⟩) (p + (xs.length - (p + 1))) c)).setCell ⟨B, 2, none⟩ (.int .i64 ((dn : Int) + 1))) = W at *
    have hdr : Below W.heap.size W W.drew := (Below.refl _ _).drew
    obtain ⟨q0, q1, q2, q3, q4⟩ := ab6.below hdr
    have kd := k6.drew
    have azd := az6.below hdr
    have fzd : ∀ j, W.drew.frozen? ⟨w.heap.size, j, none⟩ = false := fz6
    have sd := s6.trans (Step.keep (But.refl [] W).drew)
    dsimp only at q0 q1 q2 q3 q4
    clear hgd hok hpm
    generalize (if k < 0 then 0 else k) = km
    have HF : ∀ w7, Below W.drew.heap.size W.drew w7 → At5 w7 (w.heap.size + 1) 0 (ri, rs, rt, rk, rz) ∧ At5 w7 w.heap.size 0 (0, 0, 0, 0, 0) ∧ ∀ j, w7.frozen? ⟨w.heap.size, j, none⟩ = false := fun w7 b7 => ⟨(ab6.below hdr).below b7, azd.below b7, fz_on (S := []) (.of_below b7) (by show w.heap.size < W.heap.size; omega) (by simp) fzd⟩
    go_region_with (go_at_call 32; (with_reducible refine (hR _).mono ?_); rintro e w7 ⟨rfl, b7⟩; obtain ⟨⟨u0, u1, u2, u3, u4⟩, ⟨z0, z1, z2, z3, z4⟩, y0⟩ := HF _ b7; have y00 := y0 0; have y01 := y0 1; have y02 := y0 2; have y03 := y0 3; have y04 := y0 4)
    all_goals
      go_wp2_with fail
      have bb := But.set5 (S := [w.heap.size]) (But.of_below b7) (g := w.heap.size) (o := 0) (by simp) (.int .i64 ri) (.int .i64 rs) (.int .i64 rt) (.int .i64 rk) (.int .i64 rz)
      have kk := kd.but bb (fun x hx hy => n0 (by simp at hy; rw [← hy]; exact hx))
      exact bodyPost_ret (v := .tuple #[a5 (ri, rs, rt, rk, rz), .int .i64 y, .int .i64 0]) (by simp [results, Try.results17, go_sem, a5, z0, z1, z2, z3, z4]) rfl ⟨rfl, _, ⟨_, rfl, kk, hL, hO⟩, ⟨sd.but.trans_new bb (fun x hx => .inr (by simp at hx; omega)), sd.new⟩⟩
end
end Go.Proofs.Ytdhgffnlocgfkaa
