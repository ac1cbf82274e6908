/- slices.DeleteFunc with the closure that chooses by threads; remove, Drop. -/
import Derived.Test.YtcffmdimfmpheaaDoorMlDel
namespace Go.Proofs.YtcffmdimfmpheaaDoor
open Go Go.RowKit

/-- On the way: i that stay, of the first j. -/
structure KI (xs : List Ev) (t : Int) (i j : Nat) (ys : List Ev) : Prop where
  len : ys.length = xs.length
  lt : i < j
  le : j ≤ xs.length
  low : ys.take i = drpX (xs.take j) t
  high : ys.drop j = xs.drop j
theorem KI.nth {xs ys : List Ev} {t : Int} {i j : Nat} (h : KI xs t i j ys) (hj : j < xs.length) : ev ys j = ev xs j := by
  have e := congrArg (fun l => l[0]?) h.high
  simp only [List.getElem?_drop, Nat.add_zero] at e
  rw [ev_get hj, ev_get (by rw [h.len]; exact hj), Option.some.injEq] at e
  exact e
theorem KI.start {xs : List Ev} {t : Int} {k : Nat} (hk : k < xs.length) (he : (ev xs k).th = t) (hall : ∀ j, j < k → (ev xs j).th ≠ t) : KI xs t k (k + 1) xs := by
  refine ⟨rfl, by omega, by omega, ?_, rfl⟩
  rw [ev_next hk, drpX_app, drpX_out he, List.append_nil, drpX_all (fun j hj => ?_)]
  rw [List.length_take] at hj
  rw [ev_take (by omega)]
  exact hall j (by omega)
theorem KI.skip {xs ys : List Ev} {t : Int} {i j : Nat} (h : KI xs t i j ys) (hj : j < xs.length) (he : (ev xs j).th = t) : KI xs t i (j + 1) ys := by
  refine ⟨h.len, by have := h.lt; omega, by omega, ?_, ?_⟩
  · rw [ev_next hj, drpX_app, drpX_out he, List.append_nil, h.low]
  · rw [← List.drop_drop, ← List.drop_drop, h.high]
theorem KI.stay {xs ys : List Ev} {t : Int} {i j : Nat} (h : KI xs t i j ys) (hj : j < xs.length) (he : (ev xs j).th ≠ t) : KI xs t (i + 1) (j + 1) (ys.set i (ev xs j)) := by
  have h1 := h.lt
  have h2 := h.len
  refine ⟨by rw [List.length_set]; exact h.len, by omega, by omega, ?_, ?_⟩
  · rw [ev_next hj, drpX_app, drpX_in he, ← h.low, List.take_add_one, List.getElem?_set_self (by omega), List.take_set_of_le (by omega)]
    rfl
  · rw [List.drop_set_of_lt (by omega), ← List.drop_drop, ← List.drop_drop, h.high]

set_option maxHeartbeats 4000000 in
set_option maxRecDepth 100000 in
theorem delf_any {w : World} {X c : Nat} {a : Option Addr} {t : Int} {xs : List Ev} (ho : OwE w 0 (.slice a xs.length c) xs) (hX : w.cell? ⟨X, 0, none⟩ = some (.int .i64 t)) (hXo : (Value.slice a xs.length c).ownBlock ≠ some X) (hn : xs.length ≤ 4096) :
    Calls Tryd.prog 50 #[.slice a xs.length c, .func (.func 43) #[] #[.pointer (some ⟨X, 0, none⟩)]] w fun e w' => ∃ v', e = .returned v' ∧ OwE w' 0 v' (drpX xs t) ∧ v'.ownBlock = (Value.slice a xs.length c).ownBlock ∧ But (Value.slice a xs.length c).ownBlock.toList w w' := by
  have IX := tidx_any (c := c) ho.ev_.2.2 hX hn
  go_enter Tryd.func50, Tryd.ntmps50
  go_upto_region 2 with (first | (go_at_call 42; (with_reducible refine IX.mono ?_); rintro e w1 ⟨z, rfl, hz, b1⟩))
  clear IX
  rcases hz with ⟨rfl, hall⟩ | ⟨k0, rfl, hk0, he0, hall⟩
  · have hA : Hid (drpX xs t = xs) := drpX_all hall
    clear hall
    go_wp2_with fail
    go_ret
    refine ⟨_, rfl, ?_, rfl, .of_below b1⟩
    rw [hA.out]
    exact ho.below b1
  · obtain ⟨g, rfl⟩ : ∃ g, a = some ⟨g, 0, none⟩ := by
      rcases ho.2 with ⟨_, h0⟩ | ⟨g, cap, cur, e2, _⟩
      · omega
      · cases e2; exact ⟨g, rfl⟩
    have K0 := KI.start hk0 he0 hall
    have hgX : g ≠ X := fun e => hXo (by rw [e]; rfl)
    have hne : ((k0 : Int) == -1) = false := by simp
    have h1 := ho.below b1
    have hX1 := cell_on b1 hX
    have B1 : But [g] w w1 := .of_below b1
    have hlc := ho.row.2
    clear hall he0 b1 hXo
    go_wp2_with fail
    go_loopw [5, 6, 7] (fun s5 s6 _ wr => ∃ (i j : Nat) (ys : List Ev), s5 = .int .i64 i ∧ s6 = .int .i64 j ∧ KI xs t i j ys ∧ OwE wr 0 (.slice (some ⟨g, 0, none⟩) xs.length c) ys ∧ wr.cell? ⟨X, 0, none⟩ = some (.int .i64 t) ∧ But [g] w wr) (fun _ s6 _ _ => 4096 - (intOf s6).toNat)
    case atStart => exact ⟨k0, k0 + 1, xs, rfl, by simp, K0, h1, hX1, B1⟩
    case round =>
      clear K0 h1 hX1 B1 hX ho hne
      obtain ⟨i, j, ys, rfl, rfl, hK, ho, hX, hB⟩ := hrel
      have hij := hK.lt
      have hjn := hK.le
      have hlen := hK.len
      by_cases hlt : j < xs.length
      · obtain ⟨b, o, eb, hc⟩ := ho.ev_.2.2 j (by rw [hlen]; exact hlt)
        cases eb
        rw [hK.nth hlt, Nat.zero_add] at hc
        obtain ⟨c0, c1, c2, c3, c4, c5, c6, c7, c8, c9, c10, c11, c12, c13, c14⟩ := hc.cells
        have hlt' : (j : Int) < (xs.length : Int) := by omega
        have hit' : (i : Int) < (xs.length : Int) := by omega
        have hba : Below wr.heap.size wr (wr.alloc (.cells (evA (ev xs j)) 33)) := (Below.refl _ _).alloc (Nat.le_refl _) _
        have CL := tcl_any (cell_on hba hX) (ev xs j)
        have hn5 := at15_new wr (ev xs j)
        have HI : Hid (ys.length = xs.length) := hlen
        have HT : ∀ W, Below (wr.alloc (.cells (evA (ev xs j)) 33)).heap.size (wr.alloc (.cells (evA (ev xs j)) 33)) W → At15 W wr.heap.size 0 (ev xs j) ∧ OwE W 0 (.slice (some ⟨g, 0, none⟩) xs.length c) ys ∧ W.cell? ⟨X, 0, none⟩ = some (.int .i64 t) ∧ But [g] w W := fun W b => ⟨hn5.below b, (ho.below hba).below b, cell_on b (cell_on hba hX), (hB.trans (.of_below hba)).trans (.of_below b)⟩
        have hni := hn5.cells
        clear hn5 hX hlen hc
        by_cases he : (ev xs j).th = t
        · rw [decide_eq_true he] at CL
          have KK : Hid (KI xs t i (j + 1) ys) := hK.skip hlt he
          clear he hK
          unfold evA at *
          generalize ev xs j = x at *
          obtain ⟨n0, n1, n2, n3, n4, n5, n6, n7, n8, n9, n10, n11, n12, n13, n14⟩ := hni
          go_wp2_with (first | (go_at_call 43; (with_reducible refine CL.mono ?_); rintro e w2 ⟨rfl, b2⟩))
          obtain ⟨_, t3, t4, t5⟩ := HT _ b2
          go_roundw
          case rel => exact ⟨i, j + 1, ys, rfl, by simp, KK.out, t3, t4, t5⟩
          case measure =>
            simp [intOf]
            omega
        · rw [decide_eq_false he] at CL
          have KK : Hid (KI xs t (i + 1) (j + 1) (ys.set i (ev xs j))) := hK.stay hlt he
          clear he hK
          unfold evA at *
          generalize ev xs j = x at *
          obtain ⟨n0, n1, n2, n3, n4, n5, n6, n7, n8, n9, n10, n11, n12, n13, n14⟩ := hni
          go_upto_region 9 with (first | (go_at_call 43; (with_reducible refine CL.mono ?_); rintro e w2 ⟨rfl, b2⟩))
          obtain ⟨t2, t3, t4, t5⟩ := HT _ b2
          obtain ⟨t6, t7⟩ := t3.set15 (i := i) (by rw [HI.out]; omega) x
          have hth : w2.there g (i * 15) 15 := fun k hk => by
            obtain ⟨b, o, eb, hq⟩ := t3.ev_.2.2 i (by rw [HI.out]; omega)
            cases eb
            rw [Nat.zero_add] at hq
            exact ⟨by rw [hq k _ (List.getElem?_eq_getElem (by rw [c15_len]; exact hk))]; rfl, t3.fz _⟩
          refine wp_region_lit ?_
          iterate 6 go_step
          refine wpList_load_mid rfl 33 (.tmp 7) rfl wr.heap.size 0 rfl (c15 x) _ t2 Tryd.underlying33 rfl size15 ?_
          iterate 3 go_step
          refine wpList_store_mid rfl 33 (.tmp 33) (.tmp 32) rfl g (i * 15) (c15 x).toArray rfl rfl hth size15 (c15_one _) ?_
          rw [show (c15 x).toArray.toList = c15 x from rfl]
          have t8 := t7.cell' t4 (by simp; omega)
          have t9 := t5.trans t7
          generalize w2.setCells g (i * 15) (c15 x) = wf at *
          clear hth t2 t3 t4 t5 t7 HT CL
          go_wp2_with fail
          go_roundw
          case rel => exact ⟨i + 1, j + 1, _, by simp, by simp, KK.out, t6, t8, t9⟩
          case measure =>
            simp [intOf]
            omega
      · obtain rfl : j = xs.length := by omega
        have hlow := hK.low
        rw [List.take_length] at hlow
        obtain ⟨cur, r1, h3, h4, h5, h6⟩ := ho.row.2
        rw [hlen] at h3 h6
        obtain ⟨W2, hcl, b2, cur2, r2, s2, e2⟩ := run_clr (w := wr) (g := g) (o := i * 15) (n := xs.length - i) (c := c - i) (by omega) r1 (by rw [h5]; omega)
        have hci : (drpX xs t).length = i := by rw [← hlow, List.length_take]; omega
        have hfin : OwE W2 0 (.slice (some ⟨g, 0, none⟩) i c) (drpX xs t) := by
          have := OwE.mk_ (xs := drpX xs t) (c := c) r2 (by omega) h4 (by omega) (by rw [hci, e2, ← hlow, flatE_take, ← h6, List.take_take]; congr 1; omega)
          rw [hci] at this
          exact this
        have hbf := hB.trans b2
        have hic : i ≤ c := by omega
        have hin : (i : Int) ≤ (xs.length : Int) := by omega
        have hnc : (xs.length : Int) ≤ (c : Int) := by omega
        have hci' : ¬ c = i := by omega
        clear hK hlow hci h6 h5 ho hB b2 r2 s2 e2 r1 hlen
        go_wp2_with fail
        go_ret
        exact ⟨_, rfl, hfin, rfl, hbf⟩

section
variable {w : World} {B N : Nat} {T : List Nat} {xs : List Ev}
set_option maxHeartbeats 1000000 in
theorem remove_any {v : Value} (hm : BM w B N v xs) (hl : xs.length ≤ N) {X : Nat} {t : Int} (hX : w.cell? ⟨X, 0, none⟩ = some (.int .i64 t)) (hXo : X ∉ bks B v) :
    Calls Tryd.prog 38 #[.pointer (some ⟨B, 0, none⟩), .func (.func 43) #[] #[.pointer (some ⟨X, 0, none⟩)]] w fun e w' => e = .returned (.int .i64 (drpN xs t)) ∧ ∃ T', BQ w' B T' N (drpX xs t) ∧ Step (bks B v) w T' w' := by
  obtain ⟨sl, c, rfl, -, -, -⟩ := hm.shape
  have n4 : xs.length ≤ 4096 := by have := hm.n2; omega
  have DF := delf_any hm.h hX (fun e => hXo (bks_v e)) n4
  have c0 := hm.c0
  have hle := drp_len xs t
  have hN : Hid (drpN xs t = (xs.length : Int) - ((drpX xs t).length : Int)) := rfl
  generalize drpN xs t = cn at *
  generalize drpX xs t = ys at *
  have hle' : (ys.length : Int) ≤ (xs.length : Int) := by omega
  have hx4 : (xs.length : Int) ≤ 4096 := by omega
  have hw1 : IntKind.i64.wrap ((xs.length : Int) - (ys.length : Int)) = (xs.length : Int) - (ys.length : Int) := by rw [IntKind.wrap_i64]; omega
  go_enter Tryd.func38, Tryd.ntmps38
  go_wp2_with (first
    | (go_at_call 50; (with_reducible refine DF.mono ?_); rintro e w5 ⟨v5, rfl, ho5, hv5, b5⟩; obtain ⟨k5, s5, f0, f1⟩ := hm.row b5 ho5 (.inl hv5); obtain ⟨a5, c5, rfl⟩ := ho5.at_ (n := ys.length) rfl; have g0 := k5.c0))
  go_ret
  exact ⟨by rw [hN.out]; rfl, _, ⟨_, rfl, k5, by omega⟩, s5⟩
set_option maxHeartbeats 1000000 in
theorem drop_any (h : BQ w B T N xs) (t : Int) :
    Calls Tryd.prog 24 #[.pointer (some ⟨B, 0, none⟩), .int .i64 t] w fun e w' => e = .returned (.int .i64 (drpN xs t)) ∧ ∃ T', BQ w' B T' N (drpX xs t) ∧ Step T w T' w' := by
  obtain ⟨v, rfl, hm, hl⟩ := h
  have MA := made_any hm
  have TH := thr_any t w.drew
  have hma : BM (w.alloc (.cells #[.int .i64 t] 3)).drew B N v xs := hm.keep ((But.refl [] w).alloc _).drew
  have hX : (w.alloc (.cells #[.int .i64 t] 3)).drew.cell? ⟨w.heap.size, 0, none⟩ = some (.int .i64 t) := (Cel.new w #[.int .i64 t] 3).cell (j := 0) rfl
  have RE := remove_any hma hl (X := w.heap.size) (t := t) hX (fun hx => by have := hm.lt hx; omega)
  have sa : Step (bks B v) w (bks B v) (w.alloc (.cells #[.int .i64 t] 3)).drew := Step.keep ((But.refl [] w).alloc _).drew
  go_enter Tryd.func24, Tryd.ntmps24
  go_upto_region 3 with (go_at_call 29; (with_reducible refine MA.mono ?_); rintro e w' ⟨rfl, hw⟩; subst w')
  go_region_with (first
    | (go_at_call 34; (with_reducible refine TH.mono ?_); rintro e w2 ⟨rfl, hw2⟩; subst w2)
    | (go_at_call 38; (with_reducible refine RE.mono ?_); rintro e w3 ⟨rfl, T3, q3, s3⟩))
  all_goals
    go_wp2_with fail
    go_ret
    exact ⟨rfl, _, q3, sa.trans s3⟩
end
end Go.Proofs.YtcffmdimfmpheaaDoor
