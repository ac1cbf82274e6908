/- The reference's Count, Find, Take, Drop. -/
import Derived.Test.YtcffmdimfmpheaaDoorMlFst
import Derived.Test.YtcffmdimfmpheaaDoorRBat
namespace Go.Proofs.YtcffmdimfmpheaaDoor
open Go Go.RowKit

section
variable {w : World} {M N : Nat} {R : List Nat} {xs : List Ev}
set_option maxHeartbeats 2000000 in
set_option maxRecDepth 100000 in
theorem rcount_any (h : RQ w M R N xs) (hl : xs.length ≤ 4096) (t : Int) :
    Calls Tryd.prog 16 #[.pointer (some ⟨M, 0, none⟩), .int .i64 t] w fun e w' => e = .returned (.int .i64 (kndN xs t : Nat)) ∧ Below w.heap.size w w' := by
  obtain ⟨v, rfl, hm⟩ := h
  obtain ⟨sl, c, rfl, he, -, -⟩ := hm.shape
  have c1 := hm.c1
  obtain ⟨n, hN⟩ : ∃ n, Hid (xs.length = n) := ⟨_, rfl⟩
  have hn' : n ≤ 4096 := by rw [← hN.out]; exact hl
  rw [hN.out] at c1
  clear hl hm
  go_enter Tryd.func16, Tryd.ntmps16
  go_wp2_with fail
  go_loopw [13, 5, 7] (fun v s _ wr => ∃ j k : Nat, j ≤ n ∧ v = .int .i64 j ∧ s = .int .i64 k ∧ k = kndN (xs.take j) t ∧ Below w.heap.size w wr) (fun v _ _ _ => 4096 - (intOf v).toNat)
  case atStart => exact ⟨0, 0, Nat.zero_le _, rfl, rfl, rfl, Below.refl _ _⟩
  case round =>
    obtain ⟨j, k, hj, rfl, rfl, hk, hb⟩ := hrel
    have HK := Hid.mk hk
    have hkl : k ≤ 4096 := by
      have := kndN_le (xs.take j) t
      rw [List.length_take] at this
      have := hN.out
      omega
    clear hk
    by_cases hlt : j < n
    · have hjx : j < xs.length := by rw [hN.out]; exact hlt
      obtain ⟨b, o, rfl, hc⟩ := he.below hb j hjx
      obtain ⟨c0, c1, c2, c3, c4, c5, c6, c7, c8, c9, c10, c11, c12, c13, c14⟩ := hc.cells
      have hlt' : (j : Int) < (n : Int) := by omega
      have ba : Below wr.heap.size wr (wr.alloc (.cells (evA (ev xs j)) 33)) := (Below.refl _ _).alloc (Nat.le_refl _) _
      have hn5 := (at15_new wr (ev xs j)).cells
      have hkn := kndN_next hjx t
      rw [← HK.out] at hkn
      have B1 : Below w.heap.size w (wr.alloc (.cells (evA (ev xs j)) 33)) := below2 hb hb.size ba
      clear hc ba
      have hkl' : (k : Int) ≤ 4096 := by omega
      by_cases hp : (ev xs j).kd = t
      · have hp' : ((ev xs j).kd == t) = true := by simpa using hp
        rw [if_pos hp] at hkn
        have HN := Hid.mk hkn
        clear hp hkn
        unfold evA at *
        generalize ev xs j = x at *
        obtain ⟨n0, n1, n2, n3, n4, n5, n6, n7, n8, n9, n10, n11, n12, n13, n14⟩ := hn5
        go_wp2_with fail
        go_roundw
        case rel => exact ⟨j + 1, k + 1, by omega, by simp, by simp, HN.out.symm, B1⟩
        case measure =>
          simp [intOf]
          omega
      · have hp' : ((ev xs j).kd == t) = false := by simpa using hp
        rw [if_neg hp] at hkn
        have HN := Hid.mk hkn
        clear hp hkn
        unfold evA at *
        generalize ev xs j = x at *
        obtain ⟨n0, n1, n2, n3, n4, n5, n6, n7, n8, n9, n10, n11, n12, n13, n14⟩ := hn5
        go_wp2_with fail
        go_roundw
        case rel => exact ⟨j + 1, k, by omega, by simp, rfl, HN.out.symm, B1⟩
        case measure =>
          simp [intOf]
          omega
    · obtain rfl : j = n := by omega
      have HE : Hid (k = kndN xs t) := by
        have := HK.out
        rw [List.take_of_length_le (by rw [hN.out]; exact Nat.le_refl _)] at this
        exact this
      go_wp2_with fail
      go_ret
      exact ⟨by rw [HE.out]; rfl, hb⟩

set_option maxHeartbeats 2000000 in
set_option maxRecDepth 100000 in
theorem rfind_any (h : RQ w M R N xs) (hl : xs.length ≤ 4096) (t : Int) :
    Calls Tryd.prog 18 #[.pointer (some ⟨M, 0, none⟩), .int .i64 t] w fun e w' => e = .returned (.tuple #[.agg (evA (fndV xs t)), .bool (fndB xs t)]) ∧ Below w.heap.size w w' := by
  obtain ⟨v, rfl, hm⟩ := h
  obtain ⟨sl, c, rfl, he, -, -⟩ := hm.shape
  have ba : Below w.heap.size w (w.alloc (.cells (evA z15) 33)) := (Below.refl _ _).alloc (Nat.le_refl _) _
  have c1 := (hm.below ba).c1
  have hat := at15_new w z15
  have hfz := fz_new w (evA z15) 33
  have hsz : w.heap.size < (w.alloc (.cells (evA z15) 33)).heap.size := by simp
  obtain ⟨n, hN⟩ : ∃ n, Hid (xs.length = n) := ⟨_, rfl⟩
  have hn' : n ≤ 4096 := by rw [← hN.out]; exact hl
  rw [hN.out] at c1
  have HA : ∀ W, Below (w.alloc (.cells (evA z15) 33)).heap.size (w.alloc (.cells (evA z15) 33)) W → EV W sl xs ∧ W.there w.heap.size 0 15 ∧ Below w.heap.size w W := fun W b => ⟨(he.below ba).below b, at15_there (hat.below b) (fz_below b hsz hfz), below2 ba ba.size b⟩
  clear hl hm hat hfz ba
  rw [z15_A] at *
  generalize hW : (w.alloc (.cells #[.int .i64 0, .int .i64 0, .int .i64 0, .int .i64 0, .int .i64 0, .int .i64 0, .int .i64 0, .int .i64 0, .int .i64 0, .int .i64 0, .int .i64 0, .int .i64 0, .int .i64 0, .int .i64 0, .int .i64 0] 33)) = W0 at c1 HA hsz
  have HW := Hid.mk hW
  rw [← hW] at c1
  clear hW
  go_enter Tryd.func18, Tryd.ntmps18
  go_wp2_with fail
  rw [HW.out]
  clear HW
  go_loopw [13, 7] (fun v _ wr => ∃ j : Nat, j ≤ n ∧ v = .int .i64 j ∧ (∀ i, i < j → (ev xs i).th ≠ t) ∧ Below W0.heap.size W0 wr) (fun v _ _ => 4096 - (intOf v).toNat)
  case atStart => exact ⟨0, Nat.zero_le _, rfl, fun i hi => by omega, Below.refl _ _⟩
  case round =>
    obtain ⟨j, hj, rfl, hall, hb⟩ := hrel
    have HALL := Hid.mk hall
    clear hall
    by_cases hlt : j < n
    · have hjx : j < xs.length := by rw [hN.out]; exact hlt
      obtain ⟨b, o, rfl, hc⟩ := (HA _ hb).1 j hjx
      obtain ⟨c0, c1, c2, c3, c4, c5, c6, c7, c8, c9, c10, c11, c12, c13, c14⟩ := hc.cells
      have hlt' : (j : Int) < (n : Int) := by omega
      have B1 : Below W0.heap.size W0 (wr.alloc (.cells (evA (ev xs j)) 33)) := hb.alloc hb.size _
      have hn5 := at15_new wr (ev xs j)
      obtain ⟨n0, n1, n2, n3, n4, n5, n6, n7, n8, n9, n10, n11, n12, n13, n14⟩ := hn5.cells
      obtain ⟨-, th1, bw⟩ := HA _ B1
      clear hc
      by_cases hp : (ev xs j).th = t
      · have hp' : ((ev xs j).th == t) = true := by simpa using hp
        have HF : Hid (fndV xs t = ev xs j ∧ fndB xs t = true) := fnd_some hjx hp HALL.out
        have hb2 : Below w.heap.size w ((wr.alloc (.cells (evA (ev xs j)) 33)).setCells w.heap.size 0 (c15 (ev xs j))) := bw.trans ((But.setCells (c15 (ev xs j)) 0 _).below bw.size (by simp))
        have hfin := World.rangeAt_setCells_same (wr.alloc (.cells (evA (ev xs j)) 33)) w.heap.size 0 (c15 (ev xs j)) th1
        clear hp
        unfold evA at *
        generalize ev xs j = x at *
        go_upto_region 5 with fail
        refine wp_region_lit ?_
        refine wpList_load_mid rfl 33 (.tmp 7) rfl wr.heap.size 0 rfl (c15 x) _ hn5 Tryd.underlying33 rfl size15 ?_
        refine wpList_store_mid rfl 33 (.tmp 4) (.tmp 21) rfl w.heap.size 0 (c15 x).toArray rfl rfl th1 size15 (c15_one _) ?_
        rw [show (c15 x).toArray.toList = c15 x from rfl]
        generalize World.setCells _ w.heap.size 0 (c15 x) = wf at *
        go_wp2_with fail
        exact bodyPost_ret (results_ev2 rfl _ _ w.heap.size x true rfl rfl hfin) rfl ⟨by rw [HF.out.1, HF.out.2], hb2⟩
      · have hp' : ((ev xs j).th == t) = false := by simpa using hp
        have HE : Hid (∀ i, i < j + 1 → (ev xs i).th ≠ t) := fun i hi => by
          by_cases h : i = j
          · rw [h]; exact hp
          · exact HALL.out i (by omega)
        clear hp
        unfold evA at *
        generalize ev xs j = x at *
        go_wp2_with fail
        go_roundw
        case rel => exact ⟨j + 1, by omega, by simp, HE.out, B1⟩
        case measure =>
          simp [intOf]
          omega
    · obtain rfl : j = n := by omega
      have HF : Hid (fndV xs t = z15 ∧ fndB xs t = false) := fnd_none (fun i hi => HALL.out i (by rw [← hN.out]; exact hi))
      obtain ⟨-, th1, bw⟩ := HA _ hb
      have hb2 : Below w.heap.size w (wr.setCells w.heap.size 0 (c15 z15)) := bw.trans ((But.setCells (c15 z15) 0 _).below bw.size (by simp))
      have hfin := World.rangeAt_setCells_same wr w.heap.size 0 (c15 z15) th1
      go_upto_region 7 with fail
      refine wp_region_lit ?_
      iterate 3 go_step
      refine wpList_store_mid rfl 33 (.tmp 4) (.tmp 23) rfl w.heap.size 0 (c15 z15).toArray rfl rfl th1 size15 (c15_one _) ?_
      rw [show (c15 z15).toArray.toList = c15 z15 from rfl]
      generalize wr.setCells w.heap.size 0 (c15 z15) = wf at *
      go_wp2_with fail
      exact bodyPost_ret (results_ev2 rfl _ _ w.heap.size z15 false rfl rfl hfin) rfl ⟨by rw [HF.out.1, HF.out.2], hb2⟩

set_option maxHeartbeats 2000000 in
theorem rtake_any (h : RQ w M R N xs) (hl : xs.length ≤ 4096) (m : Int) :
    Calls Tryd.prog 26 #[.pointer (some ⟨M, 0, none⟩), .int .i64 m] w fun e w' => ∃ a c R', e = .returned (.slice a (tkT m xs).length c) ∧ EV w' a (tkT m xs) ∧ RQ w' M R' N (tkX m xs) ∧ Step R w R' w' := by
  obtain ⟨v, rfl, hm⟩ := h
  obtain ⟨sl, c, rfl, he, hc, hg⟩ := hm.shape
  have c1 := hm.c1
  have HB := rbatch_any c m he (by omega) hc
  go_enter Tryd.func26, Tryd.ntmps26
  go_upto_region 2 with (go_at_call 40; (with_reducible refine HB.mono ?_); rintro e w1 ⟨k, a2, ⟨d1, d2, rfl⟩, hk, hk0, he2, b1⟩)
  have ek := tk_of hk hk0
  have hkl := hk.len
  have HT : Hid (tkT m xs = xs.take k ∧ tkX m xs = xs.drop k) := by unfold tkT tkX; rw [← ek]; exact ⟨rfl, rfl⟩
  clear ek hk hk0 HB
  have k1 := hm.below b1
  have ba : Below w1.heap.size w1 (w1.alloc (.cells #[] 33)) := (Below.refl _ w1).alloc (Nat.le_refl _) _
  have OW := owE_none w1
  have e2a := he2.below ba
  have hn0 : (xs.drop k).length = xs.length - k := List.length_drop
  go_wp2_with (at_builtin; refine wpList_appE rfl _ _ rfl w1.heap.size _ [] rfl OW _ _ _ (xs.drop k) rfl hn0 e2a (by simp; omega) (by simp) ?_; intro v3 w3 ho3 hg3 hs3; rw [List.nil_append] at ho3; obtain ⟨k5, s5, f0, f1⟩ := k1.fresh (below_grown ba hg3 OW (by simp)) ho3; obtain ⟨a5, c5, rfl⟩ := ho3.at_ hn0)
  go_ret
  have bt := below_grown ba hg3 OW (by simp)
  rw [HT.out.1, HT.out.2]
  have hlk : (xs.take k).length = k := by rw [List.length_take]; omega
  rw [hlk]
  refine ⟨sl, d1, _, rfl, ?_, ⟨_, rfl, k5⟩, (Step.keep (.of_below b1)).trans s5⟩
  refine ((he.take k).below (below2 b1 b1.size bt)).put (fun b' o' e' => Below.heap_setCell w3 ⟨M, 1, none⟩ _ b' ?_)
  intro e3
  rcases hg with ⟨e4, _⟩ | ⟨g, e4, hgM⟩
  · rw [e4] at e'; cases e'
  · rw [e4] at e'; cases e'; exact hgM e3

set_option maxHeartbeats 2000000 in
set_option maxRecDepth 100000 in
theorem rdrop_any (h : RQ w M R N xs) (hl : xs.length ≤ 4096) (t : Int) :
    Calls Tryd.prog 28 #[.pointer (some ⟨M, 0, none⟩), .int .i64 t] w fun e w' => e = .returned (.int .i64 (drpN xs t)) ∧ ∃ R', RQ w' M R' N (drpX xs t) ∧ Step R w R' w' := by
  obtain ⟨v, rfl, hm⟩ := h
  obtain ⟨sl, c, rfl, he, -, -⟩ := hm.shape
  have c1 := hm.c1
  obtain ⟨n, hN⟩ : ∃ n, Hid (xs.length = n) := ⟨_, rfl⟩
  have hn' : n ≤ 4096 := by rw [← hN.out]; exact hl
  rw [hN.out] at c1
  clear hl
  go_enter Tryd.func28, Tryd.ntmps28
  go_wp2_with fail
  go_loopw [14, 5, 7] (fun v s _ wr => ∃ j : Nat, j ≤ n ∧ v = .int .i64 j ∧ OwE wr w.heap.size s (drpX (xs.take j) t) ∧ Below w.heap.size w wr) (fun v _ _ _ => 4096 - (intOf v).toNat)
  case atStart => exact ⟨0, Nat.zero_le _, rfl, by simpa [drpX] using OwE.nil w w.heap.size, Below.refl _ _⟩
  case round =>
    obtain ⟨j, hj, rfl, ho, hb⟩ := hrel
    by_cases hlt : j < n
    · have hjx : j < xs.length := by rw [hN.out]; exact hlt
      obtain ⟨b, o, rfl, hc⟩ := he.below hb j hjx
      obtain ⟨c0, c1, c2, c3, c4, c5, c6, c7, c8, c9, c10, c11, c12, c13, c14⟩ := hc.cells
      have hlt' : (j : Int) < (n : Int) := by omega
      have B1 : Below w.heap.size w (wr.alloc (.cells (evA (ev xs j)) 33)) := hb.alloc hb.size _
      obtain ⟨n0, n1, n2, n3, n4, n5, n6, n7, n8, n9, n10, n11, n12, n13, n14⟩ := (at15_new wr (ev xs j)).cells
      have hlen : (drpX (xs.take j) t).length ≤ 4096 := by
        have := drp_len (xs.take j) t
        rw [List.length_take] at this
        omega
      clear hc
      by_cases hp : (ev xs j).th = t
      · have hp' : ((ev xs j).th == t) = true := by simpa using hp
        have HD : Hid (drpX (xs.take (j + 1)) t = drpX (xs.take j) t) := by rw [ev_next hjx, drpX_app, drpX_out hp, List.append_nil]; rfl
        have ho1 := ho.below (w' := wr.alloc (.cells (evA (ev xs j)) 33)) ((Below.refl _ _).alloc (Nat.le_refl _) _)
        clear hp ho
        unfold evA at *
        generalize ev xs j = x at *
        go_wp2_with fail
        go_roundw
        case rel => exact ⟨j + 1, by omega, by simp, by rw [HD.out]; exact ho1, B1⟩
        case measure =>
          simp [intOf]
          omega
      · have hp' : ((ev xs j).th == t) = false := by simpa using hp
        have HD : Hid (drpX (xs.take (j + 1)) t = drpX (xs.take j) t ++ [ev xs j]) := by rw [ev_next hjx, drpX_app, drpX_in hp]; rfl
        have bb : Below wr.heap.size wr ((wr.alloc (.cells (evA (ev xs j)) 33)).alloc (.cells (evA (ev xs j)) 33)) := ((Below.refl _ _).alloc (Nat.le_refl _) _).alloc (by simp) _
        have B2 := below2 hb hb.size bb
        have ho1 := ho.below bb
        have he1 := ev_one (wr.alloc (.cells (evA (ev xs j)) 33)) (ev xs j)
        rw [World.size_alloc] at he1
        clear hp ho
        unfold evA at *
        generalize ev xs j = x at *
        go_wp2_with (at_builtin; refine wpList_appE rfl _ _ rfl w.heap.size _ (drpX (xs.take j) t) rfl ho1 _ _ _ [x] rfl rfl he1 (by omega) B2.size ?_; intro v3 w3 ho3 hg3 hs3)
        have b3 := below_grown B2 hg3 ho1 B2.size
        go_roundw
        case rel => exact ⟨j + 1, by omega, by simp, by rw [HD.out]; exact ho3, b3⟩
        case measure =>
          simp [intOf]
          omega
    · obtain rfl : j = n := by omega
      rw [List.take_of_length_le (by rw [hN.out]; exact Nat.le_refl _)] at ho
      have hle := drp_len xs t
      obtain ⟨ys, HY⟩ : ∃ ys, Hid (drpX xs t = ys) := ⟨_, rfl⟩
      have HD : Hid (drpN xs t = (j : Int) - (ys.length : Int)) := by unfold drpN; rw [hN.out, HY.out]; rfl
      rw [HY.out] at ho hle
      have k1 := hm.below hb
      have d1 := k1.c1
      rw [hN.out] at d1
      obtain ⟨k5, s5, f0, f1⟩ := hm.fresh hb ho
      obtain ⟨a5, c5, rfl⟩ := ho.at_ rfl
      have hjl : (ys.length : Int) ≤ (j : Int) := by rw [← hN.out]; omega
      rw [hN.out] at f0
      have hw1 : IntKind.i64.wrap ((j : Int) - (ys.length : Int)) = (j : Int) - (ys.length : Int) := by rw [IntKind.wrap_i64]; omega
      go_wp2_with fail
      go_ret
      rw [HY.out]
      exact ⟨by rw [HD.out]; rfl, _, ⟨_, rfl, k5⟩, s5⟩
end
end Go.Proofs.YtcffmdimfmpheaaDoor
