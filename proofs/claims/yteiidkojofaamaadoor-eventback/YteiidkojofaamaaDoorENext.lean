/- next: the program's. -/
import Derived.Test.YteiidkojofaamaaDoorEHgA
import Derived.Test.YteiidkojofaamaaDoorEHgB
import Derived.Test.YteiidkojofaamaaDoorEHgC
import Derived.Test.YteiidkojofaamaaDoorERegs
namespace Go.Proofs.YteiidkojofaamaaDoor
open Go Go.RowKit

theorem But.setCells {b : Nat} : ∀ (vs : List Value) (o : Nat) (w : World), But [b] w (w.setCells b o vs)
  | [], _, w => But.refl _ w
  | v :: vs, o, w => ((But.refl [b] w).set (p := ⟨b, o, none⟩) (by simp) v).trans (But.setCells vs (o + 1) _)
theorem c15_one (e : Ev) : (c15 e).toArray.all (·.oneCell') = true := all_oneCell_toArray (fun u hu => flatE_one [e] u (by simpa [flatE] using hu))
theorem size15 : (Tryd.prog.info? 26).map (·.size) = some 15 := by kernel_rfl
theorem results_ev {fn : Func} {p : Tmp} (h : fn.results = #[.cell p 26]) (tmps : Array Value) (w : World) (g : Nat) (e : Ev) (hp : tmps.getD p undef = .pointer (some ⟨g, 0, none⟩)) (hc : w.rangeAt g 0 (c15 e)) : (results fn tmps).run Tryd.prog w = .ok (.agg (evA e)) w := by
  have hp' : tmps[p]?.getD undef = .pointer (some ⟨g, 0, none⟩) := by simpa using hp
  have hl := run_loadVar_mid (P := Tryd.prog) w g 0 26 (c15 e) _ hc Tryd.underlying26 rfl size15
  simp [results, h, hp', asAddr, hl]
  rfl
theorem Cel.range {w : World} {b : Nat} {e : Ev} (h : Cel w b (evA e) 26) : w.rangeAt b 0 (c15 e) := fun j v hv => by
  rw [Nat.zero_add]
  exact h.cell (by simpa [evA, c15] using hv)
theorem hand_no {w : World} {E S P : Nat} {e : Ev} {st : St} (h : GS w E S P e st) (he : kindB e.kd = false) (fv : Value) :
    Calls Tryd.prog 34 #[.pointer (some ⟨E, 0, none⟩), fv] w fun r w' => r = .returned (.tuple #[]) ∧ w' = w := by
  have c0 : w.cell? ⟨E, 0, none⟩ = some (.int .i64 e.kd) := h.ev.cell (j := 0) rfl
  have HK := iskind_any e.kd
  rw [he] at HK
  generalize e.kd = kd at *
  clear h
  go_enter Tryd.func34, Tryd.ntmps34
  go_wp2_with (go_at_call 28; (with_reducible refine (HK _).mono ?_); rintro r w' ⟨rfl, hw⟩; subst w')
  refine bodyPost_ret (results_none rfl _ _ _) rfl ⟨rfl, rfl⟩
theorem hand_gany {w : World} {E S P : Nat} {e : Ev} {st : St} (h : GS w E S P e st) {k : Nat} (he : e.kd = (k : Int)) :
    Calls Tryd.prog 34 #[.pointer (some ⟨E, 0, none⟩), .func (.func 66) #[] #[.pointer (some ⟨P, 0, none⟩)]] w fun r w' => r = .returned (.tuple #[]) ∧ GS w' E S P (fillN MX (hq k) e st).1 (fillN MX (hq k) e st).2 ∧ But [S, E] w w' := by
  cases hk : kindB e.kd with
  | true =>
    obtain ⟨n, hn, h1, h7⟩ := kind_nat hk
    obtain rfl : n = k := by omega
    rcases (show n = 1 ∨ n = 2 ∨ n = 3 ∨ n = 4 ∨ n = 5 ∨ n = 6 ∨ n = 7 by omega) with rfl | rfl | rfl | rfl | rfl | rfl | rfl
    · exact hand_get1 h he
    · exact hand_get2 h he
    · exact hand_get3 h he
    · exact hand_get4 h he
    · exact hand_get5 h he
    · exact hand_get6 h he
    · exact hand_get7 h he
  | false =>
    have h1 : hq k = [] := by
      unfold kindB at hk
      rw [he] at hk
      simp at hk
      by_cases h8 : k < 8
      · have h0 : k = 0 := by omega
        subst h0
        rfl
      · unfold hq
        rw [List.getD_eq_getElem?_getD, List.getElem?_eq_none (by simp; omega)]
        rfl
    rw [h1]
    refine (hand_no h hk _).mono ?_
    rintro r w' ⟨rfl, rfl⟩
    exact ⟨rfl, h, But.refl _ _⟩
theorem reg_kd : ∀ (q : List Nat) (e : Ev) (st : St), (∀ k ∈ q, 6 ≤ k ∧ k < 14) → (fillI q e st).1.kd = e.kd
  | [], _, _, _ => rfl
  | k :: q, e, st, h => by
    have hk := h k (by simp)
    unfold fillI
    rw [reg_kd q _ _ (fun x hx => h x (by simp [hx]))]
    rcases (show k = 6 ∨ k = 7 ∨ k = 8 ∨ k = 9 ∨ k = 10 ∨ k = 11 ∨ k = 12 ∨ k = 13 by omega) with rfl | rfl | rfl | rfl | rfl | rfl | rfl | rfl <;> rfl
theorem num_kd (k : Nat) (st : St) : (fillN MX (hq k) (e0 k) st).1.kd = (k : Int) := by
  by_cases h : k < 8
  · rcases (show k = 0 ∨ k = 1 ∨ k = 2 ∨ k = 3 ∨ k = 4 ∨ k = 5 ∨ k = 6 ∨ k = 7 by omega) with rfl | rfl | rfl | rfl | rfl | rfl | rfl | rfl <;> rfl
  · have h1 : hq k = [] := by
      unfold hq
      rw [List.getD_eq_getElem?_getD, List.getElem?_eq_none (by simp; omega)]
      rfl
    rw [h1]
    rfl
abbrev q8 : List Nat := [6, 7, 8, 9, 10, 11, 12, 13]
theorem q8_get {j : Nat} (h : j < 8) : q8[j]? = some (6 + j) := by
  rcases (show j = 0 ∨ j = 1 ∨ j = 2 ∨ j = 3 ∨ j = 4 ∨ j = 5 ∨ j = 6 ∨ j = 7 by omega) with rfl | rfl | rfl | rfl | rfl | rfl | rfl | rfl <;> rfl
set_option maxHeartbeats 4000000 in
set_option maxRecDepth 100000 in
theorem next_any {w : World} {S : Nat} {st : St} (h : SQ w S st) (hT : Tab w) (h0 : 0 < S) : Calls Tryd.prog 46 #[.pointer (some ⟨S, 0, none⟩)] w fun r w' => r = .returned (.agg (evA (nextE MX st).1)) ∧ SQ w' S (nextE MX st).2 ∧ But [S] w w' := by
  have hS := h.lt
  have B1 : But [] w ((w.alloc (.cells #[.pointer (some ⟨S, 0, none⟩)] 70)).alloc (.cells #[.int .i64 0, .int .i64 0, .int .i64 0, .int .i64 0, .int .i64 0, .int .i64 0, .int .i64 0, .int .i64 0, .int .i64 0, .int .i64 0, .int .i64 0, .int .i64 0, .int .i64 0, .int .i64 0, .int .i64 0] 26)) := ((But.refl [] w).alloc _).alloc _
  have P1 : Cel ((w.alloc (.cells #[.pointer (some ⟨S, 0, none⟩)] 70)).alloc (.cells #[.int .i64 0, .int .i64 0, .int .i64 0, .int .i64 0, .int .i64 0, .int .i64 0, .int .i64 0, .int .i64 0, .int .i64 0, .int .i64 0, .int .i64 0, .int .i64 0, .int .i64 0, .int .i64 0, .int .i64 0] 26)) w.heap.size #[.pointer (some ⟨S, 0, none⟩)] 70 := (Cel.new w _ 70).below ((Below.refl _ _).alloc (Nat.le_refl _) _)
  have R1 := Cel.new (w.alloc (.cells #[.pointer (some ⟨S, 0, none⟩)] 70)) #[.int .i64 0, .int .i64 0, .int .i64 0, .int .i64 0, .int .i64 0, .int .i64 0, .int .i64 0, .int .i64 0, .int .i64 0, .int .i64 0, .int .i64 0, .int .i64 0, .int .i64 0, .int .i64 0, .int .i64 0] 26
  rw [show (w.alloc (.cells #[.pointer (some ⟨S, 0, none⟩)] 70)).heap.size = w.heap.size + 1 by simp] at R1
  have T1 := hT.but B1 (by simp)
  have HB := src34 st _ (h.keep B1)
  have hsz : ((w.alloc (.cells #[.pointer (some ⟨S, 0, none⟩)] 70)).alloc (.cells #[.int .i64 0, .int .i64 0, .int .i64 0, .int .i64 0, .int .i64 0, .int .i64 0, .int .i64 0, .int .i64 0, .int .i64 0, .int .i64 0, .int .i64 0, .int .i64 0, .int .i64 0, .int .i64 0, .int .i64 0] 26)).heap.size = w.heap.size + 2 := by simp
  have HSZ := Hid.mk hsz
  have p0 := P1.cell (j := 0) rfl
  have hmf : ∀ (fn : Fn) (first cap : Array Value) (w : World), (Instr.makeFunc fn first cap).run Tryd.prog w = .ok (.func fn first cap) w := fun _ _ _ _ => rfl
  have hwr : wrap64 (((getS byteT 0 st).1.toNat : Nat) : Int) = (((getS byteT 0 st).1.toNat : Nat) : Int) := by
    have := (getS byteT 0 st).1.toNat_lt
    unfold wrap64
    omega
  clear h hsz
  go_enter Tryd.func46, Tryd.ntmps46
  go_upto_region 2 with (go_at_call 65; (with_reducible refine HB.mono ?_); rintro r w2 ⟨hb2, hs2, v2, rfl, hv2⟩; subst hv2)
  obtain ⟨kc, hkc⟩ : ∃ kc : Nat, Hid ((getS byteT 0 st).1.toNat = kc) := ⟨_, rfl⟩
  obtain ⟨st1, hst1⟩ : ∃ st1 : St, Hid ((getS byteT 0 st).2 = st1) := ⟨_, rfl⟩
  have HNE : Hid (nextE MX st = fillI (rq kc) (fillN MX (hq kc) (e0 kc) st1).1 (fillN MX (hq kc) (e0 kc) st1).2) := by
    refine Hid.mk ?_
    unfold nextE
    rw [hkc.out, hst1.out]
  rw [hkc.out]
  rw [hst1.out] at hs2
  have hs := hb2.size
  rw [HSZ.out] at hs
  have G3 : GS (w2.alloc (.cells (evA (e0 kc)) 26)) w2.heap.size S w.heap.size (e0 kc) st1 := by
    have hbb : But [] w2 (w2.alloc (.cells (evA (e0 kc)) 26)) := (But.refl [] w2).alloc _
    exact ⟨Cel.new w2 _ 26, hs2.keep hbb, (P1.but hb2 (by simp; omega)).but hbb (by simp), (T1.but hb2 (by simp; omega)).but hbb (by simp), by omega, by omega, by omega, h0⟩
  have R3 : Cel (w2.alloc (.cells (evA (e0 kc)) 26)) (w.heap.size + 1) #[.int .i64 0, .int .i64 0, .int .i64 0, .int .i64 0, .int .i64 0, .int .i64 0, .int .i64 0, .int .i64 0, .int .i64 0, .int .i64 0, .int .i64 0, .int .i64 0, .int .i64 0, .int .i64 0, .int .i64 0] 26 := (R1.but hb2 (by simp; omega)).but ((But.refl [] w2).alloc _) (by simp)
  have B3 : But [S] w (w2.alloc (.cells (evA (e0 kc)) 26)) := ((B1.wide).trans hb2).alloc _
  have H4 : Calls Tryd.prog 34 #[.pointer (some ⟨w2.heap.size, 0, none⟩), .func (.func 66) #[] #[.pointer (some ⟨w.heap.size, 0, none⟩)]] (w2.alloc (.cells #[.int .i64 (kc : Int), .int .i64 0, .int .i64 0, .int .i64 0, .int .i64 0, .int .i64 0, .int .i64 0, .int .i64 0, .int .i64 0, .int .i64 0, .int .i64 0, .int .i64 0, .int .i64 0, .int .i64 0, .int .i64 0] 26)) fun r w' => r = .returned (.tuple #[]) ∧ GS w' w2.heap.size S w.heap.size (fillN MX (hq kc) (e0 kc) st1).1 (fillN MX (hq kc) (e0 kc) st1).2 ∧ But [S, w2.heap.size] (w2.alloc (.cells (evA (e0 kc)) 26)) w' := hand_gany G3 (k := kc) rfl
  have HE2 : Hid (w.heap.size + 2 ≤ w2.heap.size) := hs
  have HR3 := Hid.mk R3
  have HB3 := Hid.mk B3
  clear HB P1 R1 T1 B1 hb2 hs2 p0 hs G3 hwr R3 B3
  go_upto_region 3 with (go_at_call 34; (with_reducible refine H4.mono ?_); rintro r w4 ⟨rfl, G4, b4⟩)
  have hkd := num_kd kc st1
  generalize hq4 : fillN MX (hq kc) (e0 kc) st1 = q4 at *
  clear hq4 H4
  obtain ⟨e4, s4⟩ := q4
  dsimp only at G4 hkd HNE
  have hE2 := HE2.out
  have R4 : Cel w4 (w.heap.size + 1) #[.int .i64 0, .int .i64 0, .int .i64 0, .int .i64 0, .int .i64 0, .int .i64 0, .int .i64 0, .int .i64 0, .int .i64 0, .int .i64 0, .int .i64 0, .int .i64 0, .int .i64 0, .int .i64 0, .int .i64 0] 26 := HR3.out.but b4 (by simp; omega)
  have B4 : But [S] w w4 := HB3.out.trans_new b4 (fun x hx => by simp at hx; rcases hx with rfl | rfl <;> simp; omega)
  clear b4 HR3 HB3
  generalize hEE : w2.heap.size = E at *
  have RG := regs_any G4.ev G4.tab
  have HR : Hid (∀ W, But [S, E] w4 W → Cel W (w.heap.size + 1) #[.int .i64 0, .int .i64 0, .int .i64 0, .int .i64 0, .int .i64 0, .int .i64 0, .int .i64 0, .int .i64 0, .int .i64 0, .int .i64 0, .int .i64 0, .int .i64 0, .int .i64 0, .int .i64 0, .int .i64 0] 26) := fun W hW => R4.but hW (by simp; omega)
  have HBW : Hid (∀ W, But [S, E] w4 W → But [S] w W) := fun W hW => B4.trans_new hW (fun x hx => by simp at hx; rcases hx with rfl | rfl <;> simp; omega)
  have HE2' : Hid (w.heap.size + 2 ≤ E) := hE2
  have HG4 := Hid.mk G4
  clear R4 B4 hE2 HE2 hEE
  unfold regV at RG
  rw [hkd] at RG
  by_cases h2 : (kc : Int) = 2
  · rw [if_pos h2] at RG
    have HN2 : Hid (nextE MX st = fillI q8 e4 s4) := by
      have hk2 : kc = 2 := by omega
      have := HNE.out
      rw [hk2] at this
      exact this
    clear h2 hkd HNE G4
    go_wp2_with (go_at_call 37; (with_reducible refine RG.mono ?_); rintro r w' ⟨rfl, hw⟩; subst w')
    go_loopw [15, 5] (fun v15 _ wr => ∃ j : Nat, j ≤ 8 ∧ v15 = .int .i64 j ∧ GS wr E S w.heap.size (fillI (q8.take j) e4 s4).1 (fillI (q8.take j) e4 s4).2 ∧ But [S, E] w4 wr) (fun v15 _ _ => 8 - (intOf v15).toNat)
    case atStart => exact ⟨0, by omega, rfl, HG4.out, But.refl _ _⟩
    case round =>
      obtain ⟨j, hj, rfl, g, hbw⟩ := hrel
      by_cases hlt : j < 8
      · have hlt' : (j : Int) < 8 := by omega
        have HST := Hid.mk (fillI_succ (q8_get hlt) e4 s4)
        generalize hq5 : fillI (q8.take j) e4 s4 = q5 at *
        obtain ⟨e5, s5⟩ := q5
        have hpx := g.bx.cell (j := 0) rfl
        have HI := src29 s5 wr g.src (-9223372036854775808) 9223372036854775807
        have G := Hid.mk g
        obtain ⟨n, hnn⟩ : ∃ n : Int, Hid ((getS (intT (-9223372036854775808) 9223372036854775807) 0 s5).1 = n) := ⟨_, rfl⟩
        have HGI : Hid ((gI s5).1 = n ∧ (gI s5).2 = (getS (intT (-9223372036854775808) 9223372036854775807) 0 s5).2) := ⟨hnn.out, rfl⟩
        have h15 : 6 + j < 15 := by omega
        clear g hq5
        go_wp2_with (go_at_call 68; (with_reducible refine HI.mono ?_); rintro r w5 ⟨hb5, hs5, v5, rfl, hv5⟩; rw [hnn.out] at hv5; subst hv5; have G1 := G.out.got hb5 hs5; obtain ⟨vo, hvo⟩ := evA_some e5 h15; have hc1 := G1.ev.cell hvo; have hf1 := G1.ev.fz (6 + j))
        go_roundw
        case rel =>
          have G2 := G1.set h15 n
          refine ⟨j + 1, by omega, by simp, ?_, (hbw.trans (hb5.mono (by simp))).trans (G2.2.mono (by simp))⟩
          rw [HST.out, HGI.out.1, HGI.out.2]
          exact G2.1
        case measure =>
          simp [intOf]
          omega
      · obtain rfl : j = 8 := by omega
        rw [show q8.take 8 = q8 from rfl, ← HN2.out] at g
        have G := Hid.mk g
        clear g
        have hrg := G.out.ev.range
        have hth : wr.there (w.heap.size + 1) 0 15 := fun i hi => by
          rw [Nat.zero_add]
          have hcl := HR.out wr hbw
          exact ⟨by rw [hcl.cell (Array.getElem?_eq_getElem (by simpa using hi))]; rfl, hcl.fz i⟩
        go_upto_region 9 with fail
        refine wp_region_lit ?_
        refine wpList_load_mid rfl 26 (.tmp 3) rfl E 0 rfl (c15 (nextE MX st).1) _ hrg Tryd.underlying26 rfl size15 ?_
        refine wpList_store_mid rfl 26 (.tmp 2) (.tmp 24) rfl (w.heap.size + 1) 0 (c15 (nextE MX st).1).toArray rfl rfl hth size15 (c15_one _) ?_
        have hfin : (wr.setCells (w.heap.size + 1) 0 (c15 (nextE MX st).1)).rangeAt (w.heap.size + 1) 0 (c15 (nextE MX st).1) := World.rangeAt_setCells_same wr (w.heap.size + 1) 0 _ hth
        have hbf : But [w.heap.size + 1] wr (wr.setCells (w.heap.size + 1) 0 (c15 (nextE MX st).1)) := But.setCells _ 0 wr
        have hsf := G.out.src.but hbf (by simp; omega)
        have hwf : But [S] w (wr.setCells (w.heap.size + 1) 0 (c15 (nextE MX st).1)) := (HBW.out wr hbw).trans_new hbf (fun x hx => by simp at hx; subst hx; simp)
        have HF := Hid.mk hfin
        have HSF := Hid.mk hsf
        have HWF := Hid.mk hwf
        rw [show (c15 (nextE MX st).1).toArray.toList = c15 (nextE MX st).1 from rfl]
        generalize wr.setCells (w.heap.size + 1) 0 (c15 (nextE MX st).1) = wf at *
        clear hfin hbf hsf hwf hth hrg
        go_wp2_with fail
        refine bodyPost_ret (results_ev rfl _ _ (w.heap.size + 1) (nextE MX st).1 rfl HF.out) rfl ⟨rfl, HSF.out, HWF.out⟩
  · rw [if_neg h2] at RG
    have hk2 : ¬ kc = 2 := fun h => h2 (by rw [h]; rfl)
    have HN2 : Hid (nextE MX st = (e4, s4)) := by
      have := HNE.out
      unfold rq at this
      rw [if_neg hk2] at this
      exact this
    have g0 := HG4.out
    rw [show e4 = (nextE MX st).1 by rw [HN2.out], show s4 = (nextE MX st).2 by rw [HN2.out]] at g0
    have HG5 := Hid.mk g0
    clear h2 hkd HNE G4 hk2 g0
    go_wp2_with (go_at_call 37; (with_reducible refine RG.mono ?_); rintro r w' ⟨rfl, hw⟩; subst w')
    go_loopw [15, 5] (fun v15 _ wr => v15 = .int .i64 0 ∧ GS wr E S w.heap.size (nextE MX st).1 (nextE MX st).2 ∧ But [S, E] w4 wr) (fun _ _ _ => 0)
    case atStart => exact ⟨rfl, HG5.out, But.refl _ _⟩
    case round =>
      obtain ⟨rfl, g, hbw⟩ := hrel
      have G := Hid.mk g
      clear g
      have hrg := G.out.ev.range
      have hth : wr.there (w.heap.size + 1) 0 15 := fun i hi => by
        rw [Nat.zero_add]
        have hcl := HR.out wr hbw
        exact ⟨by rw [hcl.cell (Array.getElem?_eq_getElem (by simpa using hi))]; rfl, hcl.fz i⟩
      go_upto_region 9 with fail
      refine wp_region_lit ?_
      refine wpList_load_mid rfl 26 (.tmp 3) rfl E 0 rfl (c15 (nextE MX st).1) _ hrg Tryd.underlying26 rfl size15 ?_
      refine wpList_store_mid rfl 26 (.tmp 2) (.tmp 24) rfl (w.heap.size + 1) 0 (c15 (nextE MX st).1).toArray rfl rfl hth size15 (c15_one _) ?_
      have hfin : (wr.setCells (w.heap.size + 1) 0 (c15 (nextE MX st).1)).rangeAt (w.heap.size + 1) 0 (c15 (nextE MX st).1) := World.rangeAt_setCells_same wr (w.heap.size + 1) 0 _ hth
      have hbf : But [w.heap.size + 1] wr (wr.setCells (w.heap.size + 1) 0 (c15 (nextE MX st).1)) := But.setCells _ 0 wr
      have hsf := G.out.src.but hbf (by simp; omega)
      have hwf : But [S] w (wr.setCells (w.heap.size + 1) 0 (c15 (nextE MX st).1)) := (HBW.out wr hbw).trans_new hbf (fun x hx => by simp at hx; subst hx; simp)
      have HF := Hid.mk hfin
      have HSF := Hid.mk hsf
      have HWF := Hid.mk hwf
      rw [show (c15 (nextE MX st).1).toArray.toList = c15 (nextE MX st).1 from rfl]
      generalize wr.setCells (w.heap.size + 1) 0 (c15 (nextE MX st).1) = wf at *
      clear hfin hbf hsf hwf hth hrg
      go_wp2_with fail
      refine bodyPost_ret (results_ev rfl _ _ (w.heap.size + 1) (nextE MX st).1 rfl HF.out) rfl ⟨rfl, HSF.out, HWF.out⟩
end Go.Proofs.YteiidkojofaamaaDoor
