/- The walk of DeviceOnce. -/
import Derived.Test.YtdhgffnlocgfkaaOnceM
namespace Go.Proofs.Ytdhgffnlocgfkaa
open Go.RowKit
set_option linter.unusedSimpArgs false

/-- While requests are finished: the device, the counts in block A, the picks in block g. -/
structure O2 (w wr : World) (B : Nat) (T : List Nat) (A g n j : Nat) (xs : List Rq) (sn ks : List Int) : Prop where
  d : DQ wr B T 40 n j xs
  a : WB wr A 41 sn
  k : IX wr (some ⟨g, 0, none⟩) ks
  nA : A ∉ T
  ng : g ∉ T
  ne : A ≠ g
  s : Step [] w T wr
  wA : w.heap.size ≤ A
  kl : 40 ≤ ks.length
section
variable {w wr w' : World} {B A g n j : Nat} {T T' : List Nat} {xs ys : List Rq} {sn ks : List Int}
theorem O2.lA (h : O2 w wr B T A g n j xs sn ks) : A < wr.heap.size := World.block_lt_of_cell? wr ⟨A, 0, none⟩ (h.a.2.1 0 (by omega))
theorem O2.lg (h : O2 w wr B T A g n j xs sn ks) : g < wr.heap.size := by
  obtain ⟨b, o, e, h0⟩ := h.k 0 (by have := h.kl; omega)
  cases e
  exact World.block_lt_of_cell? wr ⟨g, 0 + 0, none⟩ h0
theorem O2.fin (h : O2 w wr B T A g n j xs sn ks) (hd : DQ w' B T' 40 n (j + 1) ys) (st : Step T wr T' w') : O2 w w' B T' A g n (j + 1) ys sn ks :=
  ⟨hd, h.a.but st.but h.nA, h.k.but st.but h.ng, fun e => (st.new A e).elim h.nA (fun l => by have := h.lA; omega), fun e => (st.new g e).elim h.ng (fun l => by have := h.lg; omega), h.ne, h.s.trans st, h.wA, h.kl⟩
theorem O2.below (h : O2 w wr B T A g n j xs sn ks) (hb : Below wr.heap.size wr w') : O2 w w' B T A g n j xs sn ks :=
  ⟨h.d.below hb, h.a.but (S := []) (.of_below hb) (by simp), h.k.but (S := []) (.of_below hb) (by simp), h.nA, h.ng, h.ne, h.s.trans (Step.keep (.of_below hb)), h.wA, h.kl⟩
theorem O2.set (h : O2 w wr B T A g n j xs sn ks) {p : Nat} (hp : p < 41) (v : Int) : O2 w (wr.setCell ⟨A, p, none⟩ (.int .i64 v)) B T A g n j xs (sn.set p v) ks := by
  have b : But [A] wr (wr.setCell ⟨A, p, none⟩ (.int .i64 v)) := (But.refl _ _).set (p := ⟨A, p, none⟩) (by simp) _
  exact ⟨h.d.but b (fun x hx hy => h.nA (by simp at hy; rw [← hy]; exact hx)), h.a.set hp, h.k.but b (by simp; exact fun e => h.ne e.symm), h.nA, h.ng, h.ne, ⟨h.s.but.trans_new b (fun x hx => .inr (by simp at hx; rw [hx]; exact h.wA)), h.s.new⟩, h.wA, h.kl⟩
end

/-- The counts, new. -/
def O41 : Obj := .cells #[.int .i64 0, .int .i64 0, .int .i64 0, .int .i64 0, .int .i64 0, .int .i64 0, .int .i64 0, .int .i64 0, .int .i64 0, .int .i64 0, .int .i64 0, .int .i64 0, .int .i64 0, .int .i64 0, .int .i64 0, .int .i64 0, .int .i64 0, .int .i64 0, .int .i64 0, .int .i64 0, .int .i64 0, .int .i64 0, .int .i64 0, .int .i64 0, .int .i64 0, .int .i64 0, .int .i64 0, .int .i64 0, .int .i64 0, .int .i64 0, .int .i64 0, .int .i64 0, .int .i64 0, .int .i64 0, .int .i64 0, .int .i64 0, .int .i64 0, .int .i64 0, .int .i64 0, .int .i64 0, .int .i64 0] 46
theorem wb_new (w : World) : WB (w.alloc O41) w.heap.size 41 (List.replicate 41 0) := by
  refine ⟨by simp, fun m hm => ?_, fun m hm => by simp [go_sem, O41]⟩
  have e : O41 = .cells (Array.replicate 41 (.int .i64 0)) 46 := by unfold O41; congr 1
  rw [e, World.cell?_alloc_at _ _ _ _ rfl, Array.getElem?_replicate, if_pos hm]
  unfold ix
  rw [List.getD_eq_getElem?_getD, List.getElem?_replicate, if_pos hm]
  rfl
theorem oi_none (w : World) : OI (w.alloc (.cells #[] 3)) w.heap.size (.slice (some ⟨w.heap.size, 0, none⟩) 0 0) [] :=
  World.ownsRow_lit (base := w.heap.size) (e := 3) (size := 1) w #[] 0 (Nat.le_refl _) (Nat.zero_le _) rfl
theorem OI.at_ {w : World} {B n : Nat} {v : Value} {xs : List Int} (h : OI w B v xs) (hn : xs.length = n) (h0 : 0 < n) : ∃ g c, v = .slice (some ⟨g, 0, none⟩) n c ∧ IX w (some ⟨g, 0, none⟩) xs ∧ B ≤ g := by
  obtain ⟨a, c, e, _, hr, hc⟩ := owns_rw h
  rcases hc with ⟨_, h1, _⟩ | ⟨g, rfl, hg, _⟩
  · omega
  · exact ⟨g, c, by rw [e, hn], hr.ix_, hg⟩
theorem resV_two {r : Rq} (h : r.2.2.2.1 = 2) : resV r = r.2.2.2.2 := by unfold resV; rw [if_pos h]

set_option maxRecDepth 100000 in
set_option maxHeartbeats 4000000 in
theorem once_any (sa : Option Addr) (ca : Nat) (rs : List Rq) (sk : Option Addr) (ck : Nat) (ks : List Int) (w : World) (hr : RV w sa rs) (hk : IX w sk ks) :
    Calls Try.prog 4 #[.slice sa rs.length ca, .slice sk ks.length ck] w fun e w' => e = .returned (.bool true) ∧ Below w.heap.size w w' := by
  by_cases h1 : 40 < rs.length
  · have h1' : (40 : Int) < (rs.length : Int) := by omega
    go_enter Try.func4, Try.ntmps4
    go_wp2_with (first | (go_at_call 7; refine (lives_any _).mono ?_; rintro e w2 ⟨rfl, b2⟩))
    go_ret
    exact ⟨rfl, b2⟩
  by_cases h2 : 60 < ks.length
  · have h1' : ¬ (40 : Int) < (rs.length : Int) := by omega
    have h2' : (60 : Int) < (ks.length : Int) := by omega
    go_enter Try.func4, Try.ntmps4
    go_wp2_with (first | (go_at_call 7; refine (lives_any _).mono ?_; rintro e w2 ⟨rfl, b2⟩))
    go_ret
    exact ⟨rfl, b2⟩
  have h1' : ¬ (40 : Int) < (rs.length : Int) := by omega
  have h2' : ¬ (60 : Int) < (ks.length : Int) := by omega
  go_enter Try.func4, Try.ntmps4
  go_wp2_with (first | (go_at_call 8; refine (new_some 40 (by decide) (by decide) _).mono ?_; rintro e w1 ⟨B, T1, rfl, d1, s1⟩))
  go_loopw [31, 6, 8, 9, 10] (fun v s6 _ _ _ wr => ∃ (j n : Nat) (T : List Nat) (xs : List Rq), j ≤ rs.length ∧ v = .int .i64 j ∧ s6 = .int .i64 n ∧ n ≤ j ∧ DQ wr B T 40 n 0 xs ∧ xs.length = n ∧ Un xs ∧ Step [] w T wr) (fun v _ _ _ _ _ => 40 - (intOf v).toNat)
  case atStart => exact ⟨0, 0, T1, [], by omega, rfl, rfl, Nat.le_refl _, d1, rfl, Un.nil, s1⟩
  case round =>
    clear d1 s1
    obtain ⟨j, n, T, xs, hj, rfl, rfl, hnj, hd, hxn, hu, hs⟩ := hrel
    by_cases hlt : j < rs.length
    · obtain ⟨b, o, rfl, c0, c1, c2, c3, c4⟩ := hr.below hs.below j hlt
      have hlt' : (j : Int) < (rs.length : Int) := by omega
      generalize rq rs j = r at c0 c1 c2 c3 c4
      obtain ⟨ri, rp, rt, rk, rz⟩ := r
      dsimp only at c0 c1 c2 c3 c4
      have hda := hd.keep ((But.refl [] wr).alloc (.cells #[.int .i64 ri, .int .i64 rp, .int .i64 rt, .int .i64 rk, .int .i64 rz] 29))
      have hsa := hs.trans (Step.keep (T := T) ((But.refl [] wr).alloc (.cells #[.int .i64 ri, .int .i64 rp, .int .i64 rt, .int .i64 rk, .int .i64 rz] 29)))
      have SA := start_any hda (by omega) ri rp rt rk rz
      have hok := hd.ok
      have hw1 : IntKind.i64.wrap ((n : Int) + 1) = (n : Int) + 1 := by rw [IntKind.wrap_i64]; omega
      rcases sta_cases 40 xs (ri, rp, rt, rk, rz) with ⟨e, hg⟩ | ⟨e, hg, hl⟩ | ⟨e, hg, hl⟩
      · simp only [staI, staL, staX, e] at SA
        have HX : Hid (xs.length = n) := hxn
        clear hxn e
        go_wp2_with (first | (go_at_call 16; (with_reducible refine SA.mono ?_); rintro e w2 ⟨rfl, T2, d2, s2⟩))
        go_roundw
        case rel => exact ⟨j + 1, n, T2, xs, by omega, by simp, rfl, by omega, d2, HX.out, hu, hsa.trans s2⟩
        case measure =>
          simp [intOf]
          omega
      · omega
      · simp only [staI, staL, staX, e, if_true] at SA
        have HX : Hid ((xs ++ [((n : Int) + 1, rp, rt, rk, rz)]).length = n + 1) := by unfold Hid; simp; exact hxn
        have HU : Hid (Un (xs ++ [((n : Int) + 1, rp, rt, rk, rz)])) := hu.add hok _ rfl
        clear hxn e hu
        generalize xs ++ [((n : Int) + 1, rp, rt, rk, rz)] = xs2 at *
        go_wp2_with (first | (go_at_call 16; (with_reducible refine SA.mono ?_); rintro e w2 ⟨rfl, T2, d2, s2⟩))
        go_roundw
        case rel => exact ⟨j + 1, n + 1, T2, xs2, by omega, by simp, by simp, by omega, d2, HX.out, HU.out, hsa.trans s2⟩
        case measure =>
          simp [intOf]
          omega
    · obtain rfl : j = rs.length := by omega
      go_upto_region 17 with fail
      have hWB := wb_new wr
      have bW : Below wr.heap.size wr (wr.alloc O41) := (Below.refl _ _).alloc (Nat.le_refl _) _
      have hsz : (wr.alloc O41).heap.size = wr.heap.size + 1 := by simp
      have dW := hd.below bW
      have sW := hs.trans (Step.keep (T := T) (.of_below bW))
      have hkW := hk.below sW.below
      have hTl := hd.lt
      have hwr := hs.but.size
      unfold O41 at hWB bW dW sW hsz hkW
      generalize wr.alloc (.cells #[.int .i64 0, .int .i64 0, .int .i64 0, .int .i64 0, .int .i64 0, .int .i64 0, .int .i64 0, .int .i64 0, .int .i64 0, .int .i64 0, .int .i64 0, .int .i64 0, .int .i64 0, .int .i64 0, .int .i64 0, .int .i64 0, .int .i64 0, .int .i64 0, .int .i64 0, .int .i64 0, .int .i64 0, .int .i64 0, .int .i64 0, .int .i64 0, .int .i64 0, .int .i64 0, .int .i64 0, .int .i64 0, .int .i64 0, .int .i64 0, .int .i64 0, .int .i64 0, .int .i64 0, .int .i64 0, .int .i64 0, .int .i64 0, .int .i64 0, .int .i64 0, .int .i64 0, .int .i64 0, .int .i64 0] 46) = W at *
      have HSZ : Hid (W.heap.size = wr.heap.size + 1) := hsz
      generalize hA0 : wr.heap.size = A at *
      have HA : Hid (wr.heap.size = A) := hA0
      clear hsz hA0 bW hd hs hj hlt
      obtain ⟨z, hz⟩ : ∃ z, Hid ((n : Int) = z) := ⟨_, rfl⟩
      rw [hz.out]
      obtain ⟨m, hm⟩ : ∃ m, Hid (m = ks.length + 40) := ⟨_, rfl⟩
      have OW := oi_none W
      have kW2 : IX (W.alloc (.cells #[] 3)) sk ks := hkW.below ((Below.refl _ _).alloc (Nat.le_refl _) _)
      have bW2 : But [] W (W.alloc (.cells #[] 3)) := (But.refl [] W).alloc _
      have hsz2 : W.heap.size ≤ (W.alloc (.cells #[] 3)).heap.size := by simp
      go_wp2_with (first
        | (at_builtin; refine wpList_appI rfl _ _ rfl W.heap.size _ [] rfl OW _ _ _ ks rfl rfl kW2 (by simp; omega) hsz2 ?_; intro v3 w3 ho3 hg3; rw [List.nil_append] at ho3; have b3 := bW2.grown hg3 (fun k e => .inr (by cases e; exact Nat.le_refl _)); have hsz3 : W.heap.size ≤ w3.heap.size := b3.size)
        | (at_builtin; refine wpList_forty rfl _ _ rfl W.heap.size _ ks rfl ho3 rfl (by omega) hsz3 ?_; intro v4 w4 ho4 hg4; have b4 := b3.grown hg4 (fun k e => .inr (World.ownsRow.lt ho3 k e).1); obtain ⟨g, c4, rfl, hk4, hgW⟩ := ho4.at_ (n := m) (by rw [hm.out, List.length_append, List.length_replicate]) (by rw [hm.out]; omega)))
      have hO : O2 w w4 B T A g n 0 xs (List.replicate 41 0) (ks ++ List.replicate 40 0) := by
        have hs := HSZ.out
        refine ⟨dW.keep b4, hWB.but b4 (by simp), hk4, fun e => ?_, fun e => ?_, by omega, sW.trans (Step.keep b4), hwr, by simp⟩
        · have := hTl A e
          omega
        · have := hTl g e
          omega
      have hN0 : Ns (List.replicate 41 0) xs := fun r _ => by
        unfold ix
        rw [List.getD_eq_getElem?_getD, List.getElem?_replicate]
        split <;> rfl
      have hml : Hid ((ks ++ List.replicate 40 (0 : Int)).length = m) := by unfold Hid; rw [hm.out, List.length_append, List.length_replicate]
      have hn40 : n ≤ 40 := by omega
      have hm100 : m ≤ 100 := by rw [hm.out]; omega
      have hm40 : 40 ≤ m := by rw [hm.out]; omega
      have HXN : Hid (xs.length + 0 = n) := hxn
      clear hWB OW kW2 bW2 hsz2 dW sW hkW hTl hwr ho3 ho4 hg3 hg4 b3 hsz3 b4 hk4 hgW HSZ HA hxn hnj h1' h2' hk hr
      generalize ks ++ List.replicate 40 0 = ks2 at *
      go_loopw [58, 13, 14, 15, 16] (fun v _ _ _ _ wx => ∃ (j : Nat) (T : List Nat) (xs : List Rq) (sn : List Int), j ≤ m ∧ v = .int .i64 j ∧ O2 w wx B T A g n j xs sn ks2 ∧ Hid (xs.length + j = n) ∧ Un xs ∧ Ns sn xs) (fun v _ _ _ _ _ => 100 - (intOf v).toNat)
      case atStart => exact ⟨0, T, xs, _, by omega, rfl, hO, HXN, hu, hN0⟩
      case round =>
        clear hO HXN hu hN0
        obtain ⟨j, T2, ys, sn, hj, rfl, hO, hyn, hu, hN⟩ := hrel
        by_cases hlt : j < m
        · obtain ⟨b, o, eb, c0⟩ := hO.k j (by rw [hml.out]; exact hlt)
          cases eb
          rw [Nat.zero_add] at c0
          generalize ix ks2 j = kk at c0
          have hlt' : (j : Int) < (m : Int) := by omega
          have FA := finish_any hO.d (by omega) kk
          by_cases hx : ys = []
          · subst hx
            have hjn : n = j := by have := hyn.out; simp at this; omega
            obtain rfl : z = (j : Int) := by rw [← hz.out, hjn]
            have FB : Calls Try.prog 17 #[.pointer (some ⟨B, 0, none⟩), .int .i64 kk] wr fun e w' => e = .returned (.tuple #[.agg #[.int .i64 0, .int .i64 0, .int .i64 0, .int .i64 0, .int .i64 0], .int .i64 0, .int .i64 4]) ∧ ∃ T', DQ w' B T' 40 n j [] ∧ Step T2 wr T' w' := FA
            have HD : ∀ W T, DQ W B T 40 n j [] → _ := fun W T h => done_any (w := W) (T := T) h
            have HL : ∀ W T, DQ W B T 40 n j [] → _ := fun W T h => len_any (w := W) (T := T) h
            have hsO := hO.s
            clear FA hz hN hu hyn hml hO hjn
            go_wp2_with (first
              | (go_at_call 17; (with_reducible refine FB.mono ?_); rintro e w5 ⟨rfl, T5, d5, s5⟩; have d6 := d5.keep ((But.refl [] w5).alloc (.cells #[.int .i64 0, .int .i64 0, .int .i64 0, .int .i64 0, .int .i64 0] 29)); have s6 := (hsO.trans s5).trans (Step.keep ((But.refl [] w5).alloc (.cells #[.int .i64 0, .int .i64 0, .int .i64 0, .int .i64 0, .int .i64 0] 29))))
              | (go_at_call 12; (with_reducible refine (HD _ _ d6).mono ?_); rintro e w7 ⟨rfl, hw⟩; subst w7)
              | (go_at_call 11; (with_reducible refine (HL _ _ d6).mono ?_); rintro e w7 ⟨rfl, hw⟩; subst w7)
              | (go_at_call 7; refine (lives_any _).mono ?_; rintro e w8 ⟨rfl, b8⟩))
            go_ret
            exact ⟨rfl, below2 s6.below s6.but.size b8⟩
          · have hget := finR_get kk hx
            have hmem := finR_mem kk hx
            have hok := hO.d.ok _ hmem
            have hre := resV_bd hok
            have hN2 := hN.erase hu hO.d.ok hn40 hO.a.1 hget
            have hu2 := (hu.erase hget).1
            have hi0 := hN _ hmem
            have hlen2 : Hid ((finX ys kk).length + (j + 1) = n) := by
              unfold Hid finX
              rw [List.length_eraseIdx, if_pos (plc_lt kk hx)]
              have := List.length_pos_iff.2 hx
              have := hyn.out
              omega
            have hfe : finE ys = 0 := by unfold finE; rw [if_neg hx]
            have hfv : finV ys kk = resV (finR ys kk) := by unfold finV; rw [if_neg hx]
            have hfd : finD j ys = j + 1 := by unfold finD; rw [if_neg hx]
            rw [hfe, hfv, hfd] at FA
            have hxe : finX ys kk = ys.eraseIdx (plc ys kk) := rfl
            rw [← hxe] at hN2 hu2
            have htwo := resV_two (r := finR ys kk)
            generalize resV (finR ys kk) = y at *
            generalize finX ys kk = ys2 at *
            generalize finR ys kk = r at *
            obtain ⟨ri, rp, rt, rk, rz⟩ := r
            dsimp only at hok hi0 hN2 htwo
            simp only [a5] at FA
            obtain ⟨-, hr1, hr2⟩ := hok
            have hr2z : ri ≤ z := by rw [← hz.out]; exact hr2
            have hr40 : ri < 41 := by omega
            have hr0 : (0 : Int) ≤ ri := by omega
            have hq : ri.toNat < 41 := by omega
            have HF : ∀ w5 T5, DQ w5 B T5 40 n (j + 1) ys2 → Step T2 wr T5 w5 → O2 w ((w5.alloc (.cells #[.int .i64 ri, .int .i64 rp, .int .i64 rt, .int .i64 rk, .int .i64 rz] 29)).setCell ⟨A, ri.toNat, none⟩ (.int .i64 1)) B T5 A g n (j + 1) ys2 (sn.set ri.toNat 1) ks2 ∧ (w5.alloc (.cells #[.int .i64 ri, .int .i64 rp, .int .i64 rt, .int .i64 rk, .int .i64 rz] 29)).cell? ⟨A, ri.toNat, none⟩ = some (.int .i64 0) ∧ (w5.alloc (.cells #[.int .i64 ri, .int .i64 rp, .int .i64 rt, .int .i64 rk, .int .i64 rz] 29)).frozen? ⟨A, ri.toNat, none⟩ = false ∧ At5 ((w5.alloc (.cells #[.int .i64 ri, .int .i64 rp, .int .i64 rt, .int .i64 rk, .int .i64 rz] 29)).setCell ⟨A, ri.toNat, none⟩ (.int .i64 1)) w5.heap.size 0 (ri, rp, rt, rk, rz) := fun w5 T5 d5 s5 => by
              have o5 := hO.fin d5 s5
              have o6 := o5.below (w' := w5.alloc (.cells #[.int .i64 ri, .int .i64 rp, .int .i64 rt, .int .i64 rk, .int .i64 rz] 29)) ((Below.refl _ _).alloc (Nat.le_refl _) _)
              have o7 := o6.set hq 1
              refine ⟨o7, ?_, o6.a.2.2 _ hq, (at5_new w5 ri rp rt rk rz 29).but (S := [A]) ((But.refl _ _).set (p := ⟨A, ri.toNat, none⟩) (by simp) _) (by have := o5.lA; simp; omega)⟩
              rw [o6.a.2.1 _ hq, hi0]
            clear hz hget hmem hN hu hyn hfe hfv hfd hxe hx hr2 hi0 hO
            by_cases hk2 : rk = 2
            · have hyz : y = rz := htwo hk2
              subst hk2
              subst hyz
              clear htwo
              go_wp2_with (first
                | (go_at_call 17; (with_reducible refine FA.mono ?_); rintro e w5 ⟨rfl, T5, d5, s5⟩; obtain ⟨o7, x0, x1, q0, q1, q2, q3, q4⟩ := HF _ _ d5 s5; dsimp only at q0 q1 q2 q3 q4))
              go_roundw
              case rel => exact ⟨j + 1, T5, ys2, sn.set ri.toNat 1, by omega, by simp, o7, hlen2, hu2, hN2⟩
              case measure =>
                simp [intOf]
                omega
            · have hk2' : (rk == 2) = false := by simpa using hk2
              clear htwo
              go_wp2_with (first
                | (go_at_call 17; (with_reducible refine FA.mono ?_); rintro e w5 ⟨rfl, T5, d5, s5⟩; obtain ⟨o7, x0, x1, q0, q1, q2, q3, q4⟩ := HF _ _ d5 s5; dsimp only at q0 q1 q2 q3 q4))
              go_roundw
              case rel => exact ⟨j + 1, T5, ys2, sn.set ri.toNat 1, by omega, by simp, o7, hlen2, hu2, hN2⟩
              case measure =>
                simp [intOf]
                omega
        · have hy0 : ys = [] := List.eq_nil_of_length_eq_zero (by have := hyn.out; omega)
          subst hy0
          have hjn : n = j := by have := hyn.out; simp at this; omega
          obtain rfl : z = (j : Int) := by rw [← hz.out, hjn]
          have HD := done_any hO.d
          have HL := len_any hO.d
          have hlt' : ¬ (j : Int) < (m : Int) := by omega
          have hsO := hO.s
          clear hz hN hu hyn hml hO hjn
          go_wp2_with (first
            | (go_at_call 12; (with_reducible refine HD.mono ?_); rintro e w7 ⟨rfl, hw⟩; subst w7)
            | (go_at_call 11; (with_reducible refine HL.mono ?_); rintro e w7 ⟨rfl, hw⟩; subst w7)
            | (go_at_call 7; refine (lives_any _).mono ?_; rintro e w8 ⟨rfl, b8⟩))
          go_ret
          exact ⟨rfl, below2 hsO.below hsO.but.size b8⟩
end Go.Proofs.Ytdhgffnlocgfkaa
