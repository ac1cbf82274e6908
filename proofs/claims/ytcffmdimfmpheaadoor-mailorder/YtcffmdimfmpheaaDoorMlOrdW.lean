/- The walk of MailOrder. -/
import Derived.Test.YtcffmdimfmpheaaDoorMlLiv
import Derived.Test.YtcffmdimfmpheaaDoorCMem
namespace Go.Proofs.YtcffmdimfmpheaaDoor
open Go Go.RowKit

/-- How far it has come: the box, what was put, what was got. -/
structure Od (w W : World) (B : Nat) (T : List Nat) (v6 v7 : Value) (ps gs q : List Ev) : Prop where
  bq : BQ W B T 20 q
  p : OwE W w.heap.size v6 ps
  g : OwE W w.heap.size v7 gs
  pT : ∀ x, v6.ownBlock = some x → x ∉ T
  gT : ∀ x, v7.ownBlock = some x → x ∉ T
  pg : ∀ x, v6.ownBlock = some x → v7.ownBlock ≠ some x
  eq : gs ++ q = ps
  all : allM q = true
  bel : Below w.heap.size w W
  tl : ∀ x ∈ T, w.heap.size ≤ x
section
variable {w W W2 : World} {B : Nat} {T T' : List Nat} {v6 v7 : Value} {ps gs q : List Ev}
theorem Od.keep (h : Od w W B T v6 v7 ps gs q) (hb : Below W.heap.size W W2) : Od w W2 B T v6 v7 ps gs q :=
  ⟨h.bq.below hb, h.p.below hb, h.g.below hb, h.pT, h.gT, h.pg, h.eq, h.all, below2 h.bel h.bel.size hb, h.tl⟩
/-- The box alone turns. -/
theorem Od.box (h : Od w W B T v6 v7 ps gs q) (s : Step T W T' W2) : OwE W2 w.heap.size v6 ps ∧ OwE W2 w.heap.size v7 gs ∧ (∀ x, v6.ownBlock = some x → x ∉ T') ∧ (∀ x, v7.ownBlock = some x → x ∉ T') ∧ Below w.heap.size w W2 ∧ (∀ x ∈ T', w.heap.size ≤ x) := by
  refine ⟨h.p.put (fun x hx => s.but.block x (h.p.lt hx).2 (h.pT x hx)), h.g.put (fun x hx => s.but.block x (h.g.lt hx).2 (h.gT x hx)), fun x hx e => ?_, fun x hx e => ?_, h.bel.trans (s.but.below h.bel.size h.tl), fun x hx => (s.new x hx).elim (h.tl x) (fun l => Nat.le_trans h.bel.size l)⟩
  · exact (s.new x e).elim (h.pT x hx) (fun l => by have := (h.p.lt hx).2; omega)
  · exact (s.new x e).elim (h.gT x hx) (fun l => by have := (h.g.lt hx).2; omega)
theorem Od.turn (h : Od w W B T v6 v7 ps gs q) (hq : BQ W2 B T' 20 q) (s : Step T W T' W2) : Od w W2 B T' v6 v7 ps gs q := by
  obtain ⟨a1, a2, a3, a4, a5, a6⟩ := h.box s
  exact ⟨hq, a1, a2, a3, a4, h.pg, h.eq, h.all, a5, a6⟩
end
theorem allM_undo {q : List Ev} (m : Int) (h : allM q = true) (hl : q.length ≤ 20) : askE 20 (tkX m q) (tkT m q) = 0 ∧ undX 20 (tkX m q) (tkT m q) = q := by
  have e := tk_app m q
  have hlen := congrArg List.length e
  rw [List.length_append] at hlen
  have h0 : askE 20 (tkX m q) (tkT m q) = 0 := askE_ok (allM_take h _) (by omega)
  exact ⟨h0, by unfold undX; rw [if_pos h0, e]⟩
set_option maxRecDepth 100000 in
set_option maxHeartbeats 8000000 in
theorem order_any (sa : Option Addr) (ca : Nat) (xs : List Ev) (sb : Option Addr) (cb : Nat) (bs : List UInt8) (w : World) (hx : EV w sa xs) (hy : Byts w w.heap.size sb cb bs) (hT : Tab w) :
    Calls Tryd.prog 4 #[.slice sa xs.length ca, .slice sb bs.length cb] w fun e w' => e = .returned (.bool true) ∧ Below w.heap.size w w' := by
  have HL : ∀ W, Below w.heap.size w W → Calls Tryd.prog 8 #[] W fun r w' => r = .returned (.bool true) ∧ Below W.heap.size W w' := fun W h => lives_any (hT.on h)
  have br := Below.refl w.heap.size w
  obtain ⟨n, hN⟩ : ∃ n, Hid (xs.length = n) := ⟨_, rfl⟩
  obtain ⟨m, hM⟩ : ∃ m, Hid (bs.length = m) := ⟨_, rfl⟩
  rw [hN.out, hM.out]
  by_cases h1 : n ≤ 40
  · by_cases h2 : m ≤ 100
    · have h1' : ¬ (40 : Int) < (n : Int) := by omega
      have h2' : ¬ (100 : Int) < (m : Int) := by omega
      go_enter Tryd.func4, Tryd.ntmps4
      go_wp2_with (go_at_call 9; refine (new_some 20 (by decide) (by decide) _).mono ?_; rintro e w1 ⟨B, T1, rfl, q1, s1⟩)
      have O1 : Od w w1 B T1 (.slice none 0 0) (.slice none 0 0) [] [] [] := ⟨q1, OwE.nil _ _, OwE.nil _ _, (fun x hx => by cases hx), (fun x hx => by cases hx), (fun x hx => by cases hx), rfl, rfl, s1.below, fun x hx => (s1.new x hx).elim (fun e => by cases e) id⟩
      clear q1 s1
      go_loopw [27, 6, 9] (fun v v6 _ wr => ∃ (j : Nat) (T : List Nat) (ps : List Ev), j ≤ n ∧ v = .int .i64 j ∧ Od w wr B T v6 (.slice none 0 0) ps [] ps) (fun v _ _ _ => 40 - (intOf v).toNat)
      case atStart => exact ⟨0, T1, [], Nat.zero_le _, rfl, O1⟩
      case round =>
        clear O1
        obtain ⟨j, T, ps, hj, rfl, O⟩ := hrel
        have hl20 := O.bq.len.1
        by_cases hlt : j < n
        · obtain ⟨b, o, rfl, hc⟩ := hx.below O.bel j (by rw [hN.out]; exact hlt)
          have hlt' : (j : Int) < (n : Int) := by omega
          have ba : Below wr.heap.size wr (wr.alloc (.cells (evA (ev xs j)) 33)) := (Below.refl _ _).alloc (Nat.le_refl _) _
          have O1 := O.keep ba
          have hn5 := at15_new wr (ev xs j)
          have hlr : wr.heap.size < (wr.alloc (.cells (evA (ev xs j)) 33)).heap.size := by simp
          have PU := put_any O1.bq (hT.on O1.bel) (ev xs j)
          generalize ev xs j = x at *
          have hnT : wr.heap.size ∉ T := fun e => by have := O.bq.lt _ e; omega
          by_cases h0 : askE 20 ps [x] = 0
          · have hpx : putX 20 ps x = ps ++ [x] := by unfold putX; rw [if_pos h0]
            have hmx : mayE x = true := by have := (askE_inv h0).1; rwa [allM_one] at this
            rw [h0, hpx] at PU
            have K2 : ∀ (w2 : World) (T2 : List Nat), BQ w2 B T2 20 (ps ++ [x]) → Step T (wr.alloc (.cells (evA x) 33)) T2 w2 → At15 w2 wr.heap.size 0 x ∧ OwE (w2.alloc (.cells (evA x) 33)) w.heap.size u6 ps ∧ EV (w2.alloc (.cells (evA x) 33)) (some ⟨w2.heap.size, 0, none⟩) [x] ∧ w.heap.size ≤ (w2.alloc (.cells (evA x) 33)).heap.size ∧ ∀ v3 w3, OwE w3 w.heap.size v3 (ps ++ [x]) → (w2.alloc (.cells (evA x) 33)).grownBy w3 u6.ownBlock → (v3.ownBlock = u6.ownBlock ∨ v3.ownBlock = some (w2.alloc (.cells (evA x) 33)).heap.size) → Od w w3 B T2 v3 (.slice none 0 0) (ps ++ [x]) [] (ps ++ [x]) := fun w2 T2 q2 s2 => by
              obtain ⟨a1, a2, a3, a4, a5, a6⟩ := O1.box s2
              have b2 : Below w2.heap.size w2 (w2.alloc (.cells (evA x) 33)) := (Below.refl _ _).alloc (Nat.le_refl _) _
              refine ⟨hn5.but s2.but hnT, a1.below b2, ev_one w2 x, Nat.le_trans a5.size b2.size, fun v3 w3 o3 g3 e3 => ?_⟩
              have q3 := q2.below b2
              have hd : Disj T2 u6.ownBlock.toList := fun y hy hz => a3 y (by simpa using hz) hy
              refine ⟨q3.but (But.own g3) hd, o3, OwE.nil _ _, fun y hy hz => ?_, (fun y hy => by cases hy), (fun y _ hy => by cases hy), rfl, by rw [allM_app, O.all, allM_one, hmx]; rfl, ?_, a6⟩
              · rcases e3 with e3 | e3
                · exact a3 y (e3 ▸ hy) hz
                · rw [e3] at hy
                  cases hy
                  have := q3.lt _ hz
                  omega
              · have b5 := below2 a5 a5.size b2
                exact below_grown b5 g3 (a1.below b2) b5.size
            obtain ⟨c0, c1, c2, c3, c4, c5, c6, c7, c8, c9, c10, c11, c12, c13, c14⟩ := hc.cells
            obtain ⟨n0, n1, n2, n3, n4, n5, n6, n7, n8, n9, n10, n11, n12, n13, n14⟩ := hn5.cells
            clear h0 hpx hmx hc hn5 hlr
            unfold evA at *
            go_wp2_with (first
              | (go_at_call 19; (with_reducible refine PU.mono ?_); rintro e w2 ⟨rfl, T2, q2, s2⟩; obtain ⟨r1, r2, r3, r4, r5⟩ := K2 _ _ q2 s2; obtain ⟨d0, d1, d2, d3, d4, d5, d6, d7, d8, d9, d10, d11, d12, d13, d14⟩ := r1.cells)
              | (at_builtin; refine wpList_appE rfl _ _ rfl w.heap.size _ ps rfl r2 _ _ _ [x] rfl rfl r3 (by omega) r4 ?_; intro v9 w9 ho9 hg9 hs9))
            have O9 := r5 _ _ ho9 hg9 hs9
            go_roundw
            case rel => exact ⟨j + 1, T2, ps ++ [x], by omega, by simp, O9⟩
            case measure =>
              simp [intOf]
              omega
          · have hpx : putX 20 ps x = ps := by unfold putX; rw [if_neg h0]
            have hne : (askE 20 ps [x] == 0) = false := by simpa using h0
            rw [hpx] at PU
            generalize askE 20 ps [x] = er at *
            obtain ⟨c0, c1, c2, c3, c4, c5, c6, c7, c8, c9, c10, c11, c12, c13, c14⟩ := hc.cells
            obtain ⟨n0, n1, n2, n3, n4, n5, n6, n7, n8, n9, n10, n11, n12, n13, n14⟩ := hn5.cells
            clear h0 hpx hc hn5 hlr
            unfold evA at *
            go_wp2_with (go_at_call 19; (with_reducible refine PU.mono ?_); rintro e w2 ⟨rfl, T2, q2, s2⟩)
            have O9 := O1.turn q2 s2
            go_roundw
            case rel => exact ⟨j + 1, T2, ps, by omega, by simp, O9⟩
            case measure =>
              simp [intOf]
              omega
        · obtain rfl : j = n := by omega
          obtain ⟨a6, c6, rfl⟩ := O.p.at_ (n := ps.length) rfl
          have hl2 : ¬ (20 : Int) < (ps.length : Int) := by omega
          have LE := len_any O.bq
          go_wp2_with (go_at_call 12; (with_reducible refine LE.mono ?_); rintro e w' ⟨rfl, hw⟩; subst w')
          clear LE
          generalize hv6 : Value.slice a6 ps.length c6 = v6 at *
          have HV6 := Hid.mk hv6
          clear hv6
          go_loopw [52, 7, 11, 12] (fun v v7 _ _ wx => ∃ (k : Nat) (T2 : List Nat) (gs q : List Ev), k ≤ m ∧ v = .int .i64 k ∧ Od w wx B T2 v6 v7 ps gs q) (fun v _ _ _ _ => 100 - (intOf v).toNat)
          case atStart => exact ⟨0, T, [], ps, Nat.zero_le _, rfl, O⟩
          case round =>
            clear O
            obtain ⟨k, T2, gs, q, hk, rfl, O⟩ := hrel
            have hq20 := O.bq.len.1
            have hps := congrArg List.length O.eq
            rw [List.length_append] at hps
            by_cases hkm : k < m
            · have hkm' : (k : Int) < (m : Int) := by omega
              have hkb : k < bs.length := by rw [hM.out]; exact hkm
              obtain ⟨G, o2, rfl, hcell⟩ : ∃ G o2, sb = some ⟨G, o2, none⟩ ∧ wr.cell? ⟨G, o2 + k, none⟩ = some (.int .u8 ((bs[k]'hkb).toNat : Int)) := by
                rcases hy with ⟨_, e⟩ | ⟨G, o2, e, hG, _, _, hc⟩
                · rw [e] at hkb; simp at hkb
                · exact ⟨G, o2, e, cell_on O.bel (hc k _ (List.getElem?_eq_getElem hkb))⟩
              obtain ⟨y, hy0⟩ : ∃ y : Int, Hid (((bs[k]'hkb).toNat : Int) = y) := ⟨_, rfl⟩
              have hy1 : 0 ≤ y := by rw [← hy0.out]; omega
              have hy2 : y ≤ 255 := by rw [← hy0.out]; have := (bs[k]'hkb).toNat_lt; omega
              rw [hy0.out] at hcell
              have hm1 : 0 ≤ y % 9 := by omega
              have hm2 : y % 9 ≤ 8 := by omega
              have TA := take_any O.bq (y % 9)
              have HU := Hid.mk (allM_undo (y % 9) O.all hq20)
              have hlt9 : (tkT (y % 9) q).length ≤ 20 := by unfold tkT; rw [List.length_take]; omega
              have K2 : ∀ (w2 : World) (v2 : Value) (T3 : List Nat), OwE w2 wr.heap.size v2 (tkT (y % 9) q) → BQ w2 B T3 20 (tkX (y % 9) q) → Step T2 wr T3 w2 → EV w2 (match v2 with | .slice a _ _ => a | _ => none) (tkT (y % 9) q) ∧ OwE w2 w.heap.size u7 gs ∧ w.heap.size ≤ w2.heap.size ∧ (∀ w3 T4, BQ w3 B T4 20 q → Step T3 w2 T4 w3 → Od w w3 B T4 v6 u7 ps gs q) ∧ ∀ v3 w3, OwE w3 w.heap.size v3 (gs ++ tkT (y % 9) q) → w2.grownBy w3 u7.ownBlock → (v3.ownBlock = u7.ownBlock ∨ v3.ownBlock = some w2.heap.size) → Od w w3 B T3 v6 v3 ps (gs ++ tkT (y % 9) q) (tkX (y % 9) q) := fun w2 v2 T3 o2 q2 s2 => by
                obtain ⟨a1, a2, a3, a4, a5, a6⟩ := O.box s2
                obtain ⟨av, cv, ev, _, he, _⟩ := o2.sl
                refine ⟨by rw [ev]; exact he, a2, a5.size, fun w3 T4 q3 s3 => ?_, fun v3 w3 o3 g3 e3 => ?_⟩
                · exact O.turn q3 (s2.trans s3)
                · have hd : Disj T3 u7.ownBlock.toList := fun z hz hw => a4 z (by simpa using hw) hz
                  refine ⟨q2.but (But.own g3) hd, a1.put (fun z hz => g3.block z (a1.lt hz).2 (fun e => O.pg z hz e.symm)), o3, a3, fun z hz hw => ?_, fun z hz e => ?_, ?_, allM_drop O.all _, below_grown a5 g3 a2 a5.size, a6⟩
                  · rcases e3 with e3 | e3
                    · exact a4 z (e3 ▸ hz) hw
                    · rw [e3] at hz
                      cases hz
                      have := q2.lt _ hw
                      omega
                  · rcases e3 with e3 | e3
                    · exact O.pg z hz (e3 ▸ e)
                    · rw [e3] at e
                      cases e
                      have := (a1.lt hz).2
                      omega
                  · rw [List.append_assoc, tk_app, O.eq]
              have hgl : gs.length ≤ 20 := by have := hps; omega
              by_cases h127 : 127 < y
              · go_upto_region 20 with (go_at_call 20; (with_reducible refine TA.mono ?_); rintro e w2 ⟨v2, T3, rfl, o2', q2, s2⟩)
                obtain ⟨r1, r2, r3, r4, -⟩ := K2 _ _ _ o2' q2 s2
                have bw2 : Below w.heap.size w w2 := (O.box s2).2.2.2.2.1
                obtain ⟨a2, c2, rfl⟩ := o2'.at_ rfl
                have UN := undo_any q2 (hT.on bw2) c2 r1 (by unfold maxLen; omega)
                rw [HU.out.1, HU.out.2] at UN
                clear TA K2 O
                go_wp2_with (go_at_call 21; (with_reducible refine UN.mono ?_); rintro e w3 ⟨rfl, T4, q3, s3⟩)
                have O9 := r4 _ _ q3 s3
                go_roundw
                case rel => exact ⟨k + 1, T4, gs, q, by omega, by simp, O9⟩
                case measure =>
                  simp [intOf]
                  omega
              · go_upto_region 22 with (go_at_call 20; (with_reducible refine TA.mono ?_); rintro e w2 ⟨v2, T3, rfl, o2', q2, s2⟩)
                obtain ⟨r1, r2, r3, -, r5⟩ := K2 _ _ _ o2' q2 s2
                obtain ⟨a2, c2, rfl⟩ := o2'.at_ rfl
                clear TA K2 O
                go_wp2_with (at_builtin; refine wpList_appE rfl _ _ rfl w.heap.size _ gs rfl r2 _ _ _ (tkT (y % 9) q) rfl rfl r1 (by omega) r3 ?_; intro v9 w9 ho9 hg9 hs9)
                have O9 := r5 _ _ ho9 hg9 hs9
                go_roundw
                case rel => exact ⟨k + 1, T3, gs ++ tkT (y % 9) q, tkX (y % 9) q, by omega, by simp, O9⟩
                case measure =>
                  simp [intOf]
                  omega
            · obtain rfl : k = m := by omega
              have AL := all_any O.bq
              have hgl : gs.length ≤ 20 := by omega
              go_upto_region 24 with fail
              have K2 : ∀ (w2 : World) (v2 : Value), OwE w2 wr.heap.size v2 q → Below wr.heap.size wr w2 → OwE w2 w.heap.size u7 gs ∧ w.heap.size ≤ w2.heap.size ∧ ∀ v3 w3, OwE w3 w.heap.size v3 (gs ++ q) → w2.grownBy w3 u7.ownBlock → Below w.heap.size w w3 ∧ OwE w3 w.heap.size v6 ps ∧ OwE w3 w.heap.size v3 ps := fun w2 v2 o2 b2 => by
                have O2 := O.keep b2
                refine ⟨O2.g, O2.bel.size, fun v3 w3 o3 g3 => ⟨below_grown O2.bel g3 O2.g O2.bel.size, O2.p.put (fun z hz => g3.block z (O2.p.lt hz).2 (fun e => O.pg z hz e.symm)), by rw [← O.eq]; exact o3⟩⟩
              have HE := Hid.mk O.eq
              clear O
              have SM : ∀ (W : World) (a1 a2 : Option Addr) (c1 c2 : Nat), EV W a1 ps → EV W a2 ps → Calls Tryd.prog 13 #[.slice a1 ps.length c1, .slice a2 ps.length c2] W fun e w' => e = .returned (.bool true) ∧ Below W.heap.size W w' := fun W a1 a2 c1 c2 e1 e2 => by
                have := rsame_any c1 c2 e1 e2 (by omega)
                rwa [sameB_refl] at this
              rw [← HV6.out] at *
              go_wp2_with (first
                | (go_at_call 14; (with_reducible refine AL.mono ?_); rintro e w2 ⟨v2, rfl, o2, b2⟩; obtain ⟨a2, c2, rfl⟩ := o2.at_ rfl; obtain ⟨r1, r2, r3⟩ := K2 _ _ o2 b2)
                | (at_builtin; refine wpList_appE rfl _ _ rfl w.heap.size _ gs rfl r1 _ _ _ q rfl rfl o2.ev_.2.2 (by omega) r2 ?_; intro v9 w9 ho9 hg9 hs9; obtain ⟨t1, t2, t3⟩ := r3 _ _ ho9 hg9; obtain ⟨a9, c9, rfl⟩ := t3.at_ rfl)
                | (go_at_call 13; (with_reducible refine (SM _ _ _ _ _ t3.ev_.2.2 t2.ev_.2.2).mono ?_); rintro e w4 ⟨rfl, b4⟩; have b5 := below2 t1 t1.size b4)
                | (go_at_call 8; (with_reducible refine (HL _ b5).mono ?_); rintro e w6 ⟨rfl, b6⟩))
              go_ret
              exact ⟨rfl, below2 b5 b5.size b6⟩
    · have h1' : ¬ (40 : Int) < (n : Int) := by omega
      have h2' : (100 : Int) < (m : Int) := by omega
      go_enter Tryd.func4, Tryd.ntmps4
      go_wp2_with (go_at_call 8; (with_reducible refine (HL _ br).mono ?_); rintro e w6 ⟨rfl, b6⟩)
      go_ret
      exact ⟨rfl, b6⟩
  · have h1' : (40 : Int) < (n : Int) := by omega
    go_enter Tryd.func4, Tryd.ntmps4
    go_wp2_with (go_at_call 8; (with_reducible refine (HL _ br).mono ?_); rintro e w6 ⟨rfl, b6⟩)
    go_ret
    exact ⟨rfl, b6⟩
end Go.Proofs.YtcffmdimfmpheaaDoor
