/- Contract of Plan. -/
import Derived.Test.YtokigpmkhkldkaaNeed
namespace Go.Proofs.Ytokigpmkhkldkaa
open Go.RowKit

theorem cz_cons (c : Nat) (cs : List Nat) : cz (c :: cs) = (c : Int) :: cz cs := rfl
theorem exA_v {os ts : List Int} (h : V os ts) : exA os ts = exL os ts := if_pos h.1
theorem lkA_v {os ts : List Int} (h : V os ts) : lkA os ts = lkL os ts := if_pos h.1

/-- What a teller tells. -/
theorem told_any {w : World} {B : Nat} {xs : List Int} (h : Tl w B xs) (hn : xs.length ≤ 100000) :
    Calls Try.prog 31 #[.pointer (some ⟨B, 0, none⟩)] w fun e w' => ∃ z t, e = .returned (.tuple #[.int .i64 z, .bool t]) ∧ Hid (z = xs.headD 0 ∧ t = decide (0 < xs.length)) ∧ Tl w' B xs.tail ∧ Told B w w' :=
  (tell_any h hn).mono (fun _ _ ⟨h1, h2, h3⟩ => ⟨_, _, h1, ⟨rfl, rfl⟩, h2, h3⟩)

theorem grownM1_any {w : World} {xa : Option Addr} {xc : Nat} {ms : List (Int × Int × Int)} (hx : MV w xa ms) (hc : ms.length ≤ xc) (hn : ms.length ≤ 99999) (p q r : Int) :
    Calls Try.prog 28 #[.slice xa ms.length xc, .slice (some ⟨w.heap.size, 0, none⟩) 1 1] (w.alloc (.cells #[.int .i64 p, .int .i64 q, .int .i64 r] 40)) fun e w' => ∃ a c, e = .returned (.slice a (ms ++ [(p, q, r)]).length c) ∧ MV w' a (ms ++ [(p, q, r)]) ∧ (ms ++ [(p, q, r)]).length ≤ c ∧ Below w.heap.size w w' := by
  have G := grownM_any (ns := [(p, q, r)]) (yc := 1) (hx.alloc (.cells #[.int .i64 p, .int .i64 q, .int .i64 r] 40)) hc (mv_one w p q r 40) (by simp; omega)
  exact G.mono (fun e w' ⟨a, c, h1, h2, h3, h4⟩ => ⟨a, c, h1, h2, h3, ((Below.refl _ _).alloc (Nat.le_refl _) _).trans (h4.mono (by simp))⟩)

/-- How many are in the box; is there a current one? -/
def boxLen (w : World) (B : Nat) : Nat := match w.cell? ⟨B, 0, none⟩ with
  | some (.slice _ n _) => n
  | _ => 0
def tv : Value → Nat
  | .bool true => 1
  | _ => 0
theorem Tl.boxLen {w : World} {B : Nat} {xs : List Int} (h : Tl w B xs) : boxLen w B = xs.length := by
  obtain ⟨a, c, h1, _⟩ := h
  unfold Ytokigpmkhkldkaa.boxLen
  rw [h1]
theorem meas {w3 wr : World} {B1 : Nat} {cs : List Nat} {q : Bool} (t3 : Tl w3 B1 (cz cs).tail) (hq : q = decide (0 < (cz cs).length)) (hB : boxLen wr B1 = cs.length) : boxLen w3 B1 + tv (.bool q) < boxLen wr B1 + tv (.bool true) := by
  rw [t3.boxLen, hB, hq]
  cases cs with
  | nil => decide
  | cons c cs =>
    rw [cz_cons, List.tail_cons, cz_len]
    simp [tv]
/-- What the loop keeps. -/
def Lp (os : List Int) (L : List (Int × Int × Int)) (B1 B2 : Nat) (w wr : World) (z : Int) (t : Bool) (a : Option Addr) (n c : Nat) : Prop :=
  ∃ (cs : List Nat) (ps : List Int) (acc : List (Int × Int × Int)), (z = (cz cs).headD 0 ∧ t = decide (0 < (cz cs).length)) ∧ n = acc.length ∧ MV wr a acc ∧ acc.length ≤ c ∧ Tl wr B1 (cz cs).tail ∧ Tl wr B2 ps ∧ acc ++ mk os cs ps = L ∧ (∀ x ∈ cs, x < os.length) ∧ acc.length + cs.length ≤ 5000 ∧ ps.length ≤ 5000 ∧ Below w.heap.size w wr

section
variable {w : World} {xa ya : Option Addr} {xc yc : Nat} {os ts : List Int}

set_option maxHeartbeats 4000000 in
theorem plan_any (hx : IX w xa os) (hy : IX w ya ts) (hzt : Sz ts) (ot : OkX ts) :
    Calls Try.prog 11 #[.slice xa os.length xc, .slice ya ts.length yc] w fun e w' => ∃ a c, e = .returned (.slice a (planA os ts).length c) ∧ MV w' a (planA os ts) ∧ (planA os ts).length ≤ c ∧ Below w.heap.size w w' := by
  have A := ask_any (xc := xc) (yc := yc) hx hy hzt
  cases hg : rightB os ts
  · have h1 : planA os ts = [] := if_neg (fun h => by rw [hg] at h; exact absurd h.1 (by decide))
    rw [h1]
    rw [hg] at A
    clear hg h1
    go_enter Try.func11, Try.ntmps11
    go_wp2_with (first | (go_at_call 23; (with_reducible refine A.mono ?_); rintro e w2 ⟨rfl, b2⟩))
    go_ret
    exact ⟨none, 0, rfl, MV.nil _ _, Nat.le_refl _, b2⟩
  rw [hg] at A
  obtain ⟨t0, hgood⟩ := right_iff.1 hg
  obtain ⟨g1, g2, g3, g4⟩ := good_iff.1 hgood
  have E := fun W (h : Below w.heap.size w W) => enough_any (yc := yc) (hy.below h) ot hzt t0 (os.length : Int) ⟨by omega, by omega⟩
  cases he : enB (os.length : Int) ts
  · have h1 : planA os ts = [] := if_neg (fun h => by rw [he] at h; exact absurd h.2 (by decide))
    rw [h1]
    rw [he] at E
    clear hg h1 g2 g3 g4 hgood he
    go_enter Try.func11, Try.ntmps11
    go_wp2_with (first
      | (go_at_call 23; (with_reducible refine A.mono ?_); rintro e w2 ⟨rfl, b2⟩)
      | (go_at_call 24; (with_reducible refine (E _ b2).mono ?_); rintro e w3 ⟨rfl, b3⟩))
    go_ret
    exact ⟨none, 0, rfl, MV.nil _ _, Nat.le_refl _, below2 b2 b2.size b3⟩
  rw [he] at E
  have hV : V os ts := ⟨hg, he⟩
  rw [planA_v hV]
  have hts : ts.length ≤ 64 := hV.good.2.1
  have hex : ∀ i, i < (exL os ts).length → 0 ≤ ix (exL os ts) i := fun i hi => by
    rw [exL_len] at hi
    rw [ix_exL hi]
    exact exI_nn i
  have hlk : ∀ i, i < (lkL os ts).length → 0 ≤ ix (lkL os ts) i ∧ ix (lkL os ts) i ≤ 64 := fun i hi => by
    rw [lkL_len] at hi
    rw [ix_lkL hi]
    exact hV.lk_bd hi
  have N := fun W (h : Below w.heap.size w W) => need_any (xc := xc) (yc := yc) (hx.below h) (hy.below h) hzt ot
  rw [exA_v hV, lkA_v hV] at N
  have G := fun W (h : Below w.heap.size w W) a c (ha : IX W a (exL os ts)) => going_any (xc := xc) (yc := c) (hx.below h) g1 ha (by rw [exL_len]; omega) hex
  have P := fun W a c (ha : IX W a (lkL os ts)) => places_any (xc := c) ha (by rw [lkL_len]; omega) hlk
  have hgo := goC_spec os (exL os ts) ts.length
  have hlen1 := goC_len_le (os := os) (exL os ts) g1 ts.length
  have hlen2 := plC_len_le hlk ts.length (by rw [lkL_len]; exact Nat.le_refl _)
  have hpl : mk os (goC os (exL os ts) ts.length) (plC (lkL os ts) ts.length) = planL os ts := rfl
  rw [exL_len] at G
  rw [lkL_len] at P
  have hL : Hid ((∀ x ∈ goC os (exL os ts) ts.length, x < os.length) ∧ (goC os (exL os ts) ts.length).length ≤ 5000 ∧ (plC (lkL os ts) ts.length).length ≤ 5000 ∧ mk os (goC os (exL os ts) ts.length) (plC (lkL os ts) ts.length) = planL os ts) := ⟨fun x hx => (hgo.2 x hx).1, by omega, by omega, hpl⟩
  clear hgo hlen1 hlen2 hpl hex hlk hV hg he g2 g3 g4 hgood
  generalize goC os (exL os ts) ts.length = CS at *
  generalize plC (lkL os ts) ts.length = PS at *
  have TE := fun W a c (xs : List Int) (h : IX W a xs) (hc : xs.length ≤ c) => teller_any (xc := c) h hc
  go_enter Try.func11, Try.ntmps11
  go_wp2_with (first
    | (go_at_call 23; (with_reducible refine A.mono ?_); rintro e w2 ⟨rfl, b2⟩)
    | (go_at_call 24; (with_reducible refine (E _ b2).mono ?_); rintro e w3 ⟨rfl, b3'⟩; have b3 := below2 b2 b2.size b3')
    | (go_at_call 16; (with_reducible refine (N _ b3).mono ?_); rintro e w4 ⟨na, nc, nb, nd, rfl, hnd⟩; obtain ⟨⟨nx, nl, _⟩, ⟨ny, nm, _⟩, _, b4'⟩ := hnd; rw [exL_len, lkL_len]; have b4 := below2 b3 b3.size b4')
    | (go_at_call 26; (with_reducible refine (G _ b4 _ _ nx).mono ?_); rintro e w5 ⟨ga, gc, rfl, gx, gl, b5'⟩; have b5 := below2 b4 b4.size b5')
    | (go_at_call 25; (with_reducible refine (TE _ _ _ _ gx gl).mono ?_); rintro e w6 ⟨rfl, t6, b6', l6⟩; have b6 := below2 b5 b5.size b6')
    | (go_at_call 27; (with_reducible refine (P _ _ _ ((ny.below b5').below b6')).mono ?_); rintro e w7 ⟨pa, pc, rfl, px, pl, b7'⟩; have b7 := below2 b6 b6.size b7')
    | (go_at_call 25; (with_reducible refine (TE _ _ _ _ px pl).mono ?_); rintro e w8 ⟨rfl, t8, b8', l8⟩; have b8 := below2 b7 b7.size b8'))
  have t6' : Tl w8 w5.heap.size (cz CS) := (t6.below b7').below b8'
  have hBB : Hid (w5.heap.size ≠ w7.heap.size ∧ w.heap.size ≤ w5.heap.size ∧ w.heap.size ≤ w7.heap.size) := ⟨by have := b7'.size; omega, b5.size, b7.size⟩
  have hb8 : Below w.heap.size w w8 := b8
  clear b2 b3 b3' b4 b4' b5 b5' b6 b6' b7 b7' b8 b8' l6 l8 t6 gx gl px pl nx ny nl nm N G P A E TE
  generalize w5.heap.size = B1 at *
  generalize w7.heap.size = B2 at *
  refine (told_any t6' (by have := hL.out.2.1; rw [cz_len]; omega)).mono ?_
  rintro e w9 ⟨z, t, rfl, hz, t9, h9⟩
  have hb9 : Below w.heap.size w w9 := hb8.trans (h9.below hBB.out.2.1)
  have hLp : Lp os (planL os ts) B1 B2 w w9 z t none 0 0 := ⟨CS, PS, [], hz.out, rfl, MV.nil _ _, Nat.le_refl _, t9, h9.tl (fun e => hBB.out.1 e.symm) t8, hL.out.2.2.2, hL.out.1, by have := hL.out.2.1; simp; omega, hL.out.2.2.1, hb9⟩
  clear hz t9 h9 hb9 hb8 t8 t6' hL
  go_wp2_with fail
  go_loopw [10, 11, 7] (fun v1 v2 v3 wr => ∃ z t a n c, v1 = .int .i64 z ∧ v2 = .bool t ∧ v3 = .slice a n c ∧ Lp os (planL os ts) B1 B2 w wr z t a n c) (fun _ v2 _ wr => boxLen wr B1 + tv v2)
  case atStart => exact ⟨z, t, none, 0, 0, rfl, rfl, rfl, hLp⟩
  case round =>
    clear hLp
    obtain ⟨z, t, a, n, c, rfl, rfl, rfl, cs, ps, acc, ⟨hz, htt⟩, rfl, hmv, hac, tl1, tl2, hacc, hcs, hsz, hpz, hb⟩ := hrel
    cases cs with
    | nil =>
      obtain rfl : t = false := htt
      have hfin : Hid (acc = planL os ts) := by rw [mk, List.append_nil] at hacc; exact hacc
      clear hacc hz
      go_wp2_with fail
      go_ret
      exact ⟨a, c, by rw [← hfin.out]; rfl, by rw [← hfin.out]; exact hmv, by rw [← hfin.out]; exact hac, hb⟩
    | cons k cs =>
      obtain rfl : t = true := htt
      obtain rfl : z = (k : Int) := hz
      have hk : k < os.length := hcs k (List.mem_cons_self ..)
      have hk' : (k : Int) < (os.length : Int) := by omega
      obtain ⟨b, o, rfl, c0⟩ := hx.below hb k hk
      have hcs' : Hid (∀ x ∈ cs, x < os.length) := fun x hx => hcs x (List.mem_cons_of_mem _ hx)
      have tl1' : Tl wr B1 (cz cs) := tl1
      have hBL : Hid (boxLen wr B1 = cs.length) := by rw [tl1'.boxLen, cz_len]; exact rfl
      have hsz2 : acc.length + (cs.length + 1) ≤ 5000 := hsz
      have T2 := told_any tl2 (by omega)
      have hm : Hid (mk os (k :: cs) ps = if ix os k = ps.headD 0 then mk os cs ps.tail else ((k : Int), ix os k, ps.headD 0) :: mk os cs ps.tail) := by unfold Hid; rw [mk]
      have hacc' : Hid (acc ++ mk os (k :: cs) ps = planL os ts) := hacc
      have hpt : Hid (ps.tail.length ≤ 5000) := by unfold Hid; rw [List.length_tail]; omega
      clear hcs hacc tl1 hsz
      obtain ⟨pt, hpt2⟩ : ∃ pt, Hid (pt = ps.headD 0) := ⟨_, rfl⟩
      by_cases he : ix os k = pt
      · have hm2 : Hid (acc ++ mk os cs ps.tail = planL os ts) := by unfold Hid; rw [← hacc'.out, hm.out, if_pos (by rw [he]; exact hpt2.out)]
        rw [he] at c0
        clear he hm hacc'
        go_wp2_with (first
          | (go_at_call 31; (with_reducible refine T2.mono ?_); rintro e w2 ⟨z2, q2, rfl, hz2, t2, h2⟩; obtain rfl : z2 = pt := (by rw [hpt2.out]; exact hz2.out.1); have c2 := h2.cell c0; have T1 := told_any (h2.tl hBB.out.1 tl1') (by rw [cz_len]; omega))
          | (go_at_call 31; (with_reducible refine T1.mono ?_); rintro e w3 ⟨z3, q3, rfl, hz3, t3, h3⟩))
        go_roundw
        case rel =>
          exact ⟨z3, q3, a, acc.length, c, rfl, rfl, rfl, cs, ps.tail, acc, hz3.out, rfl, h3.mv (h2.mv hmv), hac, t3, h3.tl (fun e => hBB.out.1 e.symm) t2, hm2.out, hcs'.out, by omega, hpt.out, (hb.trans (h2.below hBB.out.2.2)).trans (h3.below hBB.out.2.1)⟩
        case measure => exact meas t3 hz3.out.2 hBL.out
      · have hm2 : Hid ((acc ++ [((k : Int), ix os k, pt)]) ++ mk os cs ps.tail = planL os ts) := by
          unfold Hid
          rw [← hacc'.out, hm.out, if_neg (by rw [← hpt2.out]; exact he), ← hpt2.out]
          simp
        have hne : (ix os k != pt) = true := by simpa using he
        have hGM := fun W (h : MV W a acc) => grownM1_any (xc := c) h hac (by omega) (k : Int) (ix os k) pt
        have hn2 : Hid ((acc ++ [((k : Int), ix os k, pt)]).length + cs.length ≤ 5000) := by unfold Hid; rw [List.length_append]; simp; omega
        generalize hF : acc ++ [((k : Int), ix os k, pt)] = F at *
        clear he hm hacc' hF
        generalize ix os k = f at *
        go_wp2_with (first
          | (go_at_call 31; (with_reducible refine T2.mono ?_); rintro e w2 ⟨z2, q2, rfl, hz2, t2, h2⟩; obtain rfl : z2 = pt := (by rw [hpt2.out]; exact hz2.out.1); have c2 := h2.cell c0)
          | (go_at_call 28; (with_reducible refine (hGM _ (h2.mv hmv)).mono ?_); rintro e w4 ⟨a4, c4, rfl, m4, l4, b4⟩; have T1 := told_any ((h2.tl hBB.out.1 tl1').below b4) (by rw [cz_len]; omega))
          | (go_at_call 31; (with_reducible refine T1.mono ?_); rintro e w3 ⟨z3, q3, rfl, hz3, t3, h3⟩))
        go_roundw
        case rel =>
          exact ⟨z3, q3, a4, F.length, c4, rfl, rfl, rfl, cs, ps.tail, F, hz3.out, rfl, h3.mv m4, l4, t3, h3.tl (fun e => hBB.out.1 e.symm) (t2.below b4), hm2.out, hcs'.out, hn2.out, hpt.out, (below2 (hb.trans (h2.below hBB.out.2.2)) (by rw [h2.size]; exact hb.size) b4).trans (h3.below hBB.out.2.1)⟩
        case measure => exact meas t3 hz3.out.2 hBL.out
end
end Go.Proofs.Ytokigpmkhkldkaa
