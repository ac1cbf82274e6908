/- The contract of the reference's Parted: its loop. -/
import Derived.Test.YtdfccjhmpgoacaaNPartS
import Derived.Test.YtdfccjhmpgoacaaNPartE
namespace Go.Proofs.Ytdfccjhmpgoacaa.Big
open Go.RowKit

theorem div_bd {N B : Int} (m : Nat) (hN : 0 ≤ N) (hB : 0 < B) : 0 ≤ N / p2 m / B ∧ N / p2 m / B ≤ N ∧ 0 ≤ N / p2 m % B ∧ N / p2 m % B < B := by
  have h1 : 0 ≤ N / p2 m := Int.ediv_nonneg hN (Int.le_of_lt (p2_pos m))
  have h2 : N / p2 m ≤ N := Int.ediv_le_self _ hN
  have h3 : N / p2 m / B ≤ N / p2 m := Int.ediv_le_self _ h1
  exact ⟨Int.ediv_nonneg h1 (by omega), by omega, Int.emod_nonneg _ (by omega), Int.emod_lt_of_pos _ hB⟩
theorem big_lt {V : Int} {n : Nat} (h0 : 0 ≤ V) (h1 : V < pw n) (hn : n ≤ 1000) : absI V < pw 1000 := by
  have := pw_le hn
  unfold absI; rw [if_neg (by omega)]; omega
theorem big_lt2 {V U : Int} {n : Nat} (h0 : 0 ≤ V) (h : V ≤ 2 * U + 1) (h1 : U < pw n) (hn : n + 1 ≤ 1000) : absI V < pw 1000 := by
  have h2 := pw_le hn
  have h3 := pw_pos n
  rw [pw_succ] at h2
  unfold absI; rw [if_neg (by omega)]; omega

theorem abs_neg' (V : Int) : absI (-V) = absI V := by unfold absI; split <;> split <;> omega
section
variable {w W : World} {na nb nq : Bool} {oa ob oq : Option Addr} {la ca lb cb lq cq : Nat} {V U Qf : Int}
theorem s14_wa (h : W.cell? ⟨w.heap.size, 0, none⟩ = some (.bool na) ∧ W.cell? ⟨w.heap.size, 1, none⟩ = some (.slice oa la ca) ∧ W.cell? ⟨w.heap.size + 1, 0, none⟩ = some (.bool nb) ∧ W.cell? ⟨w.heap.size + 1, 1, none⟩ = some (.slice ob lb cb) ∧ W.cell? ⟨w.heap.size + 1 + 1 + 1 + 1, 0, none⟩ = some (.bool nq) ∧ W.cell? ⟨w.heap.size + 1 + 1 + 1 + 1, 1, none⟩ = some (.slice oq lq cq) ∧ G14 w W na nb nq oa ob oq la ca lb cb lq cq V U Qf) : Wd W (.agg #[.bool na, .slice oa la ca]) V := (s14_g h).1
theorem s14_wb (h : W.cell? ⟨w.heap.size, 0, none⟩ = some (.bool na) ∧ W.cell? ⟨w.heap.size, 1, none⟩ = some (.slice oa la ca) ∧ W.cell? ⟨w.heap.size + 1, 0, none⟩ = some (.bool nb) ∧ W.cell? ⟨w.heap.size + 1, 1, none⟩ = some (.slice ob lb cb) ∧ W.cell? ⟨w.heap.size + 1 + 1 + 1 + 1, 0, none⟩ = some (.bool nq) ∧ W.cell? ⟨w.heap.size + 1 + 1 + 1 + 1, 1, none⟩ = some (.slice oq lq cq) ∧ G14 w W na nb nq oa ob oq la ca lb cb lq cq V U Qf) : Wd W (.agg #[.bool nb, .slice ob lb cb]) U := (s14_g h).2.1
theorem s14_wq (h : W.cell? ⟨w.heap.size, 0, none⟩ = some (.bool na) ∧ W.cell? ⟨w.heap.size, 1, none⟩ = some (.slice oa la ca) ∧ W.cell? ⟨w.heap.size + 1, 0, none⟩ = some (.bool nb) ∧ W.cell? ⟨w.heap.size + 1, 1, none⟩ = some (.slice ob lb cb) ∧ W.cell? ⟨w.heap.size + 1 + 1 + 1 + 1, 0, none⟩ = some (.bool nq) ∧ W.cell? ⟨w.heap.size + 1 + 1 + 1 + 1, 1, none⟩ = some (.slice oq lq cq) ∧ G14 w W na nb nq oa ob oq la ca lb cb lq cq V U Qf) : Wd W (.agg #[.bool nq, .slice oq lq cq]) Qf := (s14_g h).2.2.1
theorem s14_box (h : W.cell? ⟨w.heap.size, 0, none⟩ = some (.bool na) ∧ W.cell? ⟨w.heap.size, 1, none⟩ = some (.slice oa la ca) ∧ W.cell? ⟨w.heap.size + 1, 0, none⟩ = some (.bool nb) ∧ W.cell? ⟨w.heap.size + 1, 1, none⟩ = some (.slice ob lb cb) ∧ W.cell? ⟨w.heap.size + 1 + 1 + 1 + 1, 0, none⟩ = some (.bool nq) ∧ W.cell? ⟨w.heap.size + 1 + 1 + 1 + 1, 1, none⟩ = some (.slice oq lq cq) ∧ G14 w W na nb nq oa ob oq la ca lb cb lq cq V U Qf) : (∃ n o l c, Box W (w.heap.size + 1 + 1) n o l c) ∧ (∃ n o l c, Box W (w.heap.size + 1 + 1 + 1) n o l c) ∧ Loose W (w.heap.size + 1 + 1) ∧ Loose W (w.heap.size + 1 + 1 + 1) := ⟨(s14_g h).2.2.2.1, (s14_g h).2.2.2.2.1, (s14_g h).2.2.2.2.2.1, (s14_g h).2.2.2.2.2.2.1⟩
end
theorem s14_setB {w W : World} {na nb nq : Bool} {oa ob oq : Option Addr} {la ca lb cb lq cq : Nat} {V U Qf : Int} {C : Nat} {n' : Bool} {o' : Option Addr} {l' c' : Nat} (h : W.cell? ⟨w.heap.size, 0, none⟩ = some (.bool na) ∧ W.cell? ⟨w.heap.size, 1, none⟩ = some (.slice oa la ca) ∧ W.cell? ⟨w.heap.size + 1, 0, none⟩ = some (.bool nb) ∧ W.cell? ⟨w.heap.size + 1, 1, none⟩ = some (.slice ob lb cb) ∧ W.cell? ⟨w.heap.size + 1 + 1 + 1 + 1, 0, none⟩ = some (.bool nq) ∧ W.cell? ⟨w.heap.size + 1 + 1 + 1 + 1, 1, none⟩ = some (.slice oq lq cq) ∧ G14 w W na nb nq oa ob oq la ca lb cb lq cq V U Qf) (hC : C = w.heap.size + 1 + 1 ∨ C = w.heap.size + 1 + 1 + 1) : ((W.setCell ⟨C, 0, none⟩ (.bool n')).setCell ⟨C, 1, none⟩ (.slice o' l' c')).cell? ⟨w.heap.size, 0, none⟩ = some (.bool na) ∧ ((W.setCell ⟨C, 0, none⟩ (.bool n')).setCell ⟨C, 1, none⟩ (.slice o' l' c')).cell? ⟨w.heap.size, 1, none⟩ = some (.slice oa la ca) ∧ ((W.setCell ⟨C, 0, none⟩ (.bool n')).setCell ⟨C, 1, none⟩ (.slice o' l' c')).cell? ⟨w.heap.size + 1, 0, none⟩ = some (.bool nb) ∧ ((W.setCell ⟨C, 0, none⟩ (.bool n')).setCell ⟨C, 1, none⟩ (.slice o' l' c')).cell? ⟨w.heap.size + 1, 1, none⟩ = some (.slice ob lb cb) ∧ ((W.setCell ⟨C, 0, none⟩ (.bool n')).setCell ⟨C, 1, none⟩ (.slice o' l' c')).cell? ⟨w.heap.size + 1 + 1 + 1 + 1, 0, none⟩ = some (.bool nq) ∧ ((W.setCell ⟨C, 0, none⟩ (.bool n')).setCell ⟨C, 1, none⟩ (.slice o' l' c')).cell? ⟨w.heap.size + 1 + 1 + 1 + 1, 1, none⟩ = some (.slice oq lq cq) ∧ G14 w ((W.setCell ⟨C, 0, none⟩ (.bool n')).setCell ⟨C, 1, none⟩ (.slice o' l' c')) na nb nq oa ob oq la ca lb cb lq cq V U Qf := by
  rcases hC with rfl | rfl
  · exact s14_setX h
  · exact s14_setY h
theorem s14_end {w W : World} {na nb nq : Bool} {oa ob oq : Option Addr} {la ca lb cb lq cq : Nat} {V U Qf : Int} {n' : Bool} {o' : Option Addr} {l' c' : Nat} {Z : Int} (h : W.cell? ⟨w.heap.size, 0, none⟩ = some (.bool na) ∧ W.cell? ⟨w.heap.size, 1, none⟩ = some (.slice oa la ca) ∧ W.cell? ⟨w.heap.size + 1, 0, none⟩ = some (.bool nb) ∧ W.cell? ⟨w.heap.size + 1, 1, none⟩ = some (.slice ob lb cb) ∧ W.cell? ⟨w.heap.size + 1 + 1 + 1 + 1, 0, none⟩ = some (.bool nq) ∧ W.cell? ⟨w.heap.size + 1 + 1 + 1 + 1, 1, none⟩ = some (.slice oq lq cq) ∧ G14 w W na nb nq oa ob oq la ca lb cb lq cq V U Qf) (hz : Wd W (.agg #[.bool n', .slice o' l' c']) Z) :
    ((((W.setCell ⟨w.heap.size + 1 + 1, 0, none⟩ (.bool nq)).setCell ⟨w.heap.size + 1 + 1, 1, none⟩ (.slice oq lq cq)).setCell ⟨w.heap.size + 1 + 1 + 1, 0, none⟩ (.bool n')).setCell ⟨w.heap.size + 1 + 1 + 1, 1, none⟩ (.slice o' l' c')).cell? ⟨w.heap.size + 1 + 1, 0, none⟩ = some (.bool nq) ∧ ((((W.setCell ⟨w.heap.size + 1 + 1, 0, none⟩ (.bool nq)).setCell ⟨w.heap.size + 1 + 1, 1, none⟩ (.slice oq lq cq)).setCell ⟨w.heap.size + 1 + 1 + 1, 0, none⟩ (.bool n')).setCell ⟨w.heap.size + 1 + 1 + 1, 1, none⟩ (.slice o' l' c')).cell? ⟨w.heap.size + 1 + 1, 1, none⟩ = some (.slice oq lq cq) ∧ ((((W.setCell ⟨w.heap.size + 1 + 1, 0, none⟩ (.bool nq)).setCell ⟨w.heap.size + 1 + 1, 1, none⟩ (.slice oq lq cq)).setCell ⟨w.heap.size + 1 + 1 + 1, 0, none⟩ (.bool n')).setCell ⟨w.heap.size + 1 + 1 + 1, 1, none⟩ (.slice o' l' c')).cell? ⟨w.heap.size + 1 + 1 + 1, 0, none⟩ = some (.bool n') ∧ ((((W.setCell ⟨w.heap.size + 1 + 1, 0, none⟩ (.bool nq)).setCell ⟨w.heap.size + 1 + 1, 1, none⟩ (.slice oq lq cq)).setCell ⟨w.heap.size + 1 + 1 + 1, 0, none⟩ (.bool n')).setCell ⟨w.heap.size + 1 + 1 + 1, 1, none⟩ (.slice o' l' c')).cell? ⟨w.heap.size + 1 + 1 + 1, 1, none⟩ = some (.slice o' l' c') ∧ Wd ((((W.setCell ⟨w.heap.size + 1 + 1, 0, none⟩ (.bool nq)).setCell ⟨w.heap.size + 1 + 1, 1, none⟩ (.slice oq lq cq)).setCell ⟨w.heap.size + 1 + 1 + 1, 0, none⟩ (.bool n')).setCell ⟨w.heap.size + 1 + 1 + 1, 1, none⟩ (.slice o' l' c')) (.agg #[.bool nq, .slice oq lq cq]) Qf ∧ Wd ((((W.setCell ⟨w.heap.size + 1 + 1, 0, none⟩ (.bool nq)).setCell ⟨w.heap.size + 1 + 1, 1, none⟩ (.slice oq lq cq)).setCell ⟨w.heap.size + 1 + 1 + 1, 0, none⟩ (.bool n')).setCell ⟨w.heap.size + 1 + 1 + 1, 1, none⟩ (.slice o' l' c')) (.agg #[.bool n', .slice o' l' c']) Z ∧ Below w.heap.size w ((((W.setCell ⟨w.heap.size + 1 + 1, 0, none⟩ (.bool nq)).setCell ⟨w.heap.size + 1 + 1, 1, none⟩ (.slice oq lq cq)).setCell ⟨w.heap.size + 1 + 1 + 1, 0, none⟩ (.bool n')).setCell ⟨w.heap.size + 1 + 1 + 1, 1, none⟩ (.slice o' l' c')) := by
  obtain ⟨a0, a1, b0, b1, q0, q1, wa, wb, wq, ⟨n, o, l, c, bx⟩, ⟨m, p, k, d, by_⟩, fx, fy, sz, kk⟩ := h
  have bx1 := bx.put (n' := nq) (o' := oq) (l' := lq) (c' := cq)
  have by1 : Box ((W.setCell ⟨w.heap.size + 1 + 1, 0, none⟩ (.bool nq)).setCell ⟨w.heap.size + 1 + 1, 1, none⟩ (.slice oq lq cq)) (w.heap.size + 1 + 1 + 1) m p k d := by_.other (by omega)
  have bx2 := bx1.other (B := w.heap.size + 1 + 1 + 1) (u := .bool n') (v := .slice o' l' c') (by omega)
  have by2 := by1.put (n' := n') (o' := o') (l' := l') (c' := c')
  exact ⟨bx2.1, bx2.2, by2.1, by2.2, (wq.set2' bx.1 bx.2).set2' by1.1 by1.2, (hz.set2' bx.1 bx.2).set2' by1.1 by1.2, (((kk.setCell (by simp; omega) _).setCell (by simp; omega) _).setCell (by simp; omega) _).setCell (by simp; omega) _⟩
theorem s14_of {w W : World} {T : Nat} {na nb nq nr : Bool} {oa ob oq orr ot : Option Addr} {ca cb lq cq lr cr lt ct : Nat} {ds es : List Int} {Qf R V U : Int} (h : PD w W T na nb nq nr oa ob oq orr ot ca cb lq cq lr cr lt ct ds es Qf R) (wa : Wd w (.agg #[.bool na, .slice oa ds.length ca]) V) (wb : Wd w (.agg #[.bool nb, .slice ob es.length cb]) U) : W.cell? ⟨w.heap.size, 0, none⟩ = some (.bool na) ∧ W.cell? ⟨w.heap.size, 1, none⟩ = some (.slice oa ds.length ca) ∧ W.cell? ⟨w.heap.size + 1, 0, none⟩ = some (.bool nb) ∧ W.cell? ⟨w.heap.size + 1, 1, none⟩ = some (.slice ob es.length cb) ∧ W.cell? ⟨w.heap.size + 1 + 1 + 1 + 1, 0, none⟩ = some (.bool nq) ∧ W.cell? ⟨w.heap.size + 1 + 1 + 1 + 1, 1, none⟩ = some (.slice oq lq cq) ∧ G14 w W na nb nq oa ob oq ds.length ca es.length cb lq cq V U Qf :=
  ⟨h.ba.1, h.ba.2, h.bb.1, h.bb.2, h.bq.1, h.bq.2, wa.below h.kk, wb.below h.kk, h.wq, ⟨_, _, _, _, h.bx⟩, ⟨_, _, _, _, h.by_⟩, h.fx, h.fy, by have := h.tt; have := h.sz; omega, h.kk⟩

set_option maxHeartbeats 4000000 in
theorem parted_core (na nb : Bool) (oa ob : Option Addr) (ca cb : Nat) (ds es : List Int) (w : World) (ra : Row w (.slice oa ds.length ca) ds) (rb : Row w (.slice ob es.length cb) es) (da : Dig ds) (db : Dig es) (la : ds.length ≤ 500) (lb : es.length ≤ 500) (hB : 0 < val es) (cne : Canon es) (V U : Int) (wa : Wd w (.agg #[.bool na, .slice oa ds.length ca]) V) (wb : Wd w (.agg #[.bool nb, .slice ob es.length cb]) U) (bV : absI V < pw 500) (bU : absI U < pw 500) :
    Calls Try.prog 39 #[.agg #[.bool na, .slice oa ds.length ca], .agg #[.bool nb, .slice ob es.length cb]] w fun e w' => ∃ v1 v2, e = .returned (.tuple #[v1, v2]) ∧ Wd w' v1 (partQ na nb (val ds) (val es)) ∧ Wd w' v2 (V + -(partQ na nb (val ds) (val es) * U)) ∧ Below w.heap.size w w' := by
  have hN0 := val_nonneg da
  have hN1 : val ds < pw 500 := by have h1 := val_lt da; have h2 := pw_le la; omega
  have hB1 : val es < pw 500 := by have h1 := val_lt db; have h2 := pw_le lb; omega
  have HN0 := Hid.mk hN0
  have HN1 := Hid.mk hN1
  have HB1 := Hid.mk hB1
  have HB := Hid.mk hB
  clear hN0 hN1 hB1 hB
  go_enter Try.func39, Try.ntmps39
  go_wp2_with fail
  refine (of_any 2 _ (by omega) (by omega)).mono ?_
  rintro e w1 ⟨x2, rfl, hx2, b1⟩
  obtain ⟨s2, d2, rfl, r2, dg2, cn2, v2⟩ := id hx2
  obtain ⟨ot, ct, rfl, -, -, -, -⟩ := id r2
  have hd2 : decide ((2 : Int) < 0) = false := rfl
  rw [hd2] at hx2 ⊢
  have hPD0 := pd_start (na := na) (nb := nb) ra rb b1 hx2
  have hlen : w.heap.size < w1.heap.size := by have := b1.size; simp at this; omega
  have hk1 : w1.cell? ⟨w.heap.size, 1, none⟩ = some (.slice oa ds.length ca) := by rw [(bcell b1).1 _ _ (by simp; omega)]; simp [go_sem, World.cell?_alloc_past]
  clear b1 hx2 r2 v2
  go_wp2_with fail
  obtain ⟨T, hT⟩ : ∃ T, Hid (w1.heap.size = T) := ⟨_, rfl⟩
  rw [hT.out] at hPD0 ⊢
  clear hk1 hlen
  generalize w1.alloc (.cells #[.bool false, .slice ot d2.length ct] 44) = W2 at *
  go_loopw [9] (fun i wr => ∃ (k : Nat) (nq nr : Bool) (oq orr : Option Addr) (lq cq lr cr : Nat) (Q R : Int), k ≤ 16 * ds.length ∧ i = .int .i64 ((k : Int) - 1) ∧ PD w wr T na nb nq nr oa ob oq orr ot ca cb lq cq lr cr d2.length ct ds es Q R ∧ Hid (Q = val ds / p2 k / val es) ∧ Hid (R = val ds / p2 k % val es)) (fun i _ => (intOf i + 1).toNat)
  case atStart =>
    have h : val ds / p2 (16 * ds.length) = 0 := by rw [← pw_p2]; exact Int.ediv_eq_zero_of_lt HN0.out (val_lt da)
    exact ⟨16 * ds.length, _, _, _, _, _, _, _, _, _, _, Nat.le_refl _, by go_num, hPD0, by unfold Hid; rw [h]; simp, by unfold Hid; rw [h]; simp⟩
  case round =>
    obtain ⟨k, nq, nr, oq, orr, lq, cq, lr, cr, Q, R, hk, rfl, hPD, hQ, hR⟩ := hrel
    have hdb := div_bd k HN0.out HB.out
    rw [← hQ.out, ← hR.out] at hdb
    by_cases h0 : 0 < k
    · obtain ⟨m, rfl⟩ : ∃ m, k = m + 1 := ⟨k - 1, by omega⟩
      have em : ((m + 1 : Nat) : Int) - 1 = (m : Int) := by omega
      rw [em]
      clear em
      have hst := part_step (m := m) HB.out hQ.out hR.out
      have hbt := bit_bd (val ds) m
      have bR : absI R < pw 1000 := big_lt (by omega) (Int.lt_trans hdb.2.2.2 HB1.out) (by omega)
      have bQ : absI Q < pw 1000 := big_lt (by omega) (Int.lt_of_le_of_lt hdb.2.1 HN1.out) (by omega)
      have bR2 : absI (R * 2) < pw 1000 := big_lt2 (U := R) (by omega) (by omega) (Int.lt_trans hdb.2.2.2 HB1.out) (by omega)
      have bb : absI (bitI (val ds) m) < pw 1000 := big_of (by omega) (by omega)
      have b22 : absI 2 < pw 1000 := big_of (by omega) (by omega)
      obtain ⟨bt, hbt'⟩ : ∃ bt, Hid (bitI (val ds) m = bt) := ⟨_, rfl⟩
      have hbit := fun W (h : Row W (.slice oa ds.length ca) ds) => rbit_any _ ds m W h da (by omega) (by omega)
      rw [hbt'.out] at hst hbt bb hbit
      have HST := Hid.mk hst
      have HBIT := Hid.mk hbit
      have hwb : IntKind.i64.wrap bt = bt := by rw [IntKind.wrap_i64]; omega
      clear hst hbit
      have hPDd := hPD.drew
      obtain ⟨a0, a1⟩ := hPD.ba
      obtain ⟨t0, t1⟩ := hPD.bt
      obtain ⟨r0, r1⟩ := hPD.br
      go_upto_region 6 with fail
      go_cut [] from 18 to 31 (fun wx => ∃ (nr' : Bool) (orr' : Option Addr) (lr' cr' : Nat), PD w wx T na nb nq nr' oa ob oq orr' ot ca cb lq cq lr' cr' d2.length ct ds es Q (R * 2 + bt))
      case first =>
        go_region_with (first
          | (go_at_call 40; refine (wtimes_any _ _ R 2 _ hPDd.wr hPDd.wt bR b22).mono ?_; rintro e w2 ⟨x24, rfl, hx24, b24⟩; have hP1 := hPDd.step b24; obtain ⟨a0', a1'⟩ := hP1.ba; clear b24)
          | (go_at_call 56; refine (HBIT.out _ hP1.ra).mono ?_; rintro e w3 ⟨rfl, hw3⟩; rw [hw3]; clear hw3 w3)
          | (go_at_call 26; refine (of_any bt _ (by omega) (by omega)).mono ?_; rintro e w4 ⟨x30, rfl, hx30, b30⟩; have hP2 := hP1.step b30; have hx24' := hx24.below b30; clear b30)
          | (go_at_call 25; refine (wplus_any x24 x30 (R * 2) bt _ hx24' hx30 bR2 bb).mono ?_; rintro e w5 ⟨x31, rfl, hx31, b31⟩; have hP3 := hP2.step b31; obtain ⟨s31, d31, rfl, r31, dg31, cn31, v31⟩ := id hx31; obtain ⟨o31, c31, rfl, -, -, -, -⟩ := id r31; obtain ⟨n31, hn31⟩ : ∃ n31, Hid (decide (R * 2 + bt < 0) = n31) := ⟨_, rfl⟩; rw [hn31.out] at hx31 ⊢; obtain ⟨g0, g1⟩ := hP3.br; obtain ⟨f0, f1⟩ := hP3.fr; clear b31))
        all_goals
          have hfin := hP3.setr hx31
          clear hPD hPDd hP1 hP2 hP3 hx24 hx24' hx30 hx31
          go_wp2_with fail
          go_meet
          case rel => exact ⟨_, _, _, _, hfin⟩
      case rest =>
        obtain ⟨nr, orr, lr, cr, hP6⟩ := hcut
        clear hPD hPDd a0 a1 t0 t1 r0 r1
        have HR6 : Hid (0 ≤ R * 2 + bt) := by unfold Hid; omega
        obtain ⟨t0, t1⟩ := hP6.bt
        obtain ⟨q0, q1⟩ := hP6.bq
        go_upto_region 7 with fail
        go_cut [] from 18 to 50 (fun wx => ∃ (nq' : Bool) (oq' : Option Addr) (lq' cq' : Nat), PD w wx T na nb nq' nr oa ob oq' orr ot ca cb lq' cq' lr cr d2.length ct ds es (Q * 2) (R * 2 + bt))
        case first =>
          go_wp2_with fail
          refine (wtimes_any _ _ Q 2 _ hP6.wq hP6.wt bQ b22).mono ?_
          rintro e w7 ⟨x34, rfl, hx34, b34⟩
          have hP7 := hP6.step b34
          obtain ⟨s34, d34, rfl, r34, dg34, cn34, v34⟩ := id hx34
          obtain ⟨o34, c34, rfl, -, -, -, -⟩ := id r34
          obtain ⟨n34, hn34⟩ : ∃ n34, Hid (decide (Q * 2 < 0) = n34) := ⟨_, rfl⟩
          rw [hn34.out] at hx34 ⊢
          obtain ⟨g0, g1⟩ := hP7.bq
          obtain ⟨f0, f1⟩ := hP7.fq
          have hfin := hP7.setq hx34
          clear hP6 hP7 hx34 b34
          go_wp2_with fail
          go_meet
          case rel => exact ⟨_, _, _, _, hfin⟩
        case rest =>
          obtain ⟨nq, oq, lq, cq, hP7⟩ := hcut
          clear hP6 t0 t1 q0 q1
          obtain ⟨b0, b1⟩ := hP7.bb
          obtain ⟨r0, r1⟩ := hP7.br
          obtain ⟨dr, rfl, -, rr, dgr, cnr, vr⟩ := hP7.wr.parts
          have hvr : val dr = R * 2 + bt := by rw [vr]; unfold absI; rw [if_neg (by omega)]
          have hrow := rr
          have ldr : dr.length ≤ 501 := canon_short dgr cnr (by have h1 := HB1.out; have h2 : pw 501 = pw 500 * 65536 := pw_succ 500; have h3 := pw_pos 500; have h4 := hdb.2.2.2; omega)
          have bQ2 : absI (Q * 2) < pw 1000 := big_lt2 (U := Q) (by omega) (by omega) (Int.lt_of_le_of_lt hdb.2.1 HN1.out) (by omega)
          have HVR := Hid.mk hvr
          clear hvr vr rr
          by_cases hge : val es ≤ R * 2 + bt
          · have hcm : decide (0 ≤ cmpI (val dr) (val es)) = true := by rw [HVR.out]; simp; unfold cmpI; split <;> (try split) <;> omega
            have lbr : es.length ≤ dr.length := by
              have h := @shorter_lt dr es dgr db cne
              rw [HVR.out] at h
              omega
            go_upto_region 8 with fail
            go_wp2_with fail
            refine (rsize_any _ _ dr es _ hrow hP7.rb dgr db cnr cne).mono ?_
            rintro e w8 ⟨rfl, b8⟩
            have hP8 := hP7.step b8
            have hrow8 := hrow.below b8
            clear hP7 b8 b0 b1 r0 r1 hrow
            obtain ⟨b0, b1⟩ := hP8.bb
            obtain ⟨r0, r1⟩ := hP8.br
            go_upto_region 9 with fail
            go_cut [] from 18 to 50 (fun wx => ∃ (nr' : Bool) (orr' : Option Addr) (lr' cr' : Nat), PD w wx T na nb nq nr' oa ob oq orr' ot ca cb lq cq lr' cr' d2.length ct ds es (Q * 2) (R * 2 + bt - val es))
            case first =>
              go_wp2_with fail
              refine (rless_any _ _ dr es _ hrow8 hP8.rb dgr db (by omega) lbr (by rw [HVR.out]; exact hge)).mono ?_
              rintro e w9 ⟨v9, rfl, os, ro, dgo, vo, lo, b9⟩
              have hP9 := hP8.step b9
              obtain ⟨o9, c9, rfl, -, -, -, -⟩ := id ro
              have HTV : Hid (turnI false (val os) = R * 2 + bt - val es) := by unfold Hid; rw [vo, HVR.out]; rfl
              clear hP8 b9 hrow8 vo
              go_wp2_with fail
              refine (trim_any false _ os _ ro dgo).mono ?_
              rw [HTV.out]
              rintro e w10 ⟨v10, rfl, hx10, b10⟩
              have hP10 := hP9.step b10
              obtain ⟨s10, d10, rfl, r10, dg10, cn10, v10⟩ := id hx10
              obtain ⟨o10, c10, rfl, -, -, -, -⟩ := id r10
              obtain ⟨n10, hn10⟩ : ∃ n10, Hid (decide (R * 2 + bt - val es < 0) = n10) := ⟨_, rfl⟩
              rw [hn10.out] at hx10 ⊢
              obtain ⟨g0, g1⟩ := hP10.br
              obtain ⟨f0, f1⟩ := hP10.fr
              have hfin := hP10.setr hx10
              clear hP9 hP10 hx10 b10
              go_wp2_with fail
              go_meet
              case rel => exact ⟨_, _, _, _, hfin⟩
            case rest =>
              obtain ⟨nr, orr, lr, cr, hP10⟩ := hcut
              have HNX : Hid (2 * Q + 1 = val ds / p2 m / val es ∧ 2 * R + bt - val es = val ds / p2 m % val es) := HST.out.2 (by omega)
              clear hP8 b0 b1 r0 r1 hrow8
              have hP10d := hP10.drew
              obtain ⟨q0, q1⟩ := hP10.bq
              go_upto_region 10 with fail
              go_region_with (first
                | (go_at_call 26; refine (of_any 1 _ (by omega) (by omega)).mono ?_; rintro e w11 ⟨x49, rfl, hx49, b49⟩; have hP11 := hP10d.step b49; obtain ⟨q0', q1'⟩ := hP11.bq; clear b49)
                | (go_at_call 25; refine (wplus_any _ x49 (Q * 2) 1 _ hP11.wq hx49 bQ2 (big_of (by omega) (by omega))).mono ?_; rintro e w12 ⟨x50, rfl, hx50, b50⟩; have hP12 := hP11.step b50; obtain ⟨s50, d50, rfl, r50, dg50, cn50, v50⟩ := id hx50; obtain ⟨o50, c50, rfl, -, -, -, -⟩ := id r50; obtain ⟨n50, hn50⟩ : ∃ n50, Hid (decide (Q * 2 + 1 < 0) = n50) := ⟨_, rfl⟩; rw [hn50.out] at hx50 ⊢; obtain ⟨g0, g1⟩ := hP12.bq; obtain ⟨f0, f1⟩ := hP12.fq; clear b50))
              all_goals
                have hfin := hP12.setq hx50
                clear hP10 hP10d hP11 hP12 hx49 hx50
                go_wp2_with fail
                exact ⟨⟨m, _, _, _, _, _, _, _, _, _, _, by omega, rfl, hfin, by unfold Hid; rw [← HNX.out.1]; omega, by unfold Hid; rw [← HNX.out.2]; omega⟩, by simp [intOf]⟩
          · have hcm : decide (0 ≤ cmpI (val dr) (val es)) = false := by rw [HVR.out, cmp_of_lt (by omega)]; rfl
            go_upto_region 8 with fail
            go_wp2_with fail
            refine (rsize_any _ _ dr es _ hrow hP7.rb dgr db cnr cne).mono ?_
            rintro e w8 ⟨rfl, b8⟩
            have hP8 := hP7.step b8
            have HNX : Hid (2 * Q = val ds / p2 m / val es ∧ 2 * R + bt = val ds / p2 m % val es) := HST.out.1 (by omega)
            clear hP7 b8 b0 b1 r0 r1 hrow
            go_wp2_with fail
            exact ⟨⟨m, _, _, _, _, _, _, _, _, _, _, by omega, rfl, hP8, by unfold Hid; rw [← HNX.out.1]; omega, by unfold Hid; rw [← HNX.out.2]; omega⟩, by simp [intOf]⟩
    · have hk0 : k = 0 := by omega
      subst hk0
      have HQ : Hid (Q = val ds / val es) := by have h := hQ.out; rw [show p2 0 = 1 from rfl, Int.ediv_one] at h; exact h
      have HR : Hid (R = val ds % val es) := by have h := hR.out; rw [show p2 0 = 1 from rfl, Int.ediv_one] at h; exact h
      clear hQ hR h0
      obtain ⟨ng, hng⟩ : ∃ ng, Hid ((!(na == nb)) = ng) := ⟨_, rfl⟩
      obtain ⟨dq, rfl, -, rq, dgq, cnq, vq⟩ := hPD.wq.parts
      have HVQ : Hid (val dq = Q) := by unfold Hid; rw [vq]; unfold absI; rw [if_neg (by omega)]
      clear vq
      obtain ⟨a0, a1⟩ := hPD.ba
      obtain ⟨b0, b1⟩ := hPD.bb
      obtain ⟨q0, q1⟩ := hPD.bq
      go_upto_region 11 with fail
      go_cut [] from 18 to 59 (fun wx => ∃ (nq' : Bool) (oq' : Option Addr) (lq' cq' : Nat), PD w wx T na nb nq' nr oa ob oq' orr ot ca cb lq' cq' lr cr d2.length ct ds es (turnI ng Q) R)
      case first =>
        go_wp2_with fail
        rw [hng.out]
        refine (trim_any ng _ dq _ rq dgq).mono ?_
        rw [HVQ.out]
        rintro e w11 ⟨x59, rfl, hx59, b59⟩
        have hP11 := hPD.step b59
        obtain ⟨s59, d59, rfl, r59, dg59, cn59, v59⟩ := id hx59
        obtain ⟨o59, c59, rfl, -, -, -, -⟩ := id r59
        obtain ⟨n59, hn59⟩ : ∃ n59, Hid (decide (turnI ng Q < 0) = n59) := ⟨_, rfl⟩
        rw [hn59.out] at hx59 ⊢
        obtain ⟨g0, g1⟩ := hP11.bq
        obtain ⟨f0, f1⟩ := hP11.fq
        have hfin := hP11.setq hx59
        clear hPD hP11 hx59 b59
        go_wp2_with fail
        go_meet
        case rel => exact ⟨_, _, _, _, hfin⟩
      case rest =>
        obtain ⟨nq, oq, lq, cq, hP11⟩ := hcut
        clear hPD a0 a1 b0 b1 q0 q1 rq dgq cnq HVQ
        obtain ⟨a0, a1⟩ := hP11.ba
        obtain ⟨b0, b1⟩ := hP11.bb
        obtain ⟨r0, r1⟩ := hP11.br
        obtain ⟨dr, rfl, -, rr, dgr, cnr, vr⟩ := hP11.wr.parts
        have HVR : Hid (val dr = R) := by unfold Hid; rw [vr]; unfold absI; rw [if_neg (by omega)]
        clear vr rr
        have HPQ : Hid (partQ na nb (val ds) (val es) = if ng = true ∧ 0 < R then turnI ng Q - 1 else turnI ng Q) := by unfold Hid partQ; rw [hng.out, ← HQ.out, ← HR.out]
        have hcp := canon_pos dgr cnr
        rw [HVR.out] at hcp
        have bQn : absI (turnI ng Q) < pw 1000 := by rw [abs_turn hdb.1]; have h := Int.lt_of_le_of_lt hdb.2.1 HN1.out; have h2 := pw_le (show 500 ≤ 1000 by omega); omega
        go_upto_region 12 with fail
        have h12 : ((!(na == nb)) = false) ∨ ((!(na == nb)) = true ∧ dr.length = 0) ∨ ((!(na == nb)) = true ∧ 0 < dr.length) := by
          have hz := Nat.eq_zero_or_pos dr.length
          cases (!(na == nb))
          · exact Or.inl rfl
          · rcases hz with hz | hz
            · exact Or.inr (Or.inl ⟨rfl, hz⟩)
            · exact Or.inr (Or.inr ⟨rfl, hz⟩)
        rcases h12 with h12 | ⟨h12, h13⟩ | ⟨h12, h13⟩
        · go_wp2_with fail
          obtain ⟨Qf, hQf⟩ : ∃ Qf, Hid (turnI ng Q = Qf) := ⟨_, rfl⟩
          rw [hQf.out] at hP11 HPQ
          have HPF : Hid (partQ na nb (val ds) (val es) = Qf) := by unfold Hid; rw [HPQ.out, ← hng.out, h12]; simp
          clear h12 HPQ bQn
          have hK0 := s14_of hP11 wa wb
          have hQ5 : absI Qf ≤ pw 500 := by rw [← HPF.out]; have h1 := @partQ_bd na nb _ _ HN0.out HB.out; have h2 := HN1.out; omega
          have bQf : absI Qf < pw 1000 := by have h2 := pw_le (show 501 ≤ 1000 by omega); have h3 : pw 501 = pw 500 * 65536 := pw_succ 500; have h4 := pw_pos 500; omega
          have bU2 : absI U < pw 1000 := by have h2 := pw_le (show 500 ≤ 1000 by omega); omega
          have bV2 : absI V < pw 1000 := by have h2 := pw_le (show 500 ≤ 1000 by omega); omega
          have bM : absI (-(Qf * U)) < pw 1000 := by have h := mul_big hQ5 bU; rw [abs_neg']; exact h
          clear hP11 hcp hdb HQ HR hng hQf a0 a1 b0 b1 r0 r1 HN0 HN1 HB HB1 hPD0 hT hd2 dgr cnr HVR hQ5 bU bV dg2 cn2 cne da db ra rb wa wb
          go_region_held3 (fun w' => w'.cell? ⟨w.heap.size, 0, none⟩ = some (.bool na) ∧ w'.cell? ⟨w.heap.size, 1, none⟩ = some (.slice oa ds.length ca) ∧ w'.cell? ⟨w.heap.size + 1, 0, none⟩ = some (.bool nb) ∧ w'.cell? ⟨w.heap.size + 1, 1, none⟩ = some (.slice ob es.length cb) ∧ w'.cell? ⟨w.heap.size + 1 + 1 + 1 + 1, 0, none⟩ = some (.bool nq) ∧ w'.cell? ⟨w.heap.size + 1 + 1 + 1 + 1, 1, none⟩ = some (.slice oq lq cq) ∧ G14 w w' na nb nq oa ob oq ds.length ca es.length cb lq cq V U Qf) (first | with_reducible assumption | (with_reducible refine s14_drew (w := w) (na := na) (nb := nb) (nq := nq) (oa := oa) (ob := ob) (oq := oq) (la := ds.length) (ca := ca) (lb := es.length) (cb := cb) (lq := lq) (cq := cq) (V := V) (U := U) (Qf := Qf) ?_; with_reducible assumption) | (with_reducible refine s14_setB (w := w) (na := na) (nb := nb) (nq := nq) (oa := oa) (ob := ob) (oq := oq) (la := ds.length) (ca := ca) (lb := es.length) (cb := cb) (lq := lq) (cq := cq) (V := V) (U := U) (Qf := Qf) ?_ ?_; (with_reducible assumption); omega)) (first
              | (go_at_call 40; refine (wtimes_any _ _ Qf U _ (s14_wq (w := w) (na := na) (nb := nb) (nq := nq) (oa := oa) (ob := ob) (oq := oq) (la := ds.length) (ca := ca) (lb := es.length) (cb := cb) (lq := lq) (cq := cq) (V := V) (U := U) (Qf := Qf) (by assumption)) (s14_wb (w := w) (na := na) (nb := nb) (nq := nq) (oa := oa) (ob := ob) (oq := oq) (la := ds.length) (ca := ca) (lb := es.length) (cb := cb) (lq := lq) (cq := cq) (V := V) (U := U) (Qf := Qf) (by assumption)) bQf bU2).mono ?_; rintro e w13 ⟨x78, rfl, hx78, b78⟩; have key := s14_step (w := w) (na := na) (nb := nb) (nq := nq) (oa := oa) (ob := ob) (oq := oq) (la := ds.length) (ca := ca) (lb := es.length) (cb := cb) (lq := lq) (cq := cq) (V := V) (U := U) (Qf := Qf) (by assumption) b78; clear b78)
              | (go_at_call 52; refine (wminus_any _ (Qf * U) _ hx78).mono ?_; rintro e w14 ⟨x79, rfl, hx79, b79⟩; have key2 := s14_step key b79; clear b79)
              | (go_at_call 25; refine (wplus_any _ _ V (-(Qf * U)) _ (s14_wa (w := w) (na := na) (nb := nb) (nq := nq) (oa := oa) (ob := ob) (oq := oq) (la := ds.length) (ca := ca) (lb := es.length) (cb := cb) (lq := lq) (cq := cq) (V := V) (U := U) (Qf := Qf) (by assumption)) hx79 bV2 bM).mono ?_; rintro e w15 ⟨x80, rfl, hx80, b80⟩; have key3 := s14_step key2 b80; obtain ⟨s80, d80, rfl, r80, dg80, cn80, v80⟩ := id hx80; obtain ⟨o80, c80, rfl, -, -, -, -⟩ := id r80; obtain ⟨n80, hn80⟩ : ∃ n80, Hid (decide (V + -(Qf * U) < 0) = n80) := ⟨_, rfl⟩; rw [hn80.out] at hx80 ⊢; obtain ⟨⟨nx, ox, lx, cx, X0, X1⟩, ⟨ny, oy, ly, cy, Y0, Y1⟩, ⟨FX0, FX1⟩, ⟨FY0, FY1⟩⟩ := s14_box key3; clear b80 key2 key))
          all_goals
            obtain ⟨E0, E1, E2, E3, EQ, EZ, EB⟩ := s14_end key3 hx80
            clear key3 hx80 X0 X1 Y0 Y1 FX0 FX1 FY0 FY1 r80 v80
            generalize ((((w15.setCell ⟨w.heap.size + 1 + 1, 0, none⟩ (.bool nq)).setCell ⟨w.heap.size + 1 + 1, 1, none⟩ (.slice oq lq cq)).setCell ⟨w.heap.size + 1 + 1 + 1, 0, none⟩ (.bool n80)).setCell ⟨w.heap.size + 1 + 1 + 1, 1, none⟩ (.slice o80 d80.length c80)) = W9 at *
            go_wp2_with fail
            exact bodyPost_ret (v := .tuple #[.agg #[.bool nq, .slice oq lq cq], .agg #[.bool n80, .slice o80 d80.length c80]]) (by simp [results, Try.results39, go_sem, E0, E1, E2, E3]) rfl ⟨_, _, rfl, by rw [HPF.out]; exact EQ, by rw [HPF.out]; exact EZ, EB⟩
        · go_wp2_with fail
          obtain ⟨Qf, hQf⟩ : ∃ Qf, Hid (turnI ng Q = Qf) := ⟨_, rfl⟩
          rw [hQf.out] at hP11 HPQ
          have HPF : Hid (partQ na nb (val ds) (val es) = Qf) := by unfold Hid; rw [HPQ.out, if_neg (by omega)]
          clear h12 HPQ bQn h13
          have hK0 := s14_of hP11 wa wb
          have hQ5 : absI Qf ≤ pw 500 := by rw [← HPF.out]; have h1 := @partQ_bd na nb _ _ HN0.out HB.out; have h2 := HN1.out; omega
          have bQf : absI Qf < pw 1000 := by have h2 := pw_le (show 501 ≤ 1000 by omega); have h3 : pw 501 = pw 500 * 65536 := pw_succ 500; have h4 := pw_pos 500; omega
          have bU2 : absI U < pw 1000 := by have h2 := pw_le (show 500 ≤ 1000 by omega); omega
          have bV2 : absI V < pw 1000 := by have h2 := pw_le (show 500 ≤ 1000 by omega); omega
          have bM : absI (-(Qf * U)) < pw 1000 := by have h := mul_big hQ5 bU; rw [abs_neg']; exact h
          clear hP11 hcp hdb HQ HR hng hQf a0 a1 b0 b1 r0 r1 HN0 HN1 HB HB1 hPD0 hT hd2 dgr cnr HVR hQ5 bU bV dg2 cn2 cne da db ra rb wa wb
          go_region_held3 (fun w' => w'.cell? ⟨w.heap.size, 0, none⟩ = some (.bool na) ∧ w'.cell? ⟨w.heap.size, 1, none⟩ = some (.slice oa ds.length ca) ∧ w'.cell? ⟨w.heap.size + 1, 0, none⟩ = some (.bool nb) ∧ w'.cell? ⟨w.heap.size + 1, 1, none⟩ = some (.slice ob es.length cb) ∧ w'.cell? ⟨w.heap.size + 1 + 1 + 1 + 1, 0, none⟩ = some (.bool nq) ∧ w'.cell? ⟨w.heap.size + 1 + 1 + 1 + 1, 1, none⟩ = some (.slice oq lq cq) ∧ G14 w w' na nb nq oa ob oq ds.length ca es.length cb lq cq V U Qf) (first | with_reducible assumption | (with_reducible refine s14_drew (w := w) (na := na) (nb := nb) (nq := nq) (oa := oa) (ob := ob) (oq := oq) (la := ds.length) (ca := ca) (lb := es.length) (cb := cb) (lq := lq) (cq := cq) (V := V) (U := U) (Qf := Qf) ?_; with_reducible assumption) | (with_reducible refine s14_setB (w := w) (na := na) (nb := nb) (nq := nq) (oa := oa) (ob := ob) (oq := oq) (la := ds.length) (ca := ca) (lb := es.length) (cb := cb) (lq := lq) (cq := cq) (V := V) (U := U) (Qf := Qf) ?_ ?_; (with_reducible assumption); omega)) (first
              | (go_at_call 40; refine (wtimes_any _ _ Qf U _ (s14_wq (w := w) (na := na) (nb := nb) (nq := nq) (oa := oa) (ob := ob) (oq := oq) (la := ds.length) (ca := ca) (lb := es.length) (cb := cb) (lq := lq) (cq := cq) (V := V) (U := U) (Qf := Qf) (by assumption)) (s14_wb (w := w) (na := na) (nb := nb) (nq := nq) (oa := oa) (ob := ob) (oq := oq) (la := ds.length) (ca := ca) (lb := es.length) (cb := cb) (lq := lq) (cq := cq) (V := V) (U := U) (Qf := Qf) (by assumption)) bQf bU2).mono ?_; rintro e w13 ⟨x78, rfl, hx78, b78⟩; have key := s14_step (w := w) (na := na) (nb := nb) (nq := nq) (oa := oa) (ob := ob) (oq := oq) (la := ds.length) (ca := ca) (lb := es.length) (cb := cb) (lq := lq) (cq := cq) (V := V) (U := U) (Qf := Qf) (by assumption) b78; clear b78)
              | (go_at_call 52; refine (wminus_any _ (Qf * U) _ hx78).mono ?_; rintro e w14 ⟨x79, rfl, hx79, b79⟩; have key2 := s14_step key b79; clear b79)
              | (go_at_call 25; refine (wplus_any _ _ V (-(Qf * U)) _ (s14_wa (w := w) (na := na) (nb := nb) (nq := nq) (oa := oa) (ob := ob) (oq := oq) (la := ds.length) (ca := ca) (lb := es.length) (cb := cb) (lq := lq) (cq := cq) (V := V) (U := U) (Qf := Qf) (by assumption)) hx79 bV2 bM).mono ?_; rintro e w15 ⟨x80, rfl, hx80, b80⟩; have key3 := s14_step key2 b80; obtain ⟨s80, d80, rfl, r80, dg80, cn80, v80⟩ := id hx80; obtain ⟨o80, c80, rfl, -, -, -, -⟩ := id r80; obtain ⟨n80, hn80⟩ : ∃ n80, Hid (decide (V + -(Qf * U) < 0) = n80) := ⟨_, rfl⟩; rw [hn80.out] at hx80 ⊢; obtain ⟨⟨nx, ox, lx, cx, X0, X1⟩, ⟨ny, oy, ly, cy, Y0, Y1⟩, ⟨FX0, FX1⟩, ⟨FY0, FY1⟩⟩ := s14_box key3; clear b80 key2 key))
          all_goals
            obtain ⟨E0, E1, E2, E3, EQ, EZ, EB⟩ := s14_end key3 hx80
            clear key3 hx80 X0 X1 Y0 Y1 FX0 FX1 FY0 FY1 r80 v80
            generalize ((((w15.setCell ⟨w.heap.size + 1 + 1, 0, none⟩ (.bool nq)).setCell ⟨w.heap.size + 1 + 1, 1, none⟩ (.slice oq lq cq)).setCell ⟨w.heap.size + 1 + 1 + 1, 0, none⟩ (.bool n80)).setCell ⟨w.heap.size + 1 + 1 + 1, 1, none⟩ (.slice o80 d80.length c80)) = W9 at *
            go_wp2_with fail
            exact bodyPost_ret (v := .tuple #[.agg #[.bool nq, .slice oq lq cq], .agg #[.bool n80, .slice o80 d80.length c80]]) (by simp [results, Try.results39, go_sem, E0, E1, E2, E3]) rfl ⟨_, _, rfl, by rw [HPF.out]; exact EQ, by rw [HPF.out]; exact EZ, EB⟩
        · have HPN : Hid (partQ na nb (val ds) (val es) = turnI ng Q - 1) := by unfold Hid; rw [HPQ.out, ← hng.out, h12, if_pos ⟨rfl, by omega⟩]
          obtain ⟨q0, q1⟩ := hP11.bq
          have hP11d := hP11.drew
          clear HPQ hcp
          go_upto_region 13 with fail
          go_cut [] from 18 to 73 (fun wx => ∃ (nq' : Bool) (oq' : Option Addr) (lq' cq' : Nat), PD w wx T na nb nq' nr oa ob oq' orr ot ca cb lq' cq' dr.length cr d2.length ct ds es (turnI ng Q + -1) R)
          case first =>
            go_region_with (first
              | (go_at_call 26; refine (of_any (-1) _ (by omega) (by omega)).mono ?_; rintro e w11 ⟨x49, rfl, hx49, b49⟩; have hP12 := hP11d.step b49; obtain ⟨q0', q1'⟩ := hP12.bq; clear b49)
              | (go_at_call 25; refine (wplus_any _ x49 (turnI ng Q) (-1) _ hP12.wq hx49 bQn (big_of (by omega) (by omega))).mono ?_; rintro e w12 ⟨x50, rfl, hx50, b50⟩; have hP13 := hP12.step b50; obtain ⟨s50, d50, rfl, r50, dg50, cn50, v50⟩ := id hx50; obtain ⟨o50, c50, rfl, -, -, -, -⟩ := id r50; obtain ⟨n50, hn50⟩ : ∃ n50, Hid (decide (turnI ng Q + -1 < 0) = n50) := ⟨_, rfl⟩; rw [hn50.out] at hx50 ⊢; obtain ⟨g0, g1⟩ := hP13.bq; obtain ⟨f0, f1⟩ := hP13.fq; clear b50))
            all_goals
              have hfin := hP13.setq hx50
              clear hP11 hP11d hP12 hP13 hx49 hx50
              go_wp2_with fail
              go_meet
              case rel => exact ⟨_, _, _, _, hfin⟩
          case rest =>
            clear hP11 hP11d q0 q1 a0 a1 b0 b1 r0 r1 h12 h13
            obtain ⟨nq, oq, lq, cq, hP11⟩ := hcut
            obtain ⟨Qf, hQf⟩ : ∃ Qf, Hid (turnI ng Q + -1 = Qf) := ⟨_, rfl⟩
            rw [hQf.out] at hP11
            have HPF : Hid (partQ na nb (val ds) (val es) = Qf) := by unfold Hid; rw [HPN.out, ← hQf.out]; omega
            clear HPN bQn
            go_wp2_with fail
            have hK0 := s14_of hP11 wa wb
            have hQ5 : absI Qf ≤ pw 500 := by rw [← HPF.out]; have h1 := @partQ_bd na nb _ _ HN0.out HB.out; have h2 := HN1.out; omega
            have bQf : absI Qf < pw 1000 := by have h2 := pw_le (show 501 ≤ 1000 by omega); have h3 : pw 501 = pw 500 * 65536 := pw_succ 500; have h4 := pw_pos 500; omega
            have bU2 : absI U < pw 1000 := by have h2 := pw_le (show 500 ≤ 1000 by omega); omega
            have bV2 : absI V < pw 1000 := by have h2 := pw_le (show 500 ≤ 1000 by omega); omega
            have bM : absI (-(Qf * U)) < pw 1000 := by have h := mul_big hQ5 bU; rw [abs_neg']; exact h
            clear hP11 hdb HQ HR hng hQf HN0 HN1 HB HB1 hPD0 hT hd2 dgr cnr HVR hQ5 bU bV dg2 cn2 cne da db ra rb wa wb
            go_region_held3 (fun w' => w'.cell? ⟨w.heap.size, 0, none⟩ = some (.bool na) ∧ w'.cell? ⟨w.heap.size, 1, none⟩ = some (.slice oa ds.length ca) ∧ w'.cell? ⟨w.heap.size + 1, 0, none⟩ = some (.bool nb) ∧ w'.cell? ⟨w.heap.size + 1, 1, none⟩ = some (.slice ob es.length cb) ∧ w'.cell? ⟨w.heap.size + 1 + 1 + 1 + 1, 0, none⟩ = some (.bool nq) ∧ w'.cell? ⟨w.heap.size + 1 + 1 + 1 + 1, 1, none⟩ = some (.slice oq lq cq) ∧ G14 w w' na nb nq oa ob oq ds.length ca es.length cb lq cq V U Qf) (first | with_reducible assumption | (with_reducible refine s14_drew (w := w) (na := na) (nb := nb) (nq := nq) (oa := oa) (ob := ob) (oq := oq) (la := ds.length) (ca := ca) (lb := es.length) (cb := cb) (lq := lq) (cq := cq) (V := V) (U := U) (Qf := Qf) ?_; with_reducible assumption) | (with_reducible refine s14_setB (w := w) (na := na) (nb := nb) (nq := nq) (oa := oa) (ob := ob) (oq := oq) (la := ds.length) (ca := ca) (lb := es.length) (cb := cb) (lq := lq) (cq := cq) (V := V) (U := U) (Qf := Qf) ?_ ?_; (with_reducible assumption); omega)) (first
                | (go_at_call 40; refine (wtimes_any _ _ Qf U _ (s14_wq (w := w) (na := na) (nb := nb) (nq := nq) (oa := oa) (ob := ob) (oq := oq) (la := ds.length) (ca := ca) (lb := es.length) (cb := cb) (lq := lq) (cq := cq) (V := V) (U := U) (Qf := Qf) (by assumption)) (s14_wb (w := w) (na := na) (nb := nb) (nq := nq) (oa := oa) (ob := ob) (oq := oq) (la := ds.length) (ca := ca) (lb := es.length) (cb := cb) (lq := lq) (cq := cq) (V := V) (U := U) (Qf := Qf) (by assumption)) bQf bU2).mono ?_; rintro e w13 ⟨x78, rfl, hx78, b78⟩; have key := s14_step (w := w) (na := na) (nb := nb) (nq := nq) (oa := oa) (ob := ob) (oq := oq) (la := ds.length) (ca := ca) (lb := es.length) (cb := cb) (lq := lq) (cq := cq) (V := V) (U := U) (Qf := Qf) (by assumption) b78; clear b78)
                | (go_at_call 52; refine (wminus_any _ (Qf * U) _ hx78).mono ?_; rintro e w14 ⟨x79, rfl, hx79, b79⟩; have key2 := s14_step key b79; clear b79)
                | (go_at_call 25; refine (wplus_any _ _ V (-(Qf * U)) _ (s14_wa (w := w) (na := na) (nb := nb) (nq := nq) (oa := oa) (ob := ob) (oq := oq) (la := ds.length) (ca := ca) (lb := es.length) (cb := cb) (lq := lq) (cq := cq) (V := V) (U := U) (Qf := Qf) (by assumption)) hx79 bV2 bM).mono ?_; rintro e w15 ⟨x80, rfl, hx80, b80⟩; have key3 := s14_step key2 b80; obtain ⟨s80, d80, rfl, r80, dg80, cn80, v80⟩ := id hx80; obtain ⟨o80, c80, rfl, -, -, -, -⟩ := id r80; obtain ⟨n80, hn80⟩ : ∃ n80, Hid (decide (V + -(Qf * U) < 0) = n80) := ⟨_, rfl⟩; rw [hn80.out] at hx80 ⊢; obtain ⟨⟨nx, ox, lx, cx, X0, X1⟩, ⟨ny, oy, ly, cy, Y0, Y1⟩, ⟨FX0, FX1⟩, ⟨FY0, FY1⟩⟩ := s14_box key3; clear b80 key2 key))
            all_goals
              obtain ⟨E0, E1, E2, E3, EQ, EZ, EB⟩ := s14_end key3 hx80
              clear key3 hx80 X0 X1 Y0 Y1 FX0 FX1 FY0 FY1 r80 v80
              generalize ((((w15.setCell ⟨w.heap.size + 1 + 1, 0, none⟩ (.bool nq)).setCell ⟨w.heap.size + 1 + 1, 1, none⟩ (.slice oq lq cq)).setCell ⟨w.heap.size + 1 + 1 + 1, 0, none⟩ (.bool n80)).setCell ⟨w.heap.size + 1 + 1 + 1, 1, none⟩ (.slice o80 d80.length c80)) = W9 at *
              go_wp2_with fail
              exact bodyPost_ret (v := .tuple #[.agg #[.bool nq, .slice oq lq cq], .agg #[.bool n80, .slice o80 d80.length c80]]) (by simp [results, Try.results39, go_sem, E0, E1, E2, E3]) rfl ⟨_, _, rfl, by rw [HPF.out]; exact EQ, by rw [HPF.out]; exact EZ, EB⟩
end Go.Proofs.Ytdfccjhmpgoacaa.Big
