/- What the reference's Parted keeps in memory, and plain facts on it. -/
import Derived.Test.YtdfccjhmpgoacaaNBit
namespace Go.Proofs.Ytdfccjhmpgoacaa.Big
open Go.RowKit

theorem Wd.drew {W : World} {x : Value} {V : Int} (h : Wd W x V) : Wd W.drew x V := h.below ((Below.refl _ _).drew)
theorem Wd.set2' {W : World} {B : Nat} {b : Bool} {oa : Option Addr} {n c : Nat} {u v x : Value} {V : Int} (h : Wd W x V) (h0 : W.cell? ⟨B, 0, none⟩ = some (.bool b)) (h1 : W.cell? ⟨B, 1, none⟩ = some (.slice oa n c)) : Wd ((W.setCell ⟨B, 0, none⟩ u).setCell ⟨B, 1, none⟩ v) x V := by
  obtain ⟨s, ds, g1, g2, g3, g4, g5⟩ := h
  exact ⟨s, ds, g1, g2.set2 h0 h1, g3, g4, g5⟩
theorem frozen_set2 {W : World} {B c o : Nat} {u v : Value} (h : W.frozen? ⟨c, o, none⟩ = false) : ((W.setCell ⟨B, 0, none⟩ u).setCell ⟨B, 1, none⟩ v).frozen? ⟨c, o, none⟩ = false := by simpa using h

/-- A struct of two cells in block B: its sign, its digits. -/
def Box (W : World) (B : Nat) (n : Bool) (o : Option Addr) (l c : Nat) : Prop := W.cell? ⟨B, 0, none⟩ = some (.bool n) ∧ W.cell? ⟨B, 1, none⟩ = some (.slice o l c)
def Loose (W : World) (B : Nat) : Prop := W.frozen? ⟨B, 0, none⟩ = false ∧ W.frozen? ⟨B, 1, none⟩ = false
theorem Box.keep {W w1 : World} {B l c : Nat} {n : Bool} {o : Option Addr} (h : Box W B n o l c) (hl : B < W.heap.size) (hb : Below W.heap.size W w1) : Box w1 B n o l c := ⟨Big.keep hb hl h.1, Big.keep hb hl h.2⟩
theorem Loose.keep {W w1 : World} {B : Nat} (h : Loose W B) (hl : B < W.heap.size) (hb : Below W.heap.size W w1) : Loose w1 B := ⟨keepF hb hl h.1, keepF hb hl h.2⟩
theorem Box.other {W : World} {B C l c : Nat} {n : Bool} {o : Option Addr} {u v : Value} (h : Box W C n o l c) (hc : C ≠ B) : Box ((W.setCell ⟨B, 0, none⟩ u).setCell ⟨B, 1, none⟩ v) C n o l c := ⟨set2_other _ _ hc h.1, set2_other _ _ hc h.2⟩
theorem Box.put {W : World} {B l c l' c' : Nat} {n n' : Bool} {o o' : Option Addr} (h : Box W B n o l c) : Box ((W.setCell ⟨B, 0, none⟩ (.bool n')).setCell ⟨B, 1, none⟩ (.slice o' l' c')) B n' o' l' c' := set2 _ _ h.1 h.2
theorem Loose.set2 {W : World} {B C : Nat} {u v : Value} (h : Loose W C) : Loose ((W.setCell ⟨B, 0, none⟩ u).setCell ⟨B, 1, none⟩ v) C := ⟨frozen_set2 h.1, frozen_set2 h.2⟩

/-- All that Parted keeps. -/
structure PD (w W : World) (T : Nat) (na nb nq nr : Bool) (oa ob oq orr ot : Option Addr) (ca cb lq cq lr cr lt ct : Nat) (ds es : List Int) (Q R : Int) : Prop where
  ba : Box W (w.heap.size) na oa ds.length ca
  bb : Box W (w.heap.size + 1) nb ob es.length cb
  bx : Box W (w.heap.size + 1 + 1) false none 0 0
  by_ : Box W (w.heap.size + 1 + 1 + 1) false none 0 0
  bq : Box W (w.heap.size + 1 + 1 + 1 + 1) nq oq lq cq
  br : Box W (w.heap.size + 1 + 1 + 1 + 1 + 1) nr orr lr cr
  bt : Box W T false ot lt ct
  fx : Loose W (w.heap.size + 1 + 1)
  fy : Loose W (w.heap.size + 1 + 1 + 1)
  fq : Loose W (w.heap.size + 1 + 1 + 1 + 1)
  fr : Loose W (w.heap.size + 1 + 1 + 1 + 1 + 1)
  tt : w.heap.size + 1 + 1 + 1 + 1 + 1 < T
  sz : T < W.heap.size
  ra : Row W (.slice oa ds.length ca) ds
  rb : Row W (.slice ob es.length cb) es
  wq : Wd W (.agg #[.bool nq, .slice oq lq cq]) Q
  wr : Wd W (.agg #[.bool nr, .slice orr lr cr]) R
  wt : Wd W (.agg #[.bool false, .slice ot lt ct]) 2
  kk : Below w.heap.size w W

section
variable {w W w1 : World} {T : Nat} {na nb nq nr : Bool} {oa ob oq orr ot : Option Addr} {ca cb lq cq lr cr lt ct : Nat} {ds es : List Int} {Q R : Int}
theorem PD.step (h : PD w W T na nb nq nr oa ob oq orr ot ca cb lq cq lr cr lt ct ds es Q R) (hb : Below W.heap.size W w1) : PD w w1 T na nb nq nr oa ob oq orr ot ca cb lq cq lr cr lt ct ds es Q R := by
  have h1 := h.tt
  have h2 := h.sz
  have hs := hb.size
  exact ⟨h.ba.keep (by omega) hb, h.bb.keep (by omega) hb, h.bx.keep (by omega) hb, h.by_.keep (by omega) hb, h.bq.keep (by omega) hb, h.br.keep (by omega) hb, h.bt.keep (by omega) hb, h.fx.keep (by omega) hb, h.fy.keep (by omega) hb, h.fq.keep (by omega) hb, h.fr.keep (by omega) hb, h1, by omega, h.ra.below hb, h.rb.below hb, h.wq.below hb, h.wr.below hb, h.wt.below hb, below2 h.kk (by omega) hb⟩
theorem PD.drew (h : PD w W T na nb nq nr oa ob oq orr ot ca cb lq cq lr cr lt ct ds es Q R) : PD w W.drew T na nb nq nr oa ob oq orr ot ca cb lq cq lr cr lt ct ds es Q R := h.step ((Below.refl _ _).drew)
theorem PD.setr {n' : Bool} {o' : Option Addr} {l' c' : Nat} {R' : Int} (h : PD w W T na nb nq nr oa ob oq orr ot ca cb lq cq lr cr lt ct ds es Q R) (hw : Wd W (.agg #[.bool n', .slice o' l' c']) R') :
    PD w ((W.setCell ⟨w.heap.size + 1 + 1 + 1 + 1 + 1, 0, none⟩ (.bool n')).setCell ⟨w.heap.size + 1 + 1 + 1 + 1 + 1, 1, none⟩ (.slice o' l' c')) T na nb nq n' oa ob oq o' ot ca cb lq cq l' c' lt ct ds es Q R' := by
  have h1 := h.tt
  have h2 := h.sz
  exact ⟨h.ba.other (by omega), h.bb.other (by omega), h.bx.other (by omega), h.by_.other (by omega), h.bq.other (by omega), h.br.put, h.bt.other (by omega), h.fx.set2, h.fy.set2, h.fq.set2, h.fr.set2, h1, by simpa [World.setCell] using h2, h.ra.set2 h.br.1 h.br.2, h.rb.set2 h.br.1 h.br.2, h.wq.set2' h.br.1 h.br.2, hw.set2' h.br.1 h.br.2, h.wt.set2' h.br.1 h.br.2, (h.kk.setCell (by simp; omega) _).setCell (by simp; omega) _⟩
theorem PD.setq {n' : Bool} {o' : Option Addr} {l' c' : Nat} {Q' : Int} (h : PD w W T na nb nq nr oa ob oq orr ot ca cb lq cq lr cr lt ct ds es Q R) (hw : Wd W (.agg #[.bool n', .slice o' l' c']) Q') :
    PD w ((W.setCell ⟨w.heap.size + 1 + 1 + 1 + 1, 0, none⟩ (.bool n')).setCell ⟨w.heap.size + 1 + 1 + 1 + 1, 1, none⟩ (.slice o' l' c')) T na nb n' nr oa ob o' orr ot ca cb l' c' lr cr lt ct ds es Q' R := by
  have h1 := h.tt
  have h2 := h.sz
  exact ⟨h.ba.other (by omega), h.bb.other (by omega), h.bx.other (by omega), h.by_.other (by omega), h.bq.put, h.br.other (by omega), h.bt.other (by omega), h.fx.set2, h.fy.set2, h.fq.set2, h.fr.set2, h1, by simpa [World.setCell] using h2, h.ra.set2 h.bq.1 h.bq.2, h.rb.set2 h.bq.1 h.bq.2, hw.set2' h.bq.1 h.bq.2, h.wr.set2' h.bq.1 h.bq.2, h.wt.set2' h.bq.1 h.bq.2, (h.kk.setCell (by simp; omega) _).setCell (by simp; omega) _⟩
end

/-- What a struct that is a number not below 0 holds. -/
theorem Wd.parts {W : World} {n : Bool} {o : Option Addr} {l c : Nat} {V : Int} (h : Wd W (.agg #[.bool n, .slice o l c]) V) : ∃ ds, l = ds.length ∧ n = decide (V < 0) ∧ Row W (.slice o ds.length c) ds ∧ Dig ds ∧ Canon ds ∧ val ds = absI V := by
  obtain ⟨s, ds, h1, h2, h3, h4, h5⟩ := h
  simp only [Value.agg.injEq, Array.mk.injEq, List.cons.injEq, Value.bool.injEq, and_true] at h1
  obtain ⟨e1, e2⟩ := h1
  obtain ⟨ob, cc, e3, -⟩ := id h2
  have e4 := e2.trans e3
  simp only [Value.slice.injEq] at e4
  obtain ⟨rfl, rfl, rfl⟩ := e4
  exact ⟨ds, rfl, e1, by rw [e2]; exact h2, h3, h4, h5⟩

/-- A bit more: what the quotient and the rest become. -/
theorem part_step {N B q r : Int} {m : Nat} (hB : 0 < B) (hq : q = N / p2 (m + 1) / B) (hr : r = N / p2 (m + 1) % B) :
    (2 * r + bitI N m < B → 2 * q = N / p2 m / B ∧ 2 * r + bitI N m = N / p2 m % B) ∧ (B ≤ 2 * r + bitI N m → 2 * q + 1 = N / p2 m / B ∧ 2 * r + bitI N m - B = N / p2 m % B) := by
  have hs := bit_step N m
  have hb := bit_bd N m
  generalize N / p2 (m + 1) = M at *
  generalize N / p2 m = M' at *
  generalize bitI N m = t at *
  have h1 := Int.emod_add_ediv_mul M B
  have h2 := Int.emod_nonneg M (show B ≠ 0 by omega)
  have h3 := Int.emod_lt_of_pos M hB
  rw [← hq, ← hr] at h1
  rw [← hr] at h2 h3
  constructor
  · intro h
    have e : M' = (2 * r + t) + 2 * q * B := by rw [hs, ← h1, Int.mul_assoc]; omega
    rw [e, Int.add_mul_ediv_right _ _ (by omega), Int.add_mul_emod_self_right, Int.ediv_eq_zero_of_lt (by omega) h, Int.emod_eq_of_lt (by omega) h]
    omega
  · intro h
    have e : M' = (2 * r + t - B) + (2 * q + 1) * B := by rw [hs, ← h1, Int.add_mul, Int.mul_assoc]; omega
    rw [e, Int.add_mul_ediv_right _ _ (by omega), Int.add_mul_emod_self_right, Int.ediv_eq_zero_of_lt (by omega) (by omega), Int.emod_eq_of_lt (by omega) (by omega)]
    omega
end Go.Proofs.Ytdfccjhmpgoacaa.Big
