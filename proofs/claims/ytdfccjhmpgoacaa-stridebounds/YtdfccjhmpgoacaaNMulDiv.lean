/- Contracts of over and of MulDiv; the walk of lives: the document's examples are as it says. -/
import Derived.Test.YtdfccjhmpgoacaaNDivB
namespace Go.Proofs.Ytdfccjhmpgoacaa.Big
open Go.RowKit

theorem keep {W w1 : World} (hb : Below W.heap.size W w1) {b o : Nat} {v : Value} (hlt : b < W.heap.size) (h : W.cell? ⟨b, o, none⟩ = some v) : w1.cell? ⟨b, o, none⟩ = some v := by
  rw [(bcell hb).1 _ _ hlt]; exact h
theorem keepA {W w1 : World} {ob : Obj} (hb : Below (W.alloc ob).heap.size (W.alloc ob) w1) {b o : Nat} {v : Value} (hlt : b < W.heap.size) (h : W.cell? ⟨b, o, none⟩ = some v) : w1.cell? ⟨b, o, none⟩ = some v := by
  rw [(bcell hb).1 _ _ (by simp; omega), World.cell?_alloc_past _ _ _ hlt]; exact h
theorem keepN {W w1 : World} {c : Array Value} {t : TypeId} (hb : Below (W.alloc (.cells c t)).heap.size (W.alloc (.cells c t)) w1) {o : Nat} {v : Value} (h : c[o]? = some v) : w1.cell? ⟨W.heap.size, o, none⟩ = some v := by
  rw [(bcell hb).1 _ _ (by simp), World.cell?_alloc_at _ _ _ _ rfl]; exact h
theorem keepS {W w1 : World} {ob : Obj} (hb : Below (W.alloc ob).heap.size (W.alloc ob) w1) : W.heap.size < w1.heap.size := by
  have := hb.size; simp at this; omega
theorem belowA {B : Nat} {w W w1 : World} {ob : Obj} (k : Below B w W) (m : B ≤ W.heap.size) (hb : Below (W.alloc ob).heap.size (W.alloc ob) w1) : Below B w w1 :=
  (k.alloc m _).trans (hb.mono (by simp; omega))
theorem keepF {W w1 : World} (hb : Below W.heap.size W w1) {b o : Nat} (hlt : b < W.heap.size) (h : W.frozen? ⟨b, o, none⟩ = false) : w1.frozen? ⟨b, o, none⟩ = false := by
  rw [(bcell hb).2 _ _ hlt]; exact h
theorem below2 {B : Nat} {w W w1 : World} (k : Below B w W) (m : B ≤ W.heap.size) (hb : Below W.heap.size W w1) : Below B w w1 := k.trans (hb.mono m)

theorem hilo_div (V c : Int) (h0 : 0 ≤ V) (hc : 0 < c) (h : hiW V < c) : hiW (V / c) = 0 ∧ loW (V / c) = V / c := by
  have h1 : 0 ≤ V / c := Int.ediv_nonneg h0 (by omega)
  have h2 : V / c < 18446744073709551616 := Int.ediv_lt_of_lt_mul hc (by unfold hiW at h; omega)
  exact ⟨hi_small h1 h2, lo_small h1 h2⟩

end Go.Proofs.Ytdfccjhmpgoacaa.Big
