/- How digits lie in memory: a slice of uint32; numbers of any size as the reference keeps them. -/
import Derived.Test.YtdfccjhmpgoacaaNMulDivB
import Derived.Test.YtdfccjhmpgoacaaNDigM
namespace Go.Proofs.Ytdfccjhmpgoacaa.Big
open Go.RowKit

theorem infoU32 : (Try.prog.info? 61).map (fun i => (i.zero, i.size, i.bytes)) = some (some (.int .u32 0), 1, 4) := by kernel_rfl

/-- The slice v holds just these digits. -/
def Row (w : World) (v : Value) (ds : List Int) : Prop :=
  ∃ (oa : Option Addr) (cap : Nat), v = .slice oa ds.length cap ∧ ds.length ≤ cap ∧ cap ≤ maxLen ∧ (oa = none → cap = 0) ∧
    ∀ i, i < ds.length → ∃ b off, oa = some ⟨b, off, none⟩ ∧ b < w.heap.size ∧ w.cell? ⟨b, off + i, none⟩ = some (.int .u32 (ds.getD i 0))

/-- The struct v is the number V: its sign, and its digits without noughts at the end. -/
def Wd (w : World) (v : Value) (V : Int) : Prop :=
  ∃ (s : Value) (ds : List Int), v = .agg #[.bool (decide (V < 0)), s] ∧ Row w s ds ∧ Dig ds ∧ Canon ds ∧ val ds = absI V

theorem Row.below {w w' : World} {v : Value} {ds : List Int} (h : Row w v ds) (hb : Below w.heap.size w w') : Row w' v ds := by
  obtain ⟨oa, cap, h1, h2, h3, h4, h5⟩ := h
  refine ⟨oa, cap, h1, h2, h3, h4, fun i hi => ?_⟩
  obtain ⟨b, off, e, hlt, hc⟩ := h5 i hi
  exact ⟨b, off, e, Nat.lt_of_lt_of_le hlt hb.size, keep hb hlt hc⟩
theorem Wd.below {w w' : World} {v : Value} {V : Int} (h : Wd w v V) (hb : Below w.heap.size w w') : Wd w' v V := by
  obtain ⟨s, ds, h1, h2, h3, h4, h5⟩ := h
  exact ⟨s, ds, h1, h2.below hb, h3, h4, h5⟩
theorem below_alloc (w : World) (o : Obj) : Below w.heap.size w (w.alloc o) := (Below.refl _ _).alloc (Nat.le_refl _) _
theorem Row.alloc {w : World} {v : Value} {ds : List Int} (h : Row w v ds) (o : Obj) : Row (w.alloc o) v ds := h.below (below_alloc w o)
theorem Row.drew {w : World} {v : Value} {ds : List Int} (h : Row w v ds) : Row w.drew v ds := h.below ((Below.refl _ _).drew)

/-- What the call has appended is such a slice. -/
theorem row_of_own {w : World} {base : Nat} {v : Value} {ds : List Int} (h : w.ownsRow base 61 1 v ds.length (ds.map (Value.int .u32))) : Row w v ds := by
  obtain ⟨hl, h⟩ := h
  rcases h with ⟨h1, h2⟩ | ⟨g, cap, cur, h1, h2, h3, h4, h5, h6, h7⟩
  · refine ⟨none, 0, by rw [h2]; exact h1, by omega, by unfold maxLen; omega, fun _ => rfl, fun i hi => by omega⟩
  · refine ⟨some ⟨g, 0, none⟩, cap, h1, h4, h5, fun e => (by cases e), fun i hi => ⟨g, 0, rfl, ?_, ?_⟩⟩
    · exact (Array.getElem?_eq_some_iff.1 h3).1
    · have hi2 : i < cur.size := by omega
      have e : (cur.toList.take (ds.length * 1))[i]? = (ds.map (Value.int .u32))[i]? := by rw [h7]
      rw [List.getElem?_take, if_pos (by omega), List.getElem?_map, List.getElem?_eq_getElem hi] at e
      simp only [Option.map_some] at e
      simp only [World.cell?, h3, Nat.zero_add]
      rw [get_in hi]
      simpa using e
theorem own_block {w : World} {base n : Nat} {v : Value} {xs : List Value} {e : TypeId} {size : Nat} (h : w.ownsRow base e size v n xs) : ∀ k, v.ownBlock = some k → base ≤ k := by
  obtain ⟨_, h⟩ := h
  intro k hk
  rcases h with ⟨h1, _⟩ | ⟨g, cap, cur, h1, h2, _⟩
  · subst h1; cases hk
  · subst h1
    simp only [Value.ownBlock, Option.some.injEq] at hk
    omega

/-- Behind an append of one digit: what is owned, and that nothing else has turned. -/
theorem own_step {W0 w w1 : World} {base : Nat} {v v' : Value} {out : List Int} {d : Int} {ob : Obj} (hb : Below base W0 w) (hB : base ≤ w.heap.size)
    (h : w.ownsRow base 61 1 v out.length (out.map (Value.int .u32))) (h' : w1.ownsRow base 61 1 v' (out.length + 1) (out.map (Value.int .u32) ++ [.int .u32 d])) (hg : (w.alloc ob).grownBy w1 v.ownBlock) :
    w1.ownsRow base 61 1 v' (out ++ [d]).length ((out ++ [d]).map (Value.int .u32)) ∧ Below base W0 w1 ∧ base ≤ w1.heap.size := by
  have k1 : Below base W0 (w.alloc ob) := hb.alloc hB ob
  have k2 : Below base W0 w1 := k1.grown hg (by simp; omega) (own_block h)
  have hs := hg.size
  refine ⟨?_, k2, by simp at hs; omega⟩
  simpa using h'

/-- A struct's own cells, written, leave digits that lie elsewhere alone. -/
theorem Row.set2 {W : World} {B : Nat} {x : Bool} {oa : Option Addr} {n c : Nat} {u v s : Value} {ds : List Int} (h : Row W s ds) (h0 : W.cell? ⟨B, 0, none⟩ = some (.bool x)) (h1 : W.cell? ⟨B, 1, none⟩ = some (.slice oa n c)) :
    Row ((W.setCell ⟨B, 0, none⟩ u).setCell ⟨B, 1, none⟩ v) s ds := by
  obtain ⟨ob, cap, g1, g2, g3, g4, g5⟩ := h
  refine ⟨ob, cap, g1, g2, g3, g4, fun i hi => ?_⟩
  obtain ⟨b, off, e, hlt, hc⟩ := g5 i hi
  refine ⟨b, off, e, by simpa [World.setCell] using hlt, ?_⟩
  have n0 : (⟨B, 0, none⟩ : Addr) ≠ ⟨b, off + i, none⟩ := fun e => by rw [← e, h0] at hc; cases hc
  have n1 : (⟨B, 1, none⟩ : Addr) ≠ ⟨b, off + i, none⟩ := fun e => by rw [← e, h1] at hc; cases hc
  rw [World.cell?_setCell_other _ _ _ _ n1, World.cell?_setCell_other _ _ _ _ n0]
  exact hc

theorem land16_u64 (r : Int) (h0 : 0 ≤ r) (h1 : r < 18446744073709551616) : bits .and .u64 r 65535 = r % 65536 := by go_bits2
end Go.Proofs.Ytdfccjhmpgoacaa.Big
