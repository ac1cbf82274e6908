/- Acts as they lie in memory. -/
import Derived.Test.YtcffmdimfmpheaaDoorMlMem
namespace Go.Proofs.YtcffmdimfmpheaaDoor
open Go Go.RowKit

def zAc : Ac := ⟨0, 0, z15, []⟩
def ac (xs : List Ac) (j : Nat) : Ac := xs.getD j zAc
/-- An act's cells, its row being at la with room lc. -/
def c18 (t : Ac) (la : Option Addr) (lc : Nat) : List Value := .int .i64 t.kd :: .int .i64 t.n :: (c15 t.e ++ [.slice la t.l.length lc])
def acA (t : Ac) (la : Option Addr) (lc : Nat) : Array Value := #[.int .i64 t.kd, .int .i64 t.n, .int .i64 t.e.kd, .int .i64 t.e.ac, .int .i64 t.e.th, .int .i64 t.e.va, .int .i64 t.e.pg, .int .i64 t.e.pc, .int .i64 (t.e.rs 0), .int .i64 (t.e.rs 1), .int .i64 (t.e.rs 2), .int .i64 (t.e.rs 3), .int .i64 (t.e.rs 4), .int .i64 (t.e.rs 5), .int .i64 (t.e.rs 6), .int .i64 (t.e.rs 7), .int .i64 t.e.dp, .slice la t.l.length lc]
theorem acA_list (t : Ac) (la : Option Addr) (lc : Nat) : (c18 t la lc).toArray = acA t la lc := rfl
/-- Cells that are an act's, with its row. -/
def AtA (w : World) (b o : Nat) (t : Ac) : Prop := ∃ la lc, w.rangeAt b o (c18 t la lc) ∧ EV w la t.l ∧ t.l.length ≤ lc ∧ lc ≤ maxLen
theorem AtA.below {w w' : World} {b o : Nat} {t : Ac} (h : AtA w b o t) (hb : Below w.heap.size w w') : AtA w' b o t := by
  obtain ⟨la, lc, h1, h2, h3, h4⟩ := h
  exact ⟨la, lc, fun j v hv => cell_on hb (h1 j v hv), h2.below hb, h3, h4⟩
/-- Acts in memory. -/
def Acts (w : World) (a : Option Addr) (xs : List Ac) : Prop := ∀ j, j < xs.length → ∃ b o, a = some ⟨b, o, none⟩ ∧ AtA w b (o + j * 18) (ac xs j)
theorem Acts.below {w w' : World} {a : Option Addr} {xs : List Ac} (h : Acts w a xs) (hb : Below w.heap.size w w') : Acts w' a xs := fun j hj => by
  obtain ⟨b, o, e, h0⟩ := h j hj
  exact ⟨b, o, e, h0.below hb⟩
theorem size18 : (Tryd.prog.info? 36).map (·.size) = some 18 := by kernel_rfl
theorem c18_len (t : Ac) (la : Option Addr) (lc : Nat) : (c18 t la lc).length = 18 := rfl
theorem c18_one (t : Ac) (la : Option Addr) (lc : Nat) : (c18 t la lc).toArray.all (·.oneCell') = true := all_oneCell_toArray (fun u hu => by
  unfold c18 at hu
  rcases List.mem_cons.1 hu with rfl | hu
  · rfl
  · rcases List.mem_cons.1 hu with rfl | hu
    · rfl
    · rcases List.mem_append.1 hu with hu | hu
      · exact flatE_one [t.e] u (by simpa [flatE] using hu)
      · simp at hu
        subst hu
        rfl)
/-- One act, new. -/
theorem at18_new (w : World) (t : Ac) (la : Option Addr) (lc : Nat) : (w.alloc (.cells (acA t la lc) 36)).rangeAt w.heap.size 0 (c18 t la lc) := fun j v hv => by
  rw [Nat.zero_add]
  exact (Cel.new w (acA t la lc) 36).cell (by rw [← acA_list]; simpa using hv)
/-- Its cells, one by one. -/
theorem range18 {w : World} {b o : Nat} {t : Ac} {la : Option Addr} {lc : Nat} (h : w.rangeAt b o (c18 t la lc)) : w.cell? ⟨b, o, none⟩ = some (.int .i64 t.kd) ∧ w.cell? ⟨b, o + 1, none⟩ = some (.int .i64 t.n) ∧ At15 w b (o + 2) t.e ∧ w.cell? ⟨b, o + 17, none⟩ = some (.slice la t.l.length lc) := by
  refine ⟨h 0 _ rfl, h 1 _ rfl, fun j v hv => ?_, h 17 _ rfl⟩
  have hj : j < 15 := (List.getElem?_eq_some_iff.1 hv).1
  have := h (2 + j) v (by
    unfold c18
    rw [show 2 + j = j + 1 + 1 by omega, List.getElem?_cons_succ, List.getElem?_cons_succ, List.getElem?_append_left (by rw [c15_len]; exact hj)]
    exact hv)
  rw [Nat.add_assoc]
  exact this
theorem range_but {S : List Nat} {w w' : World} {b o : Nat} {cs : List Value} (h : w.rangeAt b o cs) (hb : But S w w') (hS : b ∉ S) : w'.rangeAt b o cs := fun j v hv => hb.cell' (h j v hv) hS
theorem range_below {w w' : World} {b o : Nat} {cs : List Value} (h : w.rangeAt b o cs) (hb : Below w.heap.size w w') : w'.rangeAt b o cs := fun j v hv => cell_on hb (h j v hv)
end Go.Proofs.YtcffmdimfmpheaaDoor
