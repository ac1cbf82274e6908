/- Values behind bytes: Text, Ints; the document's examples. -/
import Derived.Test.YteiidkojofaamaaDoorCPut
import Derived.Test.YteiidkojofaamaaDoorCStep
namespace Go.Proofs.YteiidkojofaamaaDoor
open Go.RowKit

theorem strCells_bc (s : ByteArray) : Lib.strCells s = bc s.data.toList := rfl

/-- An append of a text to bytes of the call's own. -/
theorem wpList_stext {w : World} {ops : Array Oper} {rest : List Oper} {o : Oper} {a : Act} {Q : Exit → Act → World → Prop} (hg : o.guard = none) (sl x : Operand) (hop : o.op = Op.call { callee := Callee.builtin Builtin.append, args := #[sl, x], argTypes := #[29, 9] })
    (lo : Nat) (v : Value) (bs : List UInt8) (hs : a.eval sl = v) (h : Own w lo v bs) (s : ByteArray) (hx : a.eval x = .string s) (hk : bs.length + s.size ≤ 1000000) (hb : lo ≤ w.heap.size)
    (hK : ∀ v' w', Own w' lo v' (bs ++ s.data.toList) → Below lo w w' → wpList Tryd.prog ops Q rest (a.put o.dst v') w') :
    wpList Tryd.prog ops Q (o :: rest) a w := by
  obtain ⟨i0, hi, hz0, hz1, hz2⟩ := info_parts info5
  refine Lib.wpList_append_own_string w hg sl x 29 9 hop lo 5 i0 Tryd.underlying29 Tryd.underlying9 hi hz0 hz1 hz2 v bs.length (bc bs) hs h s hx (by unfold maxLen; omega) (by omega) hb ?_
  intro v' w' ho hgr _
  refine hK v' w' ?_ (grown_below hgr hb (own_lt h))
  unfold Own
  rw [List.length_append, bc_app]
  rw [strCells_bc] at ho
  exact ho

section
variable {B : Nat} {a : Option Addr} {c : Nat} {bs : List UInt8} {w : World}

end

theorem conv_own {w : World} {lo : Nat} {v : Value} {bs : List UInt8} (h : Own w lo v bs) : (convert 29 9 v).run Tryd.prog w = .ok (.string ⟨bs.toArray⟩) w := by
  obtain ⟨a, c, rfl, hy⟩ := h.byts
  exact conv_byts hy rfl

end Go.Proofs.YteiidkojofaamaaDoor
