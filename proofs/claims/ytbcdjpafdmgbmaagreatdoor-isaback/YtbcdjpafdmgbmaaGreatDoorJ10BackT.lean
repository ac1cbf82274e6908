/- Values behind bytes: Text, Ints; the document's examples. -/
/- An append to bytes of the call's own, block by block. -/
import Derived.Test.YtbcdjpafdmgbmaaGreatDoorJ07BackT
import Derived.Test.YtbcdjpafdmgbmaaGreatDoorJ09BackT
import Derived.Test.YtbcdjpafdmgbmaaGreatDoorJ03BackT
namespace Go.Proofs.YtbcdjpafdmgbmaaGreatDoor
open Go.RowKit

theorem strCells_bc (s : ByteArray) : Lib.strCells s = bc s.data.toList := rfl

/-- An append of a text to bytes of the call's own. -/
theorem wpList_stext {w : World} {ops : Array Oper} {rest : List Oper} {o : Oper} {a : Act} {Q : Exit → Act → World → Prop} (hg : o.guard = none) (sl x : Operand) (hop : o.op = Op.call { callee := Callee.builtin Builtin.append, args := #[sl, x], argTypes := #[24, 9] })
    (lo : Nat) (v : Value) (bs : List UInt8) (hs : a.eval sl = v) (h : Own w lo v bs) (s : ByteArray) (hx : a.eval x = .string s) (hk : bs.length + s.size ≤ 1000000) (hb : lo ≤ w.heap.size)
    (hK : ∀ v' w', Own w' lo v' (bs ++ s.data.toList) → Below lo w w' → wpList Tryz.prog ops Q rest (a.put o.dst v') w') :
    wpList Tryz.prog ops Q (o :: rest) a w := by
  obtain ⟨i0, hi, hz0, hz1, hz2⟩ := info_parts info5
  refine Lib.wpList_append_own_string w hg sl x 24 9 hop lo 5 i0 Tryz.underlying24 Tryz.underlying9 hi hz0 hz1 hz2 v bs.length (bc bs) hs h s hx (by unfold maxLen; omega) (by omega) hb ?_
  intro v' w' ho hgr _
  refine hK v' w' ?_ (grown_below hgr hb (own_lt h))
  unfold Own
  rw [List.length_append, bc_app]
  rw [strCells_bc] at ho
  exact ho

section
variable {B : Nat} {a : Option Addr} {c : Nat} {bs : List UInt8} {w : World}

end

theorem conv_own {w : World} {lo : Nat} {v : Value} {bs : List UInt8} (h : Own w lo v bs) : (convert 24 9 v).run Tryz.prog w = .ok (.string ⟨bs.toArray⟩) w := by
  obtain ⟨a, c, rfl, hy⟩ := h.byts
  exact conv_byts hy rfl

end Go.Proofs.YtbcdjpafdmgbmaaGreatDoor
namespace Go.Proofs.YtbcdjpafdmgbmaaGreatDoor
open Go.RowKit

/-- An append to bytes of the call's own, block by block. -/
theorem run_bat {w : World} {lo : Nat} {v : Value} {bs : List UInt8} {ty : TypeId} (h : Own w lo v bs) {B : Nat} {sp : Option Addr} {m c : Nat} {news : List UInt8} (hl : news.length = m) (hr : Byts w B sp c news) (hk : bs.length + m ≤ 1000000) (hb : lo ≤ w.heap.size) :
    ∃ v' w', (Builtin.append_ #[24, 24] ty #[v, .slice sp m c]).run Tryz.prog w = .ok v' w' ∧ Own w' lo v' (bs ++ news) ∧ w.grownBy w' v.ownBlock ∧ (v'.ownBlock = v.ownBlock ∨ v'.ownBlock = some w.heap.size) := by
  have hrw : Rw w sp (bc news) := by
    intro j u hu
    obtain ⟨x, hx, rfl⟩ := bc_out hu
    rcases hr with ⟨_, rfl⟩ | ⟨G, o, rfl, _, _, _, hc⟩
    · simp at hx
    · exact ⟨G, o, rfl, hc j x hx⟩
  obtain ⟨v', w', h1, h2, h3, h4⟩ := run_own (t := 24) (ty := ty) (c := c) (m := m) Tryz.underlying24 info5 rfl (by decide) h hrw (by rw [bc_len]; omega) (fun u hu => by unfold bc at hu; obtain ⟨x, _, rfl⟩ := List.mem_map.1 hu; rfl) (by unfold maxLen; omega) (by omega) hb
  refine ⟨v', w', h1, ?_, h3, h4⟩
  unfold Own
  rw [List.length_append, hl, bc_app]
  exact h2
theorem wpList_bat {w : World} {ops : Array Oper} {rest : List Oper} {o : Oper} {a : Act} {Q : Exit → Act → World → Prop} (hg : o.guard = none) (s x : Operand) (hop : o.op = Op.call { callee := Callee.builtin Builtin.append, args := #[s, x], argTypes := #[24, 24] })
    (lo : Nat) (v : Value) (bs : List UInt8) (hs : a.eval s = v) (h : Own w lo v bs) (B : Nat) (sp : Option Addr) (m c : Nat) (news : List UInt8) (hx : a.eval x = .slice sp m c) (hl : news.length = m) (hr : Byts w B sp c news)
    (hk : bs.length + m ≤ 1000000) (hb : lo ≤ w.heap.size)
    (hK : ∀ v' w', Own w' lo v' (bs ++ news) → w.grownBy w' v.ownBlock → (v'.ownBlock = v.ownBlock ∨ v'.ownBlock = some w.heap.size) → wpList Tryz.prog ops Q rest (a.put o.dst v') w') :
    wpList Tryz.prog ops Q (o :: rest) a w := by
  refine wpList_plain hg fun K hK' => ?_
  obtain ⟨v', w', hrun, r1, r2, r3⟩ := run_bat (ty := o.type) h hl hr hk hb
  unfold Oper.wp
  simp [execOp, hop, resolve, invoke, builtin, hs, hx, hrun, Result.andThen]
  exact hK' _ _ (hK v' w' r1 r2 r3)

end Go.Proofs.YtbcdjpafdmgbmaaGreatDoor
