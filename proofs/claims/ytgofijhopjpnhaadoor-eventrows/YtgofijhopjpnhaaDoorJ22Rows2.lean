/- The steps that are given to the face: of a number, an int, a text. -/
/- Values behind bytes: Text, Ints; the document's examples. -/
import Derived.Test.YtgofijhopjpnhaaDoorJ21Rows2
import Derived.Deep.RegionHeld3
import Derived.Deep.RegionWith
import Derived.Test.YtgofijhopjpnhaaDoorJ10Rows2
namespace Go.Proofs.YtgofijhopjpnhaaDoor
open Go.RowKit

section
variable {B : Nat} {bs : List UInt8} {w : World} {b0 b1 b2 b3 : Nat}

set_option maxHeartbeats 400000 in
theorem step47 (h : SR w B 0 bs) (most : Nat) (h0 : w.cell? ⟨b0, 0, none⟩ = some (.pointer (some ⟨B, 0, none⟩))) (h1 : w.cell? ⟨b1, 0, none⟩ = some (.int .u64 (most : Int))) :
    Calls Tryd.prog 57 #[.pointer (some ⟨b0, 0, none⟩), .pointer (some ⟨b1, 0, none⟩)] w fun e w' => ToldV B w w' e (fun v _ => v = .int .u64 ((numT most bs).2.1 : Int)) (numT most bs).1 (numT most bs).2.2 := by
  have hc := numTo_any B most bs w h
  generalize numT most bs = r at hc
  go_enter Tryd.func57, Tryd.ntmps57
  go_wp2_with (go_at_call 58; refine hc.mono ?_; rintro e w' ⟨hb1, ⟨hx, rfl, hs1⟩ | ⟨hx, rfl, hs1⟩⟩)
  · go_ret
    exact ⟨hb1, .inl ⟨hx, _, rfl, rfl, hs1⟩⟩
  · exact ⟨rfl, hb1, .inr ⟨hx, rfl, hs1⟩⟩

set_option maxHeartbeats 400000 in
theorem step50 (h : SR w B 0 bs) (least most : Int) (h0 : w.cell? ⟨b0, 0, none⟩ = some (.pointer (some ⟨B, 0, none⟩))) (h1 : w.cell? ⟨b1, 0, none⟩ = some (.int .i64 least)) (h2 : w.cell? ⟨b2, 0, none⟩ = some (.int .i64 most)) :
    Calls Tryd.prog 68 #[.pointer (some ⟨b0, 0, none⟩), .pointer (some ⟨b1, 0, none⟩), .pointer (some ⟨b2, 0, none⟩)] w fun e w' => ToldV B w w' e (fun v _ => v = .int .i64 (intT least most bs).2.1) (intT least most bs).1 (intT least most bs).2.2 := by
  have hc := intIn_any B least most bs w h
  generalize intT least most bs = r at hc
  go_enter Tryd.func68, Tryd.ntmps68
  go_wp2_with (go_at_call 69; refine hc.mono ?_; rintro e w' ⟨hb1, ⟨hx, rfl, hs1⟩ | ⟨hx, rfl, hs1⟩⟩)
  · go_ret
    exact ⟨hb1, .inl ⟨hx, _, rfl, rfl, hs1⟩⟩
  · exact ⟨rfl, hb1, .inr ⟨hx, rfl, hs1⟩⟩

/-- Bytes as a text. -/
theorem conv_byts {w : World} {B c l : Nat} {a : Option Addr} {bs : List UInt8} (h : Byts w B a c bs) (hl : bs.length = l) : (convert 22 9 (.slice a l c)).run Tryd.prog w = .ok (.string ⟨bs.toArray⟩) w := by
  subst hl
  rcases h with ⟨rfl, rfl⟩ | ⟨G, o, rfl, hG, hl, hm, hc⟩
  · cases a with
    | none => exact run_convert_bytes_nil w 22 5 Tryd.underlying22 Tryd.underlying5 0 0 9 Tryd.underlying9
    | some ad => exact run_convert_bytes_back w 22 9 5 ad 0 [] Tryd.underlying22 Tryd.underlying5 Tryd.underlying9 (fun j hj => by simp at hj)
  · refine run_convert_bytes_back w 22 9 5 ⟨G, o, none⟩ c bs Tryd.underlying22 Tryd.underlying5 Tryd.underlying9 (fun j hj => ?_)
    rw [WideShapes.add_plain]
    exact hc j _ (List.getElem?_eq_getElem hj)

end

end Go.Proofs.YtgofijhopjpnhaaDoor
namespace Go.Proofs.YtgofijhopjpnhaaDoor
open Go.RowKit

theorem strCells_bc (s : ByteArray) : Lib.strCells s = bc s.data.toList := rfl

/-- An append of a text to bytes of the call's own. -/
theorem wpList_stext {w : World} {ops : Array Oper} {rest : List Oper} {o : Oper} {a : Act} {Q : Exit → Act → World → Prop} (hg : o.guard = none) (sl x : Operand) (hop : o.op = Op.call { callee := Callee.builtin Builtin.append, args := #[sl, x], argTypes := #[22, 9] })
    (lo : Nat) (v : Value) (bs : List UInt8) (hs : a.eval sl = v) (h : Own w lo v bs) (s : ByteArray) (hx : a.eval x = .string s) (hk : bs.length + s.size ≤ 1000000) (hb : lo ≤ w.heap.size)
    (hK : ∀ v' w', Own w' lo v' (bs ++ s.data.toList) → Below lo w w' → wpList Tryd.prog ops Q rest (a.put o.dst v') w') :
    wpList Tryd.prog ops Q (o :: rest) a w := by
  obtain ⟨i0, hi, hz0, hz1, hz2⟩ := info_parts info5
  refine Lib.wpList_append_own_string w hg sl x 22 9 hop lo 5 i0 Tryd.underlying22 Tryd.underlying9 hi hz0 hz1 hz2 v bs.length (bc bs) hs h s hx (by unfold maxLen; omega) (by omega) hb ?_
  intro v' w' ho hgr _
  refine hK v' w' ?_ (grown_below hgr hb (own_lt h))
  unfold Own
  rw [List.length_append, bc_app]
  rw [strCells_bc] at ho
  exact ho

section
variable {B : Nat} {a : Option Addr} {c : Nat} {bs : List UInt8} {w : World}

end

theorem conv_own {w : World} {lo : Nat} {v : Value} {bs : List UInt8} (h : Own w lo v bs) : (convert 22 9 v).run Tryd.prog w = .ok (.string ⟨bs.toArray⟩) w := by
  obtain ⟨a, c, rfl, hy⟩ := h.byts
  exact conv_byts hy rfl

end Go.Proofs.YtgofijhopjpnhaaDoor
