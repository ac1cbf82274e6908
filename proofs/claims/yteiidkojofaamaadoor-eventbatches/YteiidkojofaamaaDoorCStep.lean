/- The steps that are given to the face: of a number, an int, a text. -/
import Derived.Test.YteiidkojofaamaaDoorCFace
import Derived.Deep.RegionHeld3
import Derived.Deep.RegionWith
namespace Go.Proofs.YteiidkojofaamaaDoor
open Go.RowKit

section
variable {B : Nat} {bs : List UInt8} {w : World} {b0 b1 b2 b3 : Nat}

set_option maxHeartbeats 400000 in
theorem step47 (h : SR w B 0 bs) (most : Nat) (h0 : w.cell? ⟨b0, 0, none⟩ = some (.pointer (some ⟨B, 0, none⟩))) (h1 : w.cell? ⟨b1, 0, none⟩ = some (.int .u64 (most : Int))) :
    Calls Tryd.prog 72 #[.pointer (some ⟨b0, 0, none⟩), .pointer (some ⟨b1, 0, none⟩)] w fun e w' => ToldV B w w' e (fun v _ => v = .int .u64 ((numT most bs).2.1 : Int)) (numT most bs).1 (numT most bs).2.2 := by
  have hc := numTo_any B most bs w h
  generalize numT most bs = r at hc
  go_enter Tryd.func72, Tryd.ntmps72
  go_wp2_with (go_at_call 73; refine hc.mono ?_; rintro e w' ⟨hb1, ⟨hx, rfl, hs1⟩ | ⟨hx, rfl, hs1⟩⟩)
  · go_ret
    exact ⟨hb1, .inl ⟨hx, _, rfl, rfl, hs1⟩⟩
  · exact ⟨rfl, hb1, .inr ⟨hx, rfl, hs1⟩⟩

set_option maxHeartbeats 400000 in
theorem step50 (h : SR w B 0 bs) (least most : Int) (h0 : w.cell? ⟨b0, 0, none⟩ = some (.pointer (some ⟨B, 0, none⟩))) (h1 : w.cell? ⟨b1, 0, none⟩ = some (.int .i64 least)) (h2 : w.cell? ⟨b2, 0, none⟩ = some (.int .i64 most)) :
    Calls Tryd.prog 82 #[.pointer (some ⟨b0, 0, none⟩), .pointer (some ⟨b1, 0, none⟩), .pointer (some ⟨b2, 0, none⟩)] w fun e w' => ToldV B w w' e (fun v _ => v = .int .i64 (intT least most bs).2.1) (intT least most bs).1 (intT least most bs).2.2 := by
  have hc := intIn_any B least most bs w h
  generalize intT least most bs = r at hc
  go_enter Tryd.func82, Tryd.ntmps82
  go_wp2_with (go_at_call 83; refine hc.mono ?_; rintro e w' ⟨hb1, ⟨hx, rfl, hs1⟩ | ⟨hx, rfl, hs1⟩⟩)
  · go_ret
    exact ⟨hb1, .inl ⟨hx, _, rfl, rfl, hs1⟩⟩
  · exact ⟨rfl, hb1, .inr ⟨hx, rfl, hs1⟩⟩

/-- Bytes as a text. -/
theorem conv_byts {w : World} {B c l : Nat} {a : Option Addr} {bs : List UInt8} (h : Byts w B a c bs) (hl : bs.length = l) : (convert 29 9 (.slice a l c)).run Tryd.prog w = .ok (.string ⟨bs.toArray⟩) w := by
  subst hl
  rcases h with ⟨rfl, rfl⟩ | ⟨G, o, rfl, hG, hl, hm, hc⟩
  · cases a with
    | none => exact run_convert_bytes_nil w 29 5 Tryd.underlying29 Tryd.underlying5 0 0 9 Tryd.underlying9
    | some ad => exact run_convert_bytes_back w 29 9 5 ad 0 [] Tryd.underlying29 Tryd.underlying5 Tryd.underlying9 (fun j hj => by simp at hj)
  · refine run_convert_bytes_back w 29 9 5 ⟨G, o, none⟩ c bs Tryd.underlying29 Tryd.underlying5 Tryd.underlying9 (fun j hj => ?_)
    rw [WideShapes.add_plain]
    exact hc j _ (List.getElem?_eq_getElem hj)

end

end Go.Proofs.YteiidkojofaamaaDoor
