/- From what the rows list of the table of kinds to what the walks ask. -/
import Derived.Test.YtcffmdimfmpheaaDoorKFns
import Derived.Lib.LaidTab
import Derived.OpenShut
import Derived.MakeChecks
import Derived.Stop.LaidErr
namespace Go.Proofs.YtcffmdimfmpheaaDoor
open Go Go.RowKit

theorem tab_global : Tryd.prog.globalNamed "wherry/event.kinds" = some 0 := by kernel_rfl
theorem tab_type : (Tryd.prog.globals[0]?).map (·.type) = some 86 := by kernel_rfl
def rowD (k : Nat) : DataW Unit := .agg [.lit (.string (nmK k)), .agg [.lit (.int .i64 (aLo k)), .lit (.int .i64 (aHi k))], .agg [.lit (.int .i64 (tLo k)), .lit (.int .i64 (tHi k))], .agg [.lit (.int .i64 0), .lit (.int .i64 (vHi k))], .lit (.bool (cxK k))]
theorem tab_datum : Rows.laid_wherry_event_kinds (H := Unit) = .agg ((List.range 8).map rowD) := by kernel_rfl
theorem cells_row : Tryd.prog.cellsOf 85 = 8 := by kernel_rfl
theorem cells_span : Tryd.prog.cellsOf 83 = 2 := by kernel_rfl
theorem cells_str : Tryd.prog.cellsOf 9 = 1 := by kernel_rfl
theorem cells_int : Tryd.prog.cellsOf 3 = 1 := by kernel_rfl
theorem cells_bool : Tryd.prog.cellsOf 4 = 1 := by kernel_rfl

theorem str_eq {s : ByteArray} {l : List UInt8} (h : s.data.toList = l) : s = ⟨l.toArray⟩ := by
  obtain ⟨d⟩ := s
  subst h
  simp

section
variable {W : World} {m off : Nat} {row : List Value} {z : DataW Unit × List MemPlace}
theorem int_cell {a : Int} (h : DataW.trod (fun _ => ()) Tryd.prog W 0 (fun _ => true) false m 3 (List.take 1 (List.drop off row)) = some z) (hz : z.1 = .lit (.int .i64 a)) : row[off]? = some (.int .i64 a) := by
  obtain ⟨n, e, x, _⟩ := DataW.trod_int Tryd.underlying3 h
  rw [x] at hz
  simp only [DataW.lit.injEq, Lit.int.injEq, true_and] at hz
  subst hz
  have g := congrArg (fun l => l[0]?) e
  simpa [List.getElem?_drop] using g
theorem bool_cell {b : Bool} (h : DataW.trod (fun _ => ()) Tryd.prog W 0 (fun _ => true) false m 4 (List.take 1 (List.drop off row)) = some z) (hz : z.1 = .lit (.bool b)) : row[off]? = some (.bool b) := by
  obtain ⟨n, e, x⟩ := DataW.trod_bool Tryd.underlying4 h
  rw [x] at hz
  simp only [DataW.lit.injEq, Lit.bool.injEq] at hz
  subst hz
  have g := congrArg (fun l => l[0]?) e
  simpa [List.getElem?_drop] using g
theorem str_cell {l : List UInt8} (h : DataW.trod (fun _ => ()) Tryd.prog W 0 (fun _ => true) false m 9 (List.take 1 (List.drop off row)) = some z) (hz : z.1 = .lit (.string l)) : row[off]? = some (.string ⟨l.toArray⟩) := by
  obtain ⟨n, e, x, _⟩ := DataW.trod_string Tryd.underlying9 h
  rw [x] at hz
  simp only [DataW.lit.injEq, Lit.string.injEq] at hz
  rw [str_eq hz] at e
  have g := congrArg (fun l => l[0]?) e
  simpa [List.getElem?_drop] using g
theorem span_cell {a b : Int} (h : DataW.trod (fun _ => ()) Tryd.prog W 0 (fun _ => true) false m 83 (List.take 2 (List.drop off row)) = some z) (hz : z.1 = .agg [.lit (.int .i64 a), .lit (.int .i64 b)]) : row[off]? = some (.int .i64 a) ∧ row[off + 1]? = some (.int .i64 b) := by
  obtain ⟨zs, m2, _, hz2, hcl, hzl, hf⟩ := DataW.trod_struct Tryd.underlying83 h
  rw [hz2] at hz
  simp only [DataW.agg.injEq] at hz
  match zs, hzl with
  | [z0, z1], _ =>
    have f0 : DataW.trod (fun _ => ()) Tryd.prog W 0 (fun _ => true) false m2 3 (List.take (Tryd.prog.cellsOf 3) (List.drop 0 (List.take 2 (List.drop off row)))) = some z0 := hf 0 _ rfl
    have f1 : DataW.trod (fun _ => ()) Tryd.prog W 0 (fun _ => true) false m2 3 (List.take (Tryd.prog.cellsOf 3) (List.drop 1 (List.take 2 (List.drop off row)))) = some z1 := hf 1 _ rfl
    simp only [List.map_cons, List.map_nil, List.cons.injEq, and_true] at hz
    have g0 := int_cell (off := 0) (row := List.take 2 (List.drop off row)) (by rw [cells_int] at f0; exact f0) hz.1
    have g1 := int_cell (off := 1) (row := List.take 2 (List.drop off row)) (by rw [cells_int] at f1; exact f1) hz.2
    simp [List.getElem?_drop] at g0 g1
    exact ⟨g0, g1⟩
end
set_option maxHeartbeats 1000000 in
theorem tab_of {W : World} {rest : List (String × DataW Unit)} (h : laidMet Tryd.prog (("wherry/event.kinds", Rows.laid_wherry_event_kinds) :: rest) W) : Tab W := by
  obtain ⟨ps, ⟨g', t', cs, fuel, p, q, hg', ht', hvar, hd, _, _⟩, _⟩ := h
  obtain rfl := Option.some.inj (tab_global.symm.trans hg')
  obtain rfl := Option.some.inj (tab_type.symm.trans ht')
  rw [tab_datum] at hd
  obtain ⟨xs, m, rfl, hx, hl, hxl, hall⟩ := DataW.trod_array Tryd.underlying86 hd
  simp only [Prod.mk.injEq, DataW.agg.injEq] at hx
  have key : ∀ k, k < 8 → ∀ j v, (rowK k)[j]? = some v → cs[k * 8 + j]? = some v := by
    intro k hk
    have h1 := hall k hk
    rw [cells_row] at h1
    have hxk : xs[k]? = some xs[k] := by simp
    have hy : xs[k].1 = rowD k := by
      have := congrArg (fun l => l[k]?) hx.1
      simp only [List.getElem?_map, List.getElem?_range hk, hxk, Option.map_some, Option.some.injEq] at this
      exact this.symm
    rw [hxk] at h1
    obtain ⟨zs, m2, _, hz, hcl, hzl, hf⟩ := DataW.trod_struct Tryd.underlying85 h1
    rw [hz] at hy
    unfold rowD at hy
    simp only [DataW.agg.injEq] at hy
    match zs, hzl with
    | [z0, z1, z2, z3, z4], _ =>
      have f0 : DataW.trod (fun _ => ()) Tryd.prog W 0 (fun _ => true) false m2 9 (List.take (Tryd.prog.cellsOf 9) (List.drop 0 (List.take 8 (List.drop (k * 8) cs.toList)))) = some z0 := hf 0 _ rfl
      have f1 : DataW.trod (fun _ => ()) Tryd.prog W 0 (fun _ => true) false m2 83 (List.take (Tryd.prog.cellsOf 83) (List.drop 1 (List.take 8 (List.drop (k * 8) cs.toList)))) = some z1 := hf 1 _ rfl
      have f2 : DataW.trod (fun _ => ()) Tryd.prog W 0 (fun _ => true) false m2 83 (List.take (Tryd.prog.cellsOf 83) (List.drop 3 (List.take 8 (List.drop (k * 8) cs.toList)))) = some z2 := hf 2 _ rfl
      have f3 : DataW.trod (fun _ => ()) Tryd.prog W 0 (fun _ => true) false m2 83 (List.take (Tryd.prog.cellsOf 83) (List.drop 5 (List.take 8 (List.drop (k * 8) cs.toList)))) = some z3 := hf 3 _ rfl
      have f4 : DataW.trod (fun _ => ()) Tryd.prog W 0 (fun _ => true) false m2 4 (List.take (Tryd.prog.cellsOf 4) (List.drop 7 (List.take 8 (List.drop (k * 8) cs.toList)))) = some z4 := hf 4 _ rfl
      simp only [List.map_cons, List.map_nil, List.cons.injEq, and_true] at hy
      obtain ⟨y0, y1, y2, y3, y4⟩ := hy
      have s0 := str_cell (off := 0) (row := List.take 8 (List.drop (k * 8) cs.toList)) (by rw [cells_str] at f0; exact f0) y0
      have s1 := span_cell (off := 1) (row := List.take 8 (List.drop (k * 8) cs.toList)) (by rw [cells_span] at f1; exact f1) y1
      have s2 := span_cell (off := 3) (row := List.take 8 (List.drop (k * 8) cs.toList)) (by rw [cells_span] at f2; exact f2) y2
      have s3 := span_cell (off := 5) (row := List.take 8 (List.drop (k * 8) cs.toList)) (by rw [cells_span] at f3; exact f3) y3
      have s4 := bool_cell (off := 7) (row := List.take 8 (List.drop (k * 8) cs.toList)) (by rw [cells_bool] at f4; exact f4) y4
      have lift : ∀ j v, (List.take 8 (List.drop (k * 8) cs.toList))[j]? = some v → cs[k * 8 + j]? = some v := fun j v hv => by
        by_cases hj : j < 8
        · rw [List.getElem?_take_of_lt hj, List.getElem?_drop] at hv
          simpa using hv
        · rw [List.getElem?_eq_none (by rw [List.length_take]; omega)] at hv
          cases hv
      intro j v hv
      refine lift j v ?_
      unfold rowK at hv
      match j, hv with
      | 0, hv => cases hv; exact s0
      | 1, hv => cases hv; exact s1.1
      | 2, hv => cases hv; exact s1.2
      | 3, hv => cases hv; exact s2.1
      | 4, hv => cases hv; exact s2.2
      | 5, hv => cases hv; exact s3.1
      | 6, hv => cases hv; exact s3.2
      | 7, hv => cases hv; exact s4
      | n + 8, hv => simp at hv
  have cell : ∀ j v, cs[j]? = some v → W.cell? ⟨0, j, none⟩ = some v := fun j v hv => by
    rw [World.var?_cell tab_global hvar j]
    simpa using hv
  refine ⟨?_, fun k hk j v hv => cell _ _ (key k hk j v hv)⟩
  have h0 := cell (0 * 8 + 0) _ (key 0 (by decide) 0 _ rfl)
  apply Nat.lt_of_not_le
  intro hle
  simp [World.cell?, Array.getElem?_eq_none hle] at h0
end Go.Proofs.YtcffmdimfmpheaaDoor
