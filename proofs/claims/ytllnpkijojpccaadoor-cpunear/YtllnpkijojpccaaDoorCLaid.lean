/- From what the rows list of variables to what the walks ask. -/
import Derived.Test.YtllnpkijojpccaaDoorFns
import Derived.Lib.LaidTab
import Derived.OpenShut
import Derived.MakeChecks
import Derived.Stop.LaidErr
namespace Go.Proofs.YtllnpkijojpccaaDoor
open Go Go.RowKit

theorem tab_global : Tryd.prog.globalNamed "wherry/isa.table" = some 0 := by kernel_rfl
theorem tab_type : (Tryd.prog.globals[0]?).map (·.type) = some 83 := by kernel_rfl
theorem tab_datum : Rows.laid_wherry_isa_table (H := Unit) = .agg ((List.range 27).map fun k => .agg [.lit (.string (nmT.getD k [])), .lit (.string (shT.getD k []))]) := by kernel_rfl
theorem cells_tab : Tryd.prog.cellsOf 83 = 54 := by kernel_rfl
theorem cells_row : Tryd.prog.cellsOf 82 = 2 := by kernel_rfl
theorem cells_str : Tryd.prog.cellsOf 9 = 1 := by kernel_rfl

theorem str_eq {s : ByteArray} {l : List UInt8} (h : s.data.toList = l) : s = ⟨l.toArray⟩ := by
  obtain ⟨d⟩ := s
  subst h
  simp

theorem tab_of {W : World} {rest : List (String × DataW Unit)} (h : laidMet Tryd.prog (("wherry/isa.table", Rows.laid_wherry_isa_table) :: rest) W) : Tab W := by
  obtain ⟨ps, ⟨g', t', cs, fuel, p, q, hg', ht', hvar, hd, _, _⟩, _⟩ := h
  obtain rfl := Option.some.inj (tab_global.symm.trans hg')
  obtain rfl := Option.some.inj (tab_type.symm.trans ht')
  rw [tab_datum] at hd
  obtain ⟨xs, m, rfl, hx, hl, hxl, hall⟩ := DataW.trod_array Tryd.underlying83 hd
  simp only [Prod.mk.injEq, DataW.agg.injEq] at hx
  have key : ∀ k, k < 27 → cs[k * 2]? = some (.string ⟨(nmT.getD k []).toArray⟩) ∧ cs[k * 2 + 1]? = some (.string ⟨(shT.getD k []).toArray⟩) := by
    intro k hk
    have h1 := hall k hk
    rw [cells_row] at h1
    have hxk : xs[k]? = some xs[k] := by simp
    have hy : xs[k].1 = .agg [.lit (.string (nmT.getD k [])), .lit (.string (shT.getD k []))] := by
      have := congrArg (fun l => l[k]?) hx.1
      simp only [List.getElem?_map, List.getElem?_range hk, hxk, Option.map_some, Option.some.injEq] at this
      exact this.symm
    rw [hxk] at h1
    obtain ⟨zs, m2, _, hz, hcl, hzl, hf⟩ := DataW.trod_struct Tryd.underlying82 h1
    rw [hz] at hy
    simp only [DataW.agg.injEq] at hy
    match zs, hzl with
    | [z0, z1], _ =>
      have f0 := hf 0 _ rfl
      have f1 := hf 1 _ rfl
      simp only [List.map_cons, List.map_nil, List.cons.injEq, and_true] at hy
      simp only [List.getElem?_cons_zero, List.getElem?_cons_succ] at f0 f1
      obtain ⟨s0, e0, x0, _⟩ := DataW.trod_string Tryd.underlying9 f0
      obtain ⟨s1, e1, x1, _⟩ := DataW.trod_string Tryd.underlying9 f1
      rw [x0] at hy
      rw [x1] at hy
      simp only [DataW.lit.injEq, Lit.string.injEq] at hy
      rw [str_eq hy.1] at e0
      rw [str_eq hy.2] at e1
      have g0 := congrArg (fun l => l[0]?) e0
      have g1 := congrArg (fun l => l[0]?) e1
      simp [List.getElem?_drop, cells_str, -List.getD_eq_getElem?_getD] at g0 g1
      exact ⟨g0, g1⟩
  have cell : ∀ j v, cs[j]? = some v → W.cell? ⟨0, j, none⟩ = some v := fun j v hv => by
    rw [World.var?_cell tab_global hvar j]
    simpa using hv
  refine ⟨?_, fun k hk => cell _ _ (key k hk).1, fun k hk => cell _ _ (key k hk).2⟩
  have h0 := cell 0 _ (key 0 (by decide)).1
  apply Nat.lt_of_not_le
  intro hle
  simp [World.cell?, Array.getElem?_eq_none hle] at h0

end Go.Proofs.YtllnpkijojpccaaDoor
