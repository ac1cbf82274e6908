/- The reference's Step: what it begins with. -/
import Derived.Test.YtllnpkijojpccaaDoorRReg
import Derived.Test.YtllnpkijojpccaaDoorRGood
import Derived.Test.YtllnpkijojpccaaDoorCEq
import Derived.Deep.RegionHeld3
namespace Go.Proofs.YtllnpkijojpccaaDoor
open Go Go.RowKit Go.Shelf

/-- What lies in memory while an instruction is done. -/
structure RS (w : World) (D : Nat) (c f : Cx) (x : Ins) (V : World) : Prop where
  c : Cel V w.heap.size (cxA c) 26
  r : Cel V (w.heap.size + 1) #[.int .i64 0, .int .i64 0, .int .i64 0, .int .i64 0, .int .i64 0, .int .i64 0, .int .i64 0, .int .i64 0, .int .i64 0, .int .i64 0, .int .i64 0] 26
  q : Cel V (w.heap.size + 1 + 1) #[.int .i64 0, .int .i64 0, .int .i64 0, .int .i64 0] 33
  x : Cel V D (insC x) 51
  o : Cel V (D + 1) (cxA f) 26
  b : Below w.heap.size w V
  lt : w.heap.size + 1 + 1 < D
theorem RS.on {w V V' : World} {D : Nat} {c f : Cx} {x : Ins} (h : RS w D c f x V) (hb : Below V.heap.size V V') : RS w D c f x V' := ⟨h.c.below hb, h.r.below hb, h.q.below hb, h.x.below hb, h.o.below hb, h.b.trans (hb.mono h.b.size), h.lt⟩
theorem RS.call {w : World} {D : Nat} {c f : Cx} {x : Ins} {P : Program} {fn : FuncId} {args : Array Value} {v : Value} (z : Wd (RS w D c f x)) (h : Calls P fn args z.W fun e w' => e = .returned v ∧ Below z.W.heap.size z.W w') : Calls P fn args z.W fun e w' => e = .returned v ∧ ∃ z' : Wd (RS w D c f x), w' = z'.W :=
  h.mono fun _ w' ⟨he, hb⟩ => ⟨he, ⟨w', z.ok.on hb⟩, rfl⟩
/-- Out is stored anew. -/
theorem RS.out {w V : World} {D : Nat} {c f : Cx} {x : Ins} (h : RS w D c f x V) {V' : World} {f' : Cx} (ho : Cel V' (D + 1) (cxA f') 26) (hb : But [D + 1] V V') : RS w D c f' x V' :=
  ⟨h.c.but hb (by simp; have := h.lt; omega), h.r.but hb (by simp; have := h.lt; omega), h.q.but hb (by simp; have := h.lt; omega), h.x.but hb (by simp), ho, h.b.trans (hb.below h.b.size (by simp; have := h.lt; omega)), h.lt⟩
theorem RS.store {w V : World} {D : Nat} {c f : Cx} {x : Ins} (h : RS w D c f x V) (d : Cx) : RS w D c d x (((((((((((V.setCell ⟨D + 1, 0, none⟩ (.int .i64 d.pg)).setCell ⟨D + 1, 1, none⟩ (.int .i64 d.pc)).setCell ⟨D + 1, 2, none⟩ (.int .i64 (d.rs 0))).setCell ⟨D + 1, 3, none⟩ (.int .i64 (d.rs 1))).setCell ⟨D + 1, 4, none⟩ (.int .i64 (d.rs 2))).setCell ⟨D + 1, 5, none⟩ (.int .i64 (d.rs 3))).setCell ⟨D + 1, 6, none⟩ (.int .i64 (d.rs 4))).setCell ⟨D + 1, 7, none⟩ (.int .i64 (d.rs 5))).setCell ⟨D + 1, 8, none⟩ (.int .i64 (d.rs 6))).setCell ⟨D + 1, 9, none⟩ (.int .i64 (d.rs 7))).setCell ⟨D + 1, 10, none⟩ (.int .i64 d.dp)) := h.out (Cel.fill11 _ _ _ _ _ _ _ _ _ _ _ h.o) (But.fill11 _ _ _ _ _ _ _ _ _ _ _ (But.refl _ V) (by simp))
theorem RS.pc {w V : World} {D : Nat} {c f : Cx} {x : Ins} (h : RS w D c f x V) (t : Int) : RS w D c (toPC f t) x (V.setCell ⟨D + 1, 1, none⟩ (.int .i64 t)) := h.out (Cel.set (j := 1) h.o (.int .i64 t)) ((But.refl _ V).set (p := ⟨D + 1, 1, none⟩) (by simp) _)
theorem RS.dp {w V : World} {D : Nat} {c f : Cx} {x : Ins} (h : RS w D c f x V) (t : Int) : RS w D c (toDp f t) x (V.setCell ⟨D + 1, 10, none⟩ (.int .i64 t)) := h.out (Cel.set (j := 10) h.o (.int .i64 t)) ((But.refl _ V).set (p := ⟨D + 1, 10, none⟩) (by simp) _)
/-- What an instruction reads, alone. -/
structure RT (w : World) (D : Nat) (c f : Cx) (x : Ins) (V : World) : Prop where
  c : Cel V w.heap.size (cxA c) 26
  x : Cel V D (insC x) 51
  o : Cel V (D + 1) (cxA f) 26
  lt : w.heap.size + 1 + 1 < D
section
variable {w V : World} {D : Nat} {c f : Cx} {x : Ins}
theorem RT.over11 (v0 v1 v2 v3 v4 v5 v6 v7 v8 v9 v10 : Value) (h : RT w D c f x V) : RT w D c f x (((((((((((V.setCell ⟨w.heap.size + 1, 0, none⟩ v0).setCell ⟨w.heap.size + 1, 1, none⟩ v1).setCell ⟨w.heap.size + 1, 2, none⟩ v2).setCell ⟨w.heap.size + 1, 3, none⟩ v3).setCell ⟨w.heap.size + 1, 4, none⟩ v4).setCell ⟨w.heap.size + 1, 5, none⟩ v5).setCell ⟨w.heap.size + 1, 6, none⟩ v6).setCell ⟨w.heap.size + 1, 7, none⟩ v7).setCell ⟨w.heap.size + 1, 8, none⟩ v8).setCell ⟨w.heap.size + 1, 9, none⟩ v9).setCell ⟨w.heap.size + 1, 10, none⟩ v10) := ⟨Cel.over11 _ _ _ _ _ _ _ _ _ _ _ h.c (by omega), Cel.over11 _ _ _ _ _ _ _ _ _ _ _ h.x (by have := h.lt; omega), Cel.over11 _ _ _ _ _ _ _ _ _ _ _ h.o (by have := h.lt; omega), h.lt⟩
theorem RT.over4 (v0 v1 v2 v3 : Value) (h : RT w D c f x V) : RT w D c f x ((((V.setCell ⟨w.heap.size + 1 + 1, 0, none⟩ v0).setCell ⟨w.heap.size + 1 + 1, 1, none⟩ v1).setCell ⟨w.heap.size + 1 + 1, 2, none⟩ v2).setCell ⟨w.heap.size + 1 + 1, 3, none⟩ v3) := ⟨Cel.over4 _ _ _ _ h.c (by omega), Cel.over4 _ _ _ _ h.x (by have := h.lt; omega), Cel.over4 _ _ _ _ h.o (by have := h.lt; omega), h.lt⟩
end
/-- A context and a call of the reference's in the results' cells. -/
theorem results_XR {fn : Func} {p q : Tmp} (h : fn.results = #[.cell p 26, .cell q 33]) (tmps : Array Value) (w : World) (g g2 : Nat) (c : Cx) (x : Ins) (hp : tmps.getD p undef = .pointer (some ⟨g, 0, none⟩)) (hq : tmps.getD q undef = .pointer (some ⟨g2, 0, none⟩)) (hc : Cel w g (cxA c) 26) (hk : Cel w g2 (insC x) 33) : (results fn tmps).run Tryd.prog w = .ok (.tuple #[.agg (cxA c), .agg (insC x)]) w := by
  have hp' : tmps[p]?.getD undef = .pointer (some ⟨g, 0, none⟩) := by simpa using hp
  have hq' : tmps[q]?.getD undef = .pointer (some ⟨g2, 0, none⟩) := by simpa using hq
  have hl := run_loadVar_row (P := Tryd.prog) w g 26 26 (cxA c) (0, 0) _ hc Tryd.underlying26 (by rfl) (by kernel_rfl)
  have hl2 := run_loadVar_row (P := Tryd.prog) w g2 33 33 (insC x) (0, 0) _ hk Tryd.underlying33 (by rfl) (by kernel_rfl)
  simp [results, h, hp', hq', asAddr, hl, hl2]

end Go.Proofs.YtllnpkijojpccaaDoor
