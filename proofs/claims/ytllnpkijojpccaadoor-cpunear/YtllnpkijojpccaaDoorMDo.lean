/- What an instruction does: the program's; what it begins and ends with. -/
import Derived.Test.YtllnpkijojpccaaDoorMch
namespace Go.Proofs.YtllnpkijojpccaaDoor
open Go Go.RowKit Go.Shelf

theorem mixed : Tryd.prog.follows .mixedOrders = true := by kernel_rfl
def z4A : Array Value := #[.int .i64 0, .int .i64 0, .int .i64 0, .int .i64 0]
/-- What a walk of do begins with: a machine, an instruction's box, the result's cell. -/
structure Do (w W : World) (B : Nat) (c : Cx) (v : Value) (x : Ins) : Prop where
  m : MC W B c v
  i : Cel W w.heap.size (insC x) 51
  r : Cel W (w.heap.size + 1) #[.int .i64 0, .int .i64 0, .int .i64 0, .int .i64 0] 30
  b : But [B] w W
  lt : B < w.heap.size
section
variable {w W : World} {B : Nat} {c : Cx} {v : Value} {x : Ins}
theorem do_start (hM : MC w B c v) : Do w ((w.alloc (.cells #[.int .i64 x.1, .int .i64 x.2.1, .int .i64 x.2.2.1, .int .i64 x.2.2.2] 51)).alloc (.cells #[.int .i64 0, .int .i64 0, .int .i64 0, .int .i64 0] 30)) B c v x := by
  refine ⟨?_, ?_, ?_, ((But.refl _ _).alloc _).alloc _, hM.lt⟩
  · exact (Cel.put hM (Below.heap_alloc _ _ _ hM.lt)).put (Below.heap_alloc _ _ _ (by simp; have := hM.lt; omega))
  · exact (Cel.new w _ 51).put (Below.heap_alloc _ _ _ (by simp))
  · have h := Cel.new (w.alloc (.cells #[.int .i64 x.1, .int .i64 x.2.1, .int .i64 x.2.2.1, .int .i64 x.2.2.2] 51)) #[.int .i64 0, .int .i64 0, .int .i64 0, .int .i64 0] 30
    rw [World.size_alloc] at h
    exact h
theorem Do.drewN (h : Do w W B c v x) (n : Nat) : Do w (W.drewN n) B c v x := ⟨h.m, h.i, h.r, h.b.drewN n, h.lt⟩
theorem Do.put {W' : World} {c' : Cx} (h : Do w W B c v x) (hM : MC W' B c' v) (hb : But [B] W W') : Do w W' B c' v x :=
  ⟨hM, h.i.but hb (by simp; have := h.lt; omega), h.r.but hb (by simp; have := h.lt; omega), h.b.trans hb, h.lt⟩
theorem Do.i0 (h : Do w W B c v x) : W.cell? ⟨w.heap.size, 0, none⟩ = some (.int .i64 x.1) := h.i.cell rfl
theorem Do.i1 (h : Do w W B c v x) : W.cell? ⟨w.heap.size, 1, none⟩ = some (.int .i64 x.2.1) := h.i.cell rfl
theorem Do.i2 (h : Do w W B c v x) : W.cell? ⟨w.heap.size, 2, none⟩ = some (.int .i64 x.2.2.1) := h.i.cell rfl
theorem Do.i3 (h : Do w W B c v x) : W.cell? ⟨w.heap.size, 3, none⟩ = some (.int .i64 x.2.2.2) := h.i.cell rfl
theorem Do.r0 (h : Do w W B c v x) : W.cell? ⟨w.heap.size + 1, 0, none⟩ = some (.int .i64 0) := h.r.cell rfl
theorem Do.r1 (h : Do w W B c v x) : W.cell? ⟨w.heap.size + 1, 1, none⟩ = some (.int .i64 0) := h.r.cell rfl
theorem Do.r2 (h : Do w W B c v x) : W.cell? ⟨w.heap.size + 1, 2, none⟩ = some (.int .i64 0) := h.r.cell rfl
theorem Do.r3 (h : Do w W B c v x) : W.cell? ⟨w.heap.size + 1, 3, none⟩ = some (.int .i64 0) := h.r.cell rfl
theorem Do.f (h : Do w W B c v x) (j : Nat) : W.frozen? ⟨w.heap.size + 1, j, none⟩ = false := h.r.fz j

theorem get_do (h : Do w W B c v x) (n : Nat) (i : Int) : Calls Tryd.prog 35 #[.pointer (some ⟨B, 0, none⟩), .int .i64 i] (W.drewN n) fun e w' => e = .returned (.int .i64 (getR c i)) ∧ w' = W.drewN n := get_any (h.drewN n).m i
theorem put_do (h : Do w W B c v x) (i y : Int) : Calls Tryd.prog 25 #[.pointer (some ⟨B, 0, none⟩), .int .i64 i, .int .i64 y] W fun e w' => e = .returned (.tuple #[]) ∧ Do w w' B (putR c i y) v x := (put_any h.m i y).mono fun _ _ ⟨e, hm, hb⟩ => ⟨e, h.put hm hb⟩
theorem branch_do (h : Do w W B c v x) (t : Int) (b : Bool) : Calls Tryd.prog 37 #[.pointer (some ⟨B, 0, none⟩), .int .i64 t, .bool b] W fun e w' => e = .returned (.tuple #[]) ∧ Do w w' B (brC c t b) v x := (branch_any h.m t b).mono fun _ _ ⟨e, hm, hb⟩ => ⟨e, h.put hm hb⟩

/-- A call in the result's cells. -/
theorem results_cK {fn : Func} {p : Tmp} (h : fn.results = #[.cell p 30]) (tmps : Array Value) (w : World) (g : Nat) (x : Ins) (hp : tmps.getD p undef = .pointer (some ⟨g, 0, none⟩)) (hc : Cel w g (insC x) 30) : (results fn tmps).run Tryd.prog w = .ok (.agg (insC x)) w := by
  have hp' : tmps[p]?.getD undef = .pointer (some ⟨g, 0, none⟩) := by simpa using hp
  have hl := run_loadVar_row (P := Tryd.prog) w g 30 30 (insC x) (0, 0) _ hc Tryd.underlying30 (by rfl) (by kernel_rfl)
  simp [results, h, hp', asAddr, hl]
/-- The world behind do: the call is stored. -/
theorem Do.fin (h : Do w W B c v x) (k : Ins) : Cel ((((W.setCell ⟨w.heap.size + 1, 0, none⟩ (.int .i64 k.1)).setCell ⟨w.heap.size + 1, 1, none⟩ (.int .i64 k.2.1)).setCell ⟨w.heap.size + 1, 2, none⟩ (.int .i64 k.2.2.1)).setCell ⟨w.heap.size + 1, 3, none⟩ (.int .i64 k.2.2.2)) (w.heap.size + 1) (insC k) 30 ∧
    MC ((((W.setCell ⟨w.heap.size + 1, 0, none⟩ (.int .i64 k.1)).setCell ⟨w.heap.size + 1, 1, none⟩ (.int .i64 k.2.1)).setCell ⟨w.heap.size + 1, 2, none⟩ (.int .i64 k.2.2.1)).setCell ⟨w.heap.size + 1, 3, none⟩ (.int .i64 k.2.2.2)) B c v ∧
    But [B] w ((((W.setCell ⟨w.heap.size + 1, 0, none⟩ (.int .i64 k.1)).setCell ⟨w.heap.size + 1, 1, none⟩ (.int .i64 k.2.1)).setCell ⟨w.heap.size + 1, 2, none⟩ (.int .i64 k.2.2.1)).setCell ⟨w.heap.size + 1, 3, none⟩ (.int .i64 k.2.2.2)) := by
  have hne : B ≠ w.heap.size + 1 := by have := h.lt; omega
  refine ⟨(((h.r.set _).set _).set _).set _, (((Cel.other h.m hne _).other hne _).other hne _).other hne _, h.b.trans_new (((((But.refl [w.heap.size + 1] W).set (by simp) _).set (by simp) _).set (by simp) _).set (by simp) _) (by simp)⟩
end
end Go.Proofs.YtllnpkijojpccaaDoor
