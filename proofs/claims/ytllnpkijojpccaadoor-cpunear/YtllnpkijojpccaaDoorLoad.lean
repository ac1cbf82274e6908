/- load, Step, Give, Fresh, Safe: the program's. -/
import Derived.Test.YtllnpkijojpccaaDoorMStep
import Derived.Test.YtllnpkijojpccaaDoorFill
namespace Go.Proofs.YtllnpkijojpccaaDoor
open Go Go.RowKit Go.Shelf

/-- The code that a machine is given. -/
def cdV (ps : List Ins) (a : Option Addr) (n : Nat) : Value := match wholeB ps with
  | true => .slice a ps.length n
  | false => .slice none 0 0
theorem cdV_spec {w : World} {ps : List Ins} {a : Option Addr} (n : Nat) (hp : PV w a ps) : ∃ a' n', cdV ps a n = .slice a' (codeL ps).length n' ∧ PV w a' (codeL ps) := by
  unfold cdV codeL
  cases wholeB ps
  · exact ⟨none, 0, rfl, PV.nil _ _⟩
  · exact ⟨a, n, rfl, hp⟩
/-- A machine in the result's cells; a context. -/
theorem results_cM {fn : Func} {p : Tmp} (h : fn.results = #[.cell p 54]) (tmps : Array Value) (w : World) (g : Nat) (c : Cx) (v : Value) (hp : tmps.getD p undef = .pointer (some ⟨g, 0, none⟩)) (hc : Cel w g (mcA c v) 54) : (results fn tmps).run Tryd.prog w = .ok (.agg (mcA c v)) w := by
  have hp' : tmps[p]?.getD undef = .pointer (some ⟨g, 0, none⟩) := by simpa using hp
  have hl := run_loadVar_row (P := Tryd.prog) w g 54 54 (mcA c v) (0, 0) _ hc Tryd.underlying54 (by rfl) (by kernel_rfl)
  simp [results, h, hp', asAddr, hl]
theorem results_cX {fn : Func} {p : Tmp} (h : fn.results = #[.cell p 26]) (tmps : Array Value) (w : World) (g : Nat) (c : Cx) (hp : tmps.getD p undef = .pointer (some ⟨g, 0, none⟩)) (hc : Cel w g (cxA c) 26) : (results fn tmps).run Tryd.prog w = .ok (.agg (cxA c)) w := by
  have hp' : tmps[p]?.getD undef = .pointer (some ⟨g, 0, none⟩) := by simpa using hp
  have hl := run_loadVar_row (P := Tryd.prog) w g 26 26 (cxA c) (0, 0) _ hc Tryd.underlying26 (by rfl) (by kernel_rfl)
  simp [results, h, hp', asAddr, hl]

set_option maxRecDepth 100000 in
set_option maxHeartbeats 2000000 in
theorem load_true {w : World} {ps : List Ins} {a : Option Addr} {n : Nat} (c : Cx) (HW : ∀ W : World, Below w.heap.size w W → Calls Tryd.prog 29 #[.slice a ps.length n] W fun e w' => e = .returned (.bool true) ∧ Below W.heap.size W w') :
    Calls Tryd.prog 20 #[.slice a ps.length n, .agg #[.int .i64 c.pg, .int .i64 c.pc, .int .i64 (c.rs 0), .int .i64 (c.rs 1), .int .i64 (c.rs 2), .int .i64 (c.rs 3), .int .i64 (c.rs 4), .int .i64 (c.rs 5), .int .i64 (c.rs 6), .int .i64 (c.rs 7), .int .i64 c.dp]] w fun e w' => e = .returned (.agg (mcA c (.slice a ps.length n))) ∧ Below w.heap.size w w' := by
  have eW : ∀ W : World, W = (w.alloc (.cells #[.int .i64 c.pg, .int .i64 c.pc, .int .i64 (c.rs 0), .int .i64 (c.rs 1), .int .i64 (c.rs 2), .int .i64 (c.rs 3), .int .i64 (c.rs 4), .int .i64 (c.rs 5), .int .i64 (c.rs 6), .int .i64 (c.rs 7), .int .i64 c.dp] 26)).alloc (.cells #[.int .i64 0, .int .i64 0, .int .i64 0, .int .i64 0, .int .i64 0, .int .i64 0, .int .i64 0, .int .i64 0, .int .i64 0, .int .i64 0, .int .i64 0, .slice none 0 0] 54) → Cel W w.heap.size #[.int .i64 c.pg, .int .i64 c.pc, .int .i64 (c.rs 0), .int .i64 (c.rs 1), .int .i64 (c.rs 2), .int .i64 (c.rs 3), .int .i64 (c.rs 4), .int .i64 (c.rs 5), .int .i64 (c.rs 6), .int .i64 (c.rs 7), .int .i64 c.dp] 26 ∧ Cel W (w.heap.size + 1) #[.int .i64 0, .int .i64 0, .int .i64 0, .int .i64 0, .int .i64 0, .int .i64 0, .int .i64 0, .int .i64 0, .int .i64 0, .int .i64 0, .int .i64 0, .slice none 0 0] 54 ∧ Below w.heap.size w W := by
    rintro W rfl
    refine ⟨(Cel.new w _ 26).put (Below.heap_alloc _ _ _ (by simp)), ?_, ((Below.refl _ w).alloc (Nat.le_refl _) _).alloc (by simp) _⟩
    have h := Cel.new (w.alloc (.cells #[.int .i64 c.pg, .int .i64 c.pc, .int .i64 (c.rs 0), .int .i64 (c.rs 1), .int .i64 (c.rs 2), .int .i64 (c.rs 3), .int .i64 (c.rs 4), .int .i64 (c.rs 5), .int .i64 (c.rs 6), .int .i64 (c.rs 7), .int .i64 c.dp] 26)) #[.int .i64 0, .int .i64 0, .int .i64 0, .int .i64 0, .int .i64 0, .int .i64 0, .int .i64 0, .int .i64 0, .int .i64 0, .int .i64 0, .int .i64 0, .slice none 0 0] 54
    rw [World.size_alloc] at h
    exact h
  obtain ⟨h0, h1, hB⟩ := eW _ rfl
  clear eW
  go_enter Tryd.func20, Tryd.ntmps20
  go_upto_region 1 with fail
  generalize (w.alloc (.cells #[.int .i64 c.pg, .int .i64 c.pc, .int .i64 (c.rs 0), .int .i64 (c.rs 1), .int .i64 (c.rs 2), .int .i64 (c.rs 3), .int .i64 (c.rs 4), .int .i64 (c.rs 5), .int .i64 (c.rs 6), .int .i64 (c.rs 7), .int .i64 c.dp] 26)).alloc (.cells #[.int .i64 0, .int .i64 0, .int .i64 0, .int .i64 0, .int .i64 0, .int .i64 0, .int .i64 0, .int .i64 0, .int .i64 0, .int .i64 0, .int .i64 0, .slice none 0 0] 54) = W at *
  go_upto_region 3 with (go_at_call 29; (refine (HW W hB).mono ?_); rintro e W1 ⟨rfl, hb1⟩)
  replace h0 := h0.below hb1
  replace h1 := h1.below hb1
  replace hB : Below w.heap.size w W1 := hB.trans (hb1.mono hB.size)
  clear HW hb1
  have x0 : W1.cell? ⟨w.heap.size, 0, none⟩ = some (.int .i64 c.pg) := h0.cell rfl
  have x1 : W1.cell? ⟨w.heap.size, 1, none⟩ = some (.int .i64 c.pc) := h0.cell rfl
  have x2 : W1.cell? ⟨w.heap.size, 2, none⟩ = some (.int .i64 (c.rs 0)) := h0.cell rfl
  have x3 : W1.cell? ⟨w.heap.size, 3, none⟩ = some (.int .i64 (c.rs 1)) := h0.cell rfl
  have x4 : W1.cell? ⟨w.heap.size, 4, none⟩ = some (.int .i64 (c.rs 2)) := h0.cell rfl
  have x5 : W1.cell? ⟨w.heap.size, 5, none⟩ = some (.int .i64 (c.rs 3)) := h0.cell rfl
  have x6 : W1.cell? ⟨w.heap.size, 6, none⟩ = some (.int .i64 (c.rs 4)) := h0.cell rfl
  have x7 : W1.cell? ⟨w.heap.size, 7, none⟩ = some (.int .i64 (c.rs 5)) := h0.cell rfl
  have x8 : W1.cell? ⟨w.heap.size, 8, none⟩ = some (.int .i64 (c.rs 6)) := h0.cell rfl
  have x9 : W1.cell? ⟨w.heap.size, 9, none⟩ = some (.int .i64 (c.rs 7)) := h0.cell rfl
  have x10 : W1.cell? ⟨w.heap.size, 10, none⟩ = some (.int .i64 c.dp) := h0.cell rfl
  have y0 : W1.cell? ⟨w.heap.size + 1, 0, none⟩ = some (.int .i64 0) := h1.cell rfl
  have y1 : W1.cell? ⟨w.heap.size + 1, 1, none⟩ = some (.int .i64 0) := h1.cell rfl
  have y2 : W1.cell? ⟨w.heap.size + 1, 2, none⟩ = some (.int .i64 0) := h1.cell rfl
  have y3 : W1.cell? ⟨w.heap.size + 1, 3, none⟩ = some (.int .i64 0) := h1.cell rfl
  have y4 : W1.cell? ⟨w.heap.size + 1, 4, none⟩ = some (.int .i64 0) := h1.cell rfl
  have y5 : W1.cell? ⟨w.heap.size + 1, 5, none⟩ = some (.int .i64 0) := h1.cell rfl
  have y6 : W1.cell? ⟨w.heap.size + 1, 6, none⟩ = some (.int .i64 0) := h1.cell rfl
  have y7 : W1.cell? ⟨w.heap.size + 1, 7, none⟩ = some (.int .i64 0) := h1.cell rfl
  have y8 : W1.cell? ⟨w.heap.size + 1, 8, none⟩ = some (.int .i64 0) := h1.cell rfl
  have y9 : W1.cell? ⟨w.heap.size + 1, 9, none⟩ = some (.int .i64 0) := h1.cell rfl
  have y10 : W1.cell? ⟨w.heap.size + 1, 10, none⟩ = some (.int .i64 0) := h1.cell rfl
  have y11 : W1.cell? ⟨w.heap.size + 1, 11, none⟩ = some (.slice none 0 0) := h1.cell rfl
  have f0 : W1.frozen? ⟨w.heap.size + 1, 0, none⟩ = false := h1.fz 0
  have f1 : W1.frozen? ⟨w.heap.size + 1, 1, none⟩ = false := h1.fz 1
  have f2 : W1.frozen? ⟨w.heap.size + 1, 2, none⟩ = false := h1.fz 2
  have f3 : W1.frozen? ⟨w.heap.size + 1, 3, none⟩ = false := h1.fz 3
  have f4 : W1.frozen? ⟨w.heap.size + 1, 4, none⟩ = false := h1.fz 4
  have f5 : W1.frozen? ⟨w.heap.size + 1, 5, none⟩ = false := h1.fz 5
  have f6 : W1.frozen? ⟨w.heap.size + 1, 6, none⟩ = false := h1.fz 6
  have f7 : W1.frozen? ⟨w.heap.size + 1, 7, none⟩ = false := h1.fz 7
  have f8 : W1.frozen? ⟨w.heap.size + 1, 8, none⟩ = false := h1.fz 8
  have f9 : W1.frozen? ⟨w.heap.size + 1, 9, none⟩ = false := h1.fz 9
  have f10 : W1.frozen? ⟨w.heap.size + 1, 10, none⟩ = false := h1.fz 10
  have f11 : W1.frozen? ⟨w.heap.size + 1, 11, none⟩ = false := h1.fz 11
  go_wp2_with fail
  refine bodyPost_ret (results_cM rfl _ _ (w.heap.size + 1) c (.slice a ps.length n) rfl ?_) rfl ⟨rfl, ?_⟩
  · exact Cel.fill12 _ _ _ _ _ _ _ _ _ _ _ _ h1
  · exact below_fill12 _ _ _ _ _ _ _ _ _ _ _ _ hB (Nat.le_refl _) (by omega)

set_option maxRecDepth 100000 in
set_option maxHeartbeats 2000000 in
theorem load_false {w : World} {ps : List Ins} {a : Option Addr} {n : Nat} (c : Cx) (HW : ∀ W : World, Below w.heap.size w W → Calls Tryd.prog 29 #[.slice a ps.length n] W fun e w' => e = .returned (.bool false) ∧ Below W.heap.size W w') :
    Calls Tryd.prog 20 #[.slice a ps.length n, .agg #[.int .i64 c.pg, .int .i64 c.pc, .int .i64 (c.rs 0), .int .i64 (c.rs 1), .int .i64 (c.rs 2), .int .i64 (c.rs 3), .int .i64 (c.rs 4), .int .i64 (c.rs 5), .int .i64 (c.rs 6), .int .i64 (c.rs 7), .int .i64 c.dp]] w fun e w' => e = .returned (.agg (mcA c (.slice none 0 0))) ∧ Below w.heap.size w w' := by
  have eW : ∀ W : World, W = (w.alloc (.cells #[.int .i64 c.pg, .int .i64 c.pc, .int .i64 (c.rs 0), .int .i64 (c.rs 1), .int .i64 (c.rs 2), .int .i64 (c.rs 3), .int .i64 (c.rs 4), .int .i64 (c.rs 5), .int .i64 (c.rs 6), .int .i64 (c.rs 7), .int .i64 c.dp] 26)).alloc (.cells #[.int .i64 0, .int .i64 0, .int .i64 0, .int .i64 0, .int .i64 0, .int .i64 0, .int .i64 0, .int .i64 0, .int .i64 0, .int .i64 0, .int .i64 0, .slice none 0 0] 54) → Cel W w.heap.size #[.int .i64 c.pg, .int .i64 c.pc, .int .i64 (c.rs 0), .int .i64 (c.rs 1), .int .i64 (c.rs 2), .int .i64 (c.rs 3), .int .i64 (c.rs 4), .int .i64 (c.rs 5), .int .i64 (c.rs 6), .int .i64 (c.rs 7), .int .i64 c.dp] 26 ∧ Cel W (w.heap.size + 1) #[.int .i64 0, .int .i64 0, .int .i64 0, .int .i64 0, .int .i64 0, .int .i64 0, .int .i64 0, .int .i64 0, .int .i64 0, .int .i64 0, .int .i64 0, .slice none 0 0] 54 ∧ Below w.heap.size w W := by
    rintro W rfl
    refine ⟨(Cel.new w _ 26).put (Below.heap_alloc _ _ _ (by simp)), ?_, ((Below.refl _ w).alloc (Nat.le_refl _) _).alloc (by simp) _⟩
    have h := Cel.new (w.alloc (.cells #[.int .i64 c.pg, .int .i64 c.pc, .int .i64 (c.rs 0), .int .i64 (c.rs 1), .int .i64 (c.rs 2), .int .i64 (c.rs 3), .int .i64 (c.rs 4), .int .i64 (c.rs 5), .int .i64 (c.rs 6), .int .i64 (c.rs 7), .int .i64 c.dp] 26)) #[.int .i64 0, .int .i64 0, .int .i64 0, .int .i64 0, .int .i64 0, .int .i64 0, .int .i64 0, .int .i64 0, .int .i64 0, .int .i64 0, .int .i64 0, .slice none 0 0] 54
    rw [World.size_alloc] at h
    exact h
  obtain ⟨h0, h1, hB⟩ := eW _ rfl
  clear eW
  go_enter Tryd.func20, Tryd.ntmps20
  go_upto_region 1 with fail
  generalize (w.alloc (.cells #[.int .i64 c.pg, .int .i64 c.pc, .int .i64 (c.rs 0), .int .i64 (c.rs 1), .int .i64 (c.rs 2), .int .i64 (c.rs 3), .int .i64 (c.rs 4), .int .i64 (c.rs 5), .int .i64 (c.rs 6), .int .i64 (c.rs 7), .int .i64 c.dp] 26)).alloc (.cells #[.int .i64 0, .int .i64 0, .int .i64 0, .int .i64 0, .int .i64 0, .int .i64 0, .int .i64 0, .int .i64 0, .int .i64 0, .int .i64 0, .int .i64 0, .slice none 0 0] 54) = W at *
  go_upto_region 3 with (go_at_call 29; (refine (HW W hB).mono ?_); rintro e W1 ⟨rfl, hb1⟩)
  replace h0 := h0.below hb1
  replace h1 := h1.below hb1
  replace hB : Below w.heap.size w W1 := hB.trans (hb1.mono hB.size)
  clear HW hb1
  have x0 : W1.cell? ⟨w.heap.size, 0, none⟩ = some (.int .i64 c.pg) := h0.cell rfl
  have x1 : W1.cell? ⟨w.heap.size, 1, none⟩ = some (.int .i64 c.pc) := h0.cell rfl
  have x2 : W1.cell? ⟨w.heap.size, 2, none⟩ = some (.int .i64 (c.rs 0)) := h0.cell rfl
  have x3 : W1.cell? ⟨w.heap.size, 3, none⟩ = some (.int .i64 (c.rs 1)) := h0.cell rfl
  have x4 : W1.cell? ⟨w.heap.size, 4, none⟩ = some (.int .i64 (c.rs 2)) := h0.cell rfl
  have x5 : W1.cell? ⟨w.heap.size, 5, none⟩ = some (.int .i64 (c.rs 3)) := h0.cell rfl
  have x6 : W1.cell? ⟨w.heap.size, 6, none⟩ = some (.int .i64 (c.rs 4)) := h0.cell rfl
  have x7 : W1.cell? ⟨w.heap.size, 7, none⟩ = some (.int .i64 (c.rs 5)) := h0.cell rfl
  have x8 : W1.cell? ⟨w.heap.size, 8, none⟩ = some (.int .i64 (c.rs 6)) := h0.cell rfl
  have x9 : W1.cell? ⟨w.heap.size, 9, none⟩ = some (.int .i64 (c.rs 7)) := h0.cell rfl
  have x10 : W1.cell? ⟨w.heap.size, 10, none⟩ = some (.int .i64 c.dp) := h0.cell rfl
  have y0 : W1.cell? ⟨w.heap.size + 1, 0, none⟩ = some (.int .i64 0) := h1.cell rfl
  have y1 : W1.cell? ⟨w.heap.size + 1, 1, none⟩ = some (.int .i64 0) := h1.cell rfl
  have y2 : W1.cell? ⟨w.heap.size + 1, 2, none⟩ = some (.int .i64 0) := h1.cell rfl
  have y3 : W1.cell? ⟨w.heap.size + 1, 3, none⟩ = some (.int .i64 0) := h1.cell rfl
  have y4 : W1.cell? ⟨w.heap.size + 1, 4, none⟩ = some (.int .i64 0) := h1.cell rfl
  have y5 : W1.cell? ⟨w.heap.size + 1, 5, none⟩ = some (.int .i64 0) := h1.cell rfl
  have y6 : W1.cell? ⟨w.heap.size + 1, 6, none⟩ = some (.int .i64 0) := h1.cell rfl
  have y7 : W1.cell? ⟨w.heap.size + 1, 7, none⟩ = some (.int .i64 0) := h1.cell rfl
  have y8 : W1.cell? ⟨w.heap.size + 1, 8, none⟩ = some (.int .i64 0) := h1.cell rfl
  have y9 : W1.cell? ⟨w.heap.size + 1, 9, none⟩ = some (.int .i64 0) := h1.cell rfl
  have y10 : W1.cell? ⟨w.heap.size + 1, 10, none⟩ = some (.int .i64 0) := h1.cell rfl
  have y11 : W1.cell? ⟨w.heap.size + 1, 11, none⟩ = some (.slice none 0 0) := h1.cell rfl
  have f0 : W1.frozen? ⟨w.heap.size + 1, 0, none⟩ = false := h1.fz 0
  have f1 : W1.frozen? ⟨w.heap.size + 1, 1, none⟩ = false := h1.fz 1
  have f2 : W1.frozen? ⟨w.heap.size + 1, 2, none⟩ = false := h1.fz 2
  have f3 : W1.frozen? ⟨w.heap.size + 1, 3, none⟩ = false := h1.fz 3
  have f4 : W1.frozen? ⟨w.heap.size + 1, 4, none⟩ = false := h1.fz 4
  have f5 : W1.frozen? ⟨w.heap.size + 1, 5, none⟩ = false := h1.fz 5
  have f6 : W1.frozen? ⟨w.heap.size + 1, 6, none⟩ = false := h1.fz 6
  have f7 : W1.frozen? ⟨w.heap.size + 1, 7, none⟩ = false := h1.fz 7
  have f8 : W1.frozen? ⟨w.heap.size + 1, 8, none⟩ = false := h1.fz 8
  have f9 : W1.frozen? ⟨w.heap.size + 1, 9, none⟩ = false := h1.fz 9
  have f10 : W1.frozen? ⟨w.heap.size + 1, 10, none⟩ = false := h1.fz 10
  have f11 : W1.frozen? ⟨w.heap.size + 1, 11, none⟩ = false := h1.fz 11
  go_wp2_with fail
  refine bodyPost_ret (results_cM rfl _ _ (w.heap.size + 1) c (.slice none 0 0) rfl ?_) rfl ⟨rfl, ?_⟩
  · exact Cel.fill12 _ _ _ _ _ _ _ _ _ _ _ _ h1
  · exact below_fill12 _ _ _ _ _ _ _ _ _ _ _ _ hB (Nat.le_refl _) (by omega)

theorem load_any {w : World} {ps : List Ins} {a : Option Addr} (n : Nat) (c : Cx) (hp : PV w a ps) (hT : Tab w) :
    Calls Tryd.prog 20 #[.slice a ps.length n, .agg (cxA c)] w fun e w' => e = .returned (.agg (mcA c (cdV ps a n))) ∧ Below w.heap.size w w' := by
  have HW : ∀ W : World, Below w.heap.size w W → Calls Tryd.prog 29 #[.slice a ps.length n] W fun e w' => e = .returned (.bool (wholeB ps)) ∧ Below W.heap.size W w' := fun W hb => whole_any n (hp.below hb) (hT.on hb)
  unfold cdV cxA
  cases hw : wholeB ps with
  | true =>
    rw [hw] at HW
    exact load_true c HW
  | false =>
    rw [hw] at HW
    exact load_false c HW

end Go.Proofs.YtllnpkijojpccaaDoor
