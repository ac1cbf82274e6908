/- Step: the program's. -/
import Derived.Test.YtllnpkijojpccaaDoorLoad
namespace Go.Proofs.YtllnpkijojpccaaDoor
open Go Go.RowKit Go.Shelf

/-- Two results in cells of their own: a context and a call. -/
theorem results_XK {fn : Func} {p q : Tmp} (h : fn.results = #[.cell p 26, .cell q 30]) (tmps : Array Value) (w : World) (g g2 : Nat) (c : Cx) (x : Ins) (hp : tmps.getD p undef = .pointer (some ⟨g, 0, none⟩)) (hq : tmps.getD q undef = .pointer (some ⟨g2, 0, none⟩)) (hc : Cel w g (cxA c) 26) (hk : Cel w g2 (insC x) 30) : (results fn tmps).run Tryd.prog w = .ok (.tuple #[.agg (cxA c), .agg (insC x)]) w := by
  have hp' : tmps[p]?.getD undef = .pointer (some ⟨g, 0, none⟩) := by simpa using hp
  have hq' : tmps[q]?.getD undef = .pointer (some ⟨g2, 0, none⟩) := by simpa using hq
  have hl := run_loadVar_row (P := Tryd.prog) w g 26 26 (cxA c) (0, 0) _ hc Tryd.underlying26 (by rfl) (by kernel_rfl)
  have hl2 := run_loadVar_row (P := Tryd.prog) w g2 30 30 (insC x) (0, 0) _ hk Tryd.underlying30 (by rfl) (by kernel_rfl)
  simp [results, h, hp', hq', asAddr, hl, hl2]

set_option maxRecDepth 100000 in
set_option maxHeartbeats 4000000 in
theorem step_go {w : World} {ps : List Ins} {a a' : Option Addr} {n n' : Nat} {c c' : Cx} {k0 k1 k2 k3 : Int}
    (HL : ∀ W : World, Below w.heap.size w W → Calls Tryd.prog 20 #[.slice a ps.length n, .agg #[.int .i64 c.pg, .int .i64 c.pc, .int .i64 (c.rs 0), .int .i64 (c.rs 1), .int .i64 (c.rs 2), .int .i64 (c.rs 3), .int .i64 (c.rs 4), .int .i64 (c.rs 5), .int .i64 (c.rs 6), .int .i64 (c.rs 7), .int .i64 c.dp]] W fun e w' => e = .returned (.agg #[.int .i64 c.pg, .int .i64 c.pc, .int .i64 (c.rs 0), .int .i64 (c.rs 1), .int .i64 (c.rs 2), .int .i64 (c.rs 3), .int .i64 (c.rs 4), .int .i64 (c.rs 5), .int .i64 (c.rs 6), .int .i64 (c.rs 7), .int .i64 c.dp, .slice a' (codeL ps).length n']) ∧ Below W.heap.size W w')
    (HS : ∀ (W : World) (B : Nat), MC W B c (.slice a' (codeL ps).length n') → Below w.heap.size w W → Calls Tryd.prog 21 #[.pointer (some ⟨B, 0, none⟩)] W fun e w' => e = .returned (.agg #[.int .i64 k0, .int .i64 k1, .int .i64 k2, .int .i64 k3]) ∧ MC w' B c' (.slice a' (codeL ps).length n') ∧ But [B] W w') :
    Calls Tryd.prog 10 #[.slice a ps.length n, .agg #[.int .i64 c.pg, .int .i64 c.pc, .int .i64 (c.rs 0), .int .i64 (c.rs 1), .int .i64 (c.rs 2), .int .i64 (c.rs 3), .int .i64 (c.rs 4), .int .i64 (c.rs 5), .int .i64 (c.rs 6), .int .i64 (c.rs 7), .int .i64 c.dp]] w fun e w' => e = .returned (.tuple #[.agg (cxA c'), .agg (insC (k0, k1, k2, k3))]) ∧ Below w.heap.size w w' := by
  have hmx := mixed
  have eW : ∀ W : World, W = ((w.alloc (.cells #[.int .i64 c.pg, .int .i64 c.pc, .int .i64 (c.rs 0), .int .i64 (c.rs 1), .int .i64 (c.rs 2), .int .i64 (c.rs 3), .int .i64 (c.rs 4), .int .i64 (c.rs 5), .int .i64 (c.rs 6), .int .i64 (c.rs 7), .int .i64 c.dp] 26)).alloc (.cells #[.int .i64 0, .int .i64 0, .int .i64 0, .int .i64 0, .int .i64 0, .int .i64 0, .int .i64 0, .int .i64 0, .int .i64 0, .int .i64 0, .int .i64 0] 26)).alloc (.cells #[.int .i64 0, .int .i64 0, .int .i64 0, .int .i64 0] 30) → Cel W w.heap.size #[.int .i64 c.pg, .int .i64 c.pc, .int .i64 (c.rs 0), .int .i64 (c.rs 1), .int .i64 (c.rs 2), .int .i64 (c.rs 3), .int .i64 (c.rs 4), .int .i64 (c.rs 5), .int .i64 (c.rs 6), .int .i64 (c.rs 7), .int .i64 c.dp] 26 ∧ Cel W (w.heap.size + 1) #[.int .i64 0, .int .i64 0, .int .i64 0, .int .i64 0, .int .i64 0, .int .i64 0, .int .i64 0, .int .i64 0, .int .i64 0, .int .i64 0, .int .i64 0] 26 ∧ Cel W (w.heap.size + 1 + 1) #[.int .i64 0, .int .i64 0, .int .i64 0, .int .i64 0] 30 ∧ Below w.heap.size w W ∧ W.heap.size = w.heap.size + 1 + 1 + 1 := by
    rintro W rfl
    refine ⟨((Cel.new w _ 26).put (Below.heap_alloc _ _ _ (by simp))).put (Below.heap_alloc _ _ _ (by simp; omega)), ?_, ?_, (((Below.refl _ w).alloc (Nat.le_refl _) _).alloc (by simp) _).alloc (by simp; omega) _, by simp⟩
    · have h := Cel.new (w.alloc (.cells #[.int .i64 c.pg, .int .i64 c.pc, .int .i64 (c.rs 0), .int .i64 (c.rs 1), .int .i64 (c.rs 2), .int .i64 (c.rs 3), .int .i64 (c.rs 4), .int .i64 (c.rs 5), .int .i64 (c.rs 6), .int .i64 (c.rs 7), .int .i64 c.dp] 26)) #[.int .i64 0, .int .i64 0, .int .i64 0, .int .i64 0, .int .i64 0, .int .i64 0, .int .i64 0, .int .i64 0, .int .i64 0, .int .i64 0, .int .i64 0] 26
      rw [World.size_alloc] at h
      exact h.put (Below.heap_alloc _ _ _ (by simp))
    · have h := Cel.new ((w.alloc (.cells #[.int .i64 c.pg, .int .i64 c.pc, .int .i64 (c.rs 0), .int .i64 (c.rs 1), .int .i64 (c.rs 2), .int .i64 (c.rs 3), .int .i64 (c.rs 4), .int .i64 (c.rs 5), .int .i64 (c.rs 6), .int .i64 (c.rs 7), .int .i64 c.dp] 26)).alloc (.cells #[.int .i64 0, .int .i64 0, .int .i64 0, .int .i64 0, .int .i64 0, .int .i64 0, .int .i64 0, .int .i64 0, .int .i64 0, .int .i64 0, .int .i64 0] 26)) #[.int .i64 0, .int .i64 0, .int .i64 0, .int .i64 0] 30
      rw [World.size_alloc, World.size_alloc] at h
      exact h
  obtain ⟨h0, h1, h2, hB, hsz⟩ := eW _ rfl
  clear eW
  go_enter Tryd.func10, Tryd.ntmps10
  go_upto_region 1 with fail
  generalize ((w.alloc (.cells #[.int .i64 c.pg, .int .i64 c.pc, .int .i64 (c.rs 0), .int .i64 (c.rs 1), .int .i64 (c.rs 2), .int .i64 (c.rs 3), .int .i64 (c.rs 4), .int .i64 (c.rs 5), .int .i64 (c.rs 6), .int .i64 (c.rs 7), .int .i64 c.dp] 26)).alloc (.cells #[.int .i64 0, .int .i64 0, .int .i64 0, .int .i64 0, .int .i64 0, .int .i64 0, .int .i64 0, .int .i64 0, .int .i64 0, .int .i64 0, .int .i64 0] 26)).alloc (.cells #[.int .i64 0, .int .i64 0, .int .i64 0, .int .i64 0] 30) = W at *
  have x0 : W.cell? ⟨w.heap.size, 0, none⟩ = some (.int .i64 c.pg) := h0.cell rfl
  have x1 : W.cell? ⟨w.heap.size, 1, none⟩ = some (.int .i64 c.pc) := h0.cell rfl
  have x2 : W.cell? ⟨w.heap.size, 2, none⟩ = some (.int .i64 (c.rs 0)) := h0.cell rfl
  have x3 : W.cell? ⟨w.heap.size, 3, none⟩ = some (.int .i64 (c.rs 1)) := h0.cell rfl
  have x4 : W.cell? ⟨w.heap.size, 4, none⟩ = some (.int .i64 (c.rs 2)) := h0.cell rfl
  have x5 : W.cell? ⟨w.heap.size, 5, none⟩ = some (.int .i64 (c.rs 3)) := h0.cell rfl
  have x6 : W.cell? ⟨w.heap.size, 6, none⟩ = some (.int .i64 (c.rs 4)) := h0.cell rfl
  have x7 : W.cell? ⟨w.heap.size, 7, none⟩ = some (.int .i64 (c.rs 5)) := h0.cell rfl
  have x8 : W.cell? ⟨w.heap.size, 8, none⟩ = some (.int .i64 (c.rs 6)) := h0.cell rfl
  have x9 : W.cell? ⟨w.heap.size, 9, none⟩ = some (.int .i64 (c.rs 7)) := h0.cell rfl
  have x10 : W.cell? ⟨w.heap.size, 10, none⟩ = some (.int .i64 c.dp) := h0.cell rfl
  go_upto_region 2 with (go_at_call 20; (refine (HL W hB).mono ?_); rintro e W1 ⟨rfl, hb1⟩)
  have eV : ∀ V : World, V = W1.alloc (.cells #[.int .i64 c.pg, .int .i64 c.pc, .int .i64 (c.rs 0), .int .i64 (c.rs 1), .int .i64 (c.rs 2), .int .i64 (c.rs 3), .int .i64 (c.rs 4), .int .i64 (c.rs 5), .int .i64 (c.rs 6), .int .i64 (c.rs 7), .int .i64 c.dp, .slice a' (codeL ps).length n'] 54) → MC V W1.heap.size c (.slice a' (codeL ps).length n') ∧ Cel V (w.heap.size + 1) #[.int .i64 0, .int .i64 0, .int .i64 0, .int .i64 0, .int .i64 0, .int .i64 0, .int .i64 0, .int .i64 0, .int .i64 0, .int .i64 0, .int .i64 0] 26 ∧ Cel V (w.heap.size + 1 + 1) #[.int .i64 0, .int .i64 0, .int .i64 0, .int .i64 0] 30 ∧ Below w.heap.size w V ∧ w.heap.size + 1 + 1 < W1.heap.size := by
    rintro V rfl
    have hs := hb1.size
    exact ⟨Cel.new W1 _ 54, (h1.below hb1).put (Below.heap_alloc _ _ _ (h1.below hb1).lt), (h2.below hb1).put (Below.heap_alloc _ _ _ (h2.below hb1).lt), (hB.trans (hb1.mono hB.size)).alloc (by omega) _, by omega⟩
  obtain ⟨hM, g1, g2, hBV, hlt⟩ := eV _ rfl
  clear eV hb1 h0 h1 h2 hB hsz HL x0 x1 x2 x3 x4 x5 x6 x7 x8 x9 x10
  generalize W1.alloc (.cells #[.int .i64 c.pg, .int .i64 c.pc, .int .i64 (c.rs 0), .int .i64 (c.rs 1), .int .i64 (c.rs 2), .int .i64 (c.rs 3), .int .i64 (c.rs 4), .int .i64 (c.rs 5), .int .i64 (c.rs 6), .int .i64 (c.rs 7), .int .i64 c.dp, .slice a' (codeL ps).length n'] 54) = V at *
  generalize W1.heap.size = B at *
  go_upto_region 3 with (go_at_call 21; (refine (HS V B hM hBV).mono ?_); rintro e W3 ⟨rfl, hM3, hb3⟩)
  have eU : ∀ U : World, U = W3.alloc (.cells #[.int .i64 k0, .int .i64 k1, .int .i64 k2, .int .i64 k3] 30) → MC U B c' (.slice a' (codeL ps).length n') ∧ Cel U (w.heap.size + 1) #[.int .i64 0, .int .i64 0, .int .i64 0, .int .i64 0, .int .i64 0, .int .i64 0, .int .i64 0, .int .i64 0, .int .i64 0, .int .i64 0, .int .i64 0] 26 ∧ Cel U (w.heap.size + 1 + 1) #[.int .i64 0, .int .i64 0, .int .i64 0, .int .i64 0] 30 ∧ Cel U W3.heap.size #[.int .i64 k0, .int .i64 k1, .int .i64 k2, .int .i64 k3] 30 ∧ Below w.heap.size w U ∧ B < W3.heap.size := by
    rintro U rfl
    have l1 := g1.but hb3 (by simp; omega)
    have l2 := g2.but hb3 (by simp; omega)
    have hlM := hM3.lt
    exact ⟨Cel.put hM3 (Below.heap_alloc _ _ _ hlM), l1.put (Below.heap_alloc _ _ _ l1.lt), l2.put (Below.heap_alloc _ _ _ l2.lt), Cel.new W3 _ 30, (hBV.trans (hb3.below hBV.size (by simp; omega))).alloc (by have := l1.lt; omega) _, hlM⟩
  obtain ⟨jM, j1, j2, jK, hBU, hlt2⟩ := eU _ rfl
  clear eU hM3 hb3 g1 g2 hBV hM HS
  generalize W3.alloc (.cells #[.int .i64 k0, .int .i64 k1, .int .i64 k2, .int .i64 k3] 30) = U at *
  generalize W3.heap.size = D at *
  have nB : w.heap.size + 1 ≠ B := by omega
  have nB2 : w.heap.size + 1 + 1 ≠ B := by omega
  have nD : w.heap.size + 1 ≠ D := by omega
  have nD2 : w.heap.size + 1 + 1 ≠ D := by omega
  have y0 : U.cell? ⟨B, 0, none⟩ = some (.int .i64 c'.pg) := Cel.cell jM rfl
  have y1 : U.cell? ⟨B, 1, none⟩ = some (.int .i64 c'.pc) := Cel.cell jM rfl
  have y2 : U.cell? ⟨B, 2, none⟩ = some (.int .i64 (c'.rs 0)) := Cel.cell jM rfl
  have y3 : U.cell? ⟨B, 3, none⟩ = some (.int .i64 (c'.rs 1)) := Cel.cell jM rfl
  have y4 : U.cell? ⟨B, 4, none⟩ = some (.int .i64 (c'.rs 2)) := Cel.cell jM rfl
  have y5 : U.cell? ⟨B, 5, none⟩ = some (.int .i64 (c'.rs 3)) := Cel.cell jM rfl
  have y6 : U.cell? ⟨B, 6, none⟩ = some (.int .i64 (c'.rs 4)) := Cel.cell jM rfl
  have y7 : U.cell? ⟨B, 7, none⟩ = some (.int .i64 (c'.rs 5)) := Cel.cell jM rfl
  have y8 : U.cell? ⟨B, 8, none⟩ = some (.int .i64 (c'.rs 6)) := Cel.cell jM rfl
  have y9 : U.cell? ⟨B, 9, none⟩ = some (.int .i64 (c'.rs 7)) := Cel.cell jM rfl
  have y10 : U.cell? ⟨B, 10, none⟩ = some (.int .i64 c'.dp) := Cel.cell jM rfl
  have y11 : U.cell? ⟨B, 11, none⟩ = some (.slice a' (codeL ps).length n') := Cel.cell jM rfl
  have q0 : U.cell? ⟨D, 0, none⟩ = some (.int .i64 k0) := jK.cell rfl
  have q1 : U.cell? ⟨D, 1, none⟩ = some (.int .i64 k1) := jK.cell rfl
  have q2 : U.cell? ⟨D, 2, none⟩ = some (.int .i64 k2) := jK.cell rfl
  have q3 : U.cell? ⟨D, 3, none⟩ = some (.int .i64 k3) := jK.cell rfl
  have z0 : U.cell? ⟨w.heap.size + 1, 0, none⟩ = some (.int .i64 0) := j1.cell rfl
  have z1 : U.cell? ⟨w.heap.size + 1, 1, none⟩ = some (.int .i64 0) := j1.cell rfl
  have z2 : U.cell? ⟨w.heap.size + 1, 2, none⟩ = some (.int .i64 0) := j1.cell rfl
  have z3 : U.cell? ⟨w.heap.size + 1, 3, none⟩ = some (.int .i64 0) := j1.cell rfl
  have z4 : U.cell? ⟨w.heap.size + 1, 4, none⟩ = some (.int .i64 0) := j1.cell rfl
  have z5 : U.cell? ⟨w.heap.size + 1, 5, none⟩ = some (.int .i64 0) := j1.cell rfl
  have z6 : U.cell? ⟨w.heap.size + 1, 6, none⟩ = some (.int .i64 0) := j1.cell rfl
  have z7 : U.cell? ⟨w.heap.size + 1, 7, none⟩ = some (.int .i64 0) := j1.cell rfl
  have z8 : U.cell? ⟨w.heap.size + 1, 8, none⟩ = some (.int .i64 0) := j1.cell rfl
  have z9 : U.cell? ⟨w.heap.size + 1, 9, none⟩ = some (.int .i64 0) := j1.cell rfl
  have z10 : U.cell? ⟨w.heap.size + 1, 10, none⟩ = some (.int .i64 0) := j1.cell rfl
  have f0 : U.frozen? ⟨w.heap.size + 1, 0, none⟩ = false := j1.fz 0
  have f1 : U.frozen? ⟨w.heap.size + 1, 1, none⟩ = false := j1.fz 1
  have f2 : U.frozen? ⟨w.heap.size + 1, 2, none⟩ = false := j1.fz 2
  have f3 : U.frozen? ⟨w.heap.size + 1, 3, none⟩ = false := j1.fz 3
  have f4 : U.frozen? ⟨w.heap.size + 1, 4, none⟩ = false := j1.fz 4
  have f5 : U.frozen? ⟨w.heap.size + 1, 5, none⟩ = false := j1.fz 5
  have f6 : U.frozen? ⟨w.heap.size + 1, 6, none⟩ = false := j1.fz 6
  have f7 : U.frozen? ⟨w.heap.size + 1, 7, none⟩ = false := j1.fz 7
  have f8 : U.frozen? ⟨w.heap.size + 1, 8, none⟩ = false := j1.fz 8
  have f9 : U.frozen? ⟨w.heap.size + 1, 9, none⟩ = false := j1.fz 9
  have f10 : U.frozen? ⟨w.heap.size + 1, 10, none⟩ = false := j1.fz 10
  have u0 : U.cell? ⟨w.heap.size + 1 + 1, 0, none⟩ = some (.int .i64 0) := j2.cell rfl
  have u1 : U.cell? ⟨w.heap.size + 1 + 1, 1, none⟩ = some (.int .i64 0) := j2.cell rfl
  have u2 : U.cell? ⟨w.heap.size + 1 + 1, 2, none⟩ = some (.int .i64 0) := j2.cell rfl
  have u3 : U.cell? ⟨w.heap.size + 1 + 1, 3, none⟩ = some (.int .i64 0) := j2.cell rfl
  have e0 : U.frozen? ⟨w.heap.size + 1 + 1, 0, none⟩ = false := j2.fz 0
  have e1 : U.frozen? ⟨w.heap.size + 1 + 1, 1, none⟩ = false := j2.fz 1
  have e2 : U.frozen? ⟨w.heap.size + 1 + 1, 2, none⟩ = false := j2.fz 2
  have e3 : U.frozen? ⟨w.heap.size + 1 + 1, 3, none⟩ = false := j2.fz 3
  go_region
  have nS : w.heap.size + 1 ≠ w.heap.size + 1 + 1 := by omega
  go_wp2_with fail
  refine bodyPost_ret (results_XK rfl _ _ (w.heap.size + 1) (w.heap.size + 1 + 1) c' (k0, k1, k2, k3) rfl rfl ?_ ?_) rfl ⟨rfl, ?_⟩
  · exact (Cel.over4 _ _ _ _ (Cel.fill11 _ _ _ _ _ _ _ _ _ _ _ j1) nS).drew_
  · exact (Cel.fill4 _ _ _ _ (Cel.over11 _ _ _ _ _ _ _ _ _ _ _ j2 nS.symm)).drew_
  · exact (below_fill4 _ _ _ _ (below_fill11 _ _ _ _ _ _ _ _ _ _ _ hBU (Nat.le_refl _) (by omega)) (Nat.le_refl _) (by omega)).drew

theorem Step_any {w : World} {ps : List Ins} {a : Option Addr} (n : Nat) (c : Cx) (hp : PV w a ps) (hT : Tab w) :
    Calls Tryd.prog 10 #[.slice a ps.length n, .agg (cxA c)] w fun e w' => e = .returned (.tuple #[.agg (cxA (stepC (codeL ps) c).1), .agg (insC (stepC (codeL ps) c).2)]) ∧ Below w.heap.size w w' := by
  obtain ⟨a', n', hcd, hp'⟩ := cdV_spec n hp
  have HL : ∀ W : World, Below w.heap.size w W → Calls Tryd.prog 20 #[.slice a ps.length n, .agg (cxA c)] W fun e w' => e = .returned (.agg (mcA c (.slice a' (codeL ps).length n'))) ∧ Below W.heap.size W w' := fun W hb => by
    have h := load_any n c (hp.below hb) (hT.on hb)
    rw [hcd] at h
    exact h
  have HS : ∀ (W : World) (B : Nat), MC W B c (.slice a' (codeL ps).length n') → Below w.heap.size w W → Calls Tryd.prog 21 #[.pointer (some ⟨B, 0, none⟩)] W fun e w' => e = .returned (.agg (insC (stepC (codeL ps) c).2)) ∧ MC w' B (stepC (codeL ps) c).1 (.slice a' (codeL ps).length n') ∧ But [B] W w' := fun W B hM hb => step_any hM (hp'.below hb) (codeL_len ps)
  generalize stepC (codeL ps) c = q at *
  obtain ⟨c', k0, k1, k2, k3⟩ := q
  exact step_go HL HS

end Go.Proofs.YtllnpkijojpccaaDoor
