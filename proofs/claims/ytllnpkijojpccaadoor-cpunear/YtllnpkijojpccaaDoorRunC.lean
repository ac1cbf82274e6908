/- Run: the program's. -/
import Derived.Test.YtllnpkijojpccaaDoorStepC
namespace Go.Proofs.YtllnpkijojpccaaDoor
open Go Go.RowKit Go.Shelf

theorem results_XKI {fn : Func} {p q t : Tmp} (h : fn.results = #[.cell p 26, .cell q 30, .tmp t]) (tmps : Array Value) (w : World) (g g2 : Nat) (c : Cx) (x : Ins) (v : Value) (hp : tmps.getD p undef = .pointer (some ⟨g, 0, none⟩)) (hq : tmps.getD q undef = .pointer (some ⟨g2, 0, none⟩)) (ht : tmps.getD t undef = v) (hc : Cel w g (cxA c) 26) (hk : Cel w g2 (insC x) 30) : (results fn tmps).run Tryd.prog w = .ok (.tuple #[.agg (cxA c), .agg (insC x), v]) w := by
  have hp' : tmps[p]?.getD undef = .pointer (some ⟨g, 0, none⟩) := by simpa using hp
  have hq' : tmps[q]?.getD undef = .pointer (some ⟨g2, 0, none⟩) := by simpa using hq
  have ht' : tmps[t]?.getD undef = v := by simpa using ht
  have hl := run_loadVar_row (P := Tryd.prog) w g 26 26 (cxA c) (0, 0) _ hc Tryd.underlying26 (by rfl) (by kernel_rfl)
  have hl2 := run_loadVar_row (P := Tryd.prog) w g2 30 30 (insC x) (0, 0) _ hk Tryd.underlying30 (by rfl) (by kernel_rfl)
  simp [results, h, hp', hq', ht', asAddr, hl, hl2]

/-- So many steps more. -/
def shiftR (i : Nat) (r : Cx × Ins × Nat) : Cx × Ins × Nat := (r.1, r.2.1, r.2.2 + i)
theorem run_none {ps : List Ins} {c : Cx} {m i : Nat} (h : (stepC ps c).2.1 = 0) : shiftR i (runC ps (m + 1) c) = shiftR (i + 1) (runC ps m (stepC ps c).1) := by
  unfold shiftR
  rw [runC, if_pos h]
  dsimp only
  rw [Nat.add_assoc, Nat.add_comm 1 i]
theorem run_call {ps : List Ins} {c : Cx} {m i : Nat} (h : (stepC ps c).2.1 ≠ 0) : shiftR i (runC ps (m + 1) c) = ((stepC ps c).1, (stepC ps c).2, 1 + i) := by
  unfold shiftR
  rw [runC, if_neg h]
theorem run_end {ps : List Ins} {c : Cx} {i : Nat} : shiftR i (runC ps 0 c) = (c, z4, i) := by
  unfold shiftR
  rw [runC]
  simp

/-- What Run keeps from step to step. -/
structure Rn (w W : World) (B : Nat) (c : Cx) (v : Value) : Prop where
  m : MC W B c v
  x : Cel W (w.heap.size + 1) #[.int .i64 0, .int .i64 0, .int .i64 0, .int .i64 0, .int .i64 0, .int .i64 0, .int .i64 0, .int .i64 0, .int .i64 0, .int .i64 0, .int .i64 0] 26
  k : Cel W (w.heap.size + 1 + 1) #[.int .i64 0, .int .i64 0, .int .i64 0, .int .i64 0] 30
  b : Below w.heap.size w W
  lt : w.heap.size + 1 + 1 < B
theorem Rn.but {w W W' : World} {B : Nat} {c c' : Cx} {v : Value} (h : Rn w W B c v) (hm : MC W' B c' v) (hb : But [B] W W') : Rn w W' B c' v :=
  ⟨hm, h.x.but hb (by simp; have := h.lt; omega), h.k.but hb (by simp; have := h.lt; omega), h.b.trans (hb.below h.b.size (by simp; have := h.lt; omega)), h.lt⟩
theorem Rn.below {w W W' : World} {B : Nat} {c : Cx} {v : Value} (h : Rn w W B c v) (hb : Below W.heap.size W W') : Rn w W' B c v := ⟨Cel.below h.m hb, h.x.below hb, h.k.below hb, h.b.trans (hb.mono h.b.size), h.lt⟩

set_option maxRecDepth 100000 in
set_option maxHeartbeats 4000000 in
theorem run_go {w : World} {ps : List Ins} {a a' : Option Addr} {n n' : Nat} {c : Cx} {most : Int} {r : Cx × Ins × Nat} (hmost : most ≤ 9223372036854775807) (hr : Hid (runC (codeL ps) most.toNat c = r))
    (HL : ∀ W : World, Below w.heap.size w W → Calls Tryd.prog 20 #[.slice a ps.length n, .agg #[.int .i64 c.pg, .int .i64 c.pc, .int .i64 (c.rs 0), .int .i64 (c.rs 1), .int .i64 (c.rs 2), .int .i64 (c.rs 3), .int .i64 (c.rs 4), .int .i64 (c.rs 5), .int .i64 (c.rs 6), .int .i64 (c.rs 7), .int .i64 c.dp]] W fun e w' => e = .returned (.agg #[.int .i64 c.pg, .int .i64 c.pc, .int .i64 (c.rs 0), .int .i64 (c.rs 1), .int .i64 (c.rs 2), .int .i64 (c.rs 3), .int .i64 (c.rs 4), .int .i64 (c.rs 5), .int .i64 (c.rs 6), .int .i64 (c.rs 7), .int .i64 c.dp, .slice a' (codeL ps).length n']) ∧ Below W.heap.size W w')
    (HS : ∀ (W : World) (B : Nat) (d : Cx), MC W B d (.slice a' (codeL ps).length n') → Below w.heap.size w W → Calls Tryd.prog 21 #[.pointer (some ⟨B, 0, none⟩)] W fun e w' => e = .returned (.agg (insC (stepC (codeL ps) d).2)) ∧ MC w' B (stepC (codeL ps) d).1 (.slice a' (codeL ps).length n') ∧ But [B] W w') :
    Calls Tryd.prog 12 #[.slice a ps.length n, .agg #[.int .i64 c.pg, .int .i64 c.pc, .int .i64 (c.rs 0), .int .i64 (c.rs 1), .int .i64 (c.rs 2), .int .i64 (c.rs 3), .int .i64 (c.rs 4), .int .i64 (c.rs 5), .int .i64 (c.rs 6), .int .i64 (c.rs 7), .int .i64 c.dp], .int .i64 most] w fun e w' => e = .returned (.tuple #[.agg (cxA r.1), .agg (insC r.2.1), .int .i64 (r.2.2 : Int)]) ∧ Below w.heap.size w w' := by
  have hmx := mixed
  have eW : ∀ W : World, W = ((w.alloc (.cells #[.int .i64 c.pg, .int .i64 c.pc, .int .i64 (c.rs 0), .int .i64 (c.rs 1), .int .i64 (c.rs 2), .int .i64 (c.rs 3), .int .i64 (c.rs 4), .int .i64 (c.rs 5), .int .i64 (c.rs 6), .int .i64 (c.rs 7), .int .i64 c.dp] 26)).alloc (.cells #[.int .i64 0, .int .i64 0, .int .i64 0, .int .i64 0, .int .i64 0, .int .i64 0, .int .i64 0, .int .i64 0, .int .i64 0, .int .i64 0, .int .i64 0] 26)).alloc (.cells #[.int .i64 0, .int .i64 0, .int .i64 0, .int .i64 0] 30) → Cel W w.heap.size #[.int .i64 c.pg, .int .i64 c.pc, .int .i64 (c.rs 0), .int .i64 (c.rs 1), .int .i64 (c.rs 2), .int .i64 (c.rs 3), .int .i64 (c.rs 4), .int .i64 (c.rs 5), .int .i64 (c.rs 6), .int .i64 (c.rs 7), .int .i64 c.dp] 26 ∧ Cel W (w.heap.size + 1) #[.int .i64 0, .int .i64 0, .int .i64 0, .int .i64 0, .int .i64 0, .int .i64 0, .int .i64 0, .int .i64 0, .int .i64 0, .int .i64 0, .int .i64 0] 26 ∧ Cel W (w.heap.size + 1 + 1) #[.int .i64 0, .int .i64 0, .int .i64 0, .int .i64 0] 30 ∧ Below w.heap.size w W ∧ W.heap.size = w.heap.size + 1 + 1 + 1 := by
    rintro W rfl
    refine ⟨((Cel.new w _ 26).put (Below.heap_alloc _ _ _ (by simp))).put (Below.heap_alloc _ _ _ (by simp; omega)), ?_, ?_, (((Below.refl _ w).alloc (Nat.le_refl _) _).alloc (by simp) _).alloc (by simp; omega) _, by simp⟩
    · have h := Cel.new (w.alloc (.cells #[.int .i64 c.pg, .int .i64 c.pc, .int .i64 (c.rs 0), .int .i64 (c.rs 1), .int .i64 (c.rs 2), .int .i64 (c.rs 3), .int .i64 (c.rs 4), .int .i64 (c.rs 5), .int .i64 (c.rs 6), .int .i64 (c.rs 7), .int .i64 c.dp] 26)) #[.int .i64 0, .int .i64 0, .int .i64 0, .int .i64 0, .int .i64 0, .int .i64 0, .int .i64 0, .int .i64 0, .int .i64 0, .int .i64 0, .int .i64 0] 26
      rw [World.size_alloc] at h
      exact h.put (Below.heap_alloc _ _ _ (by simp))
    · have h := Cel.new ((w.alloc (.cells #[.int .i64 c.pg, .int .i64 c.pc, .int .i64 (c.rs 0), .int .i64 (c.rs 1), .int .i64 (c.rs 2), .int .i64 (c.rs 3), .int .i64 (c.rs 4), .int .i64 (c.rs 5), .int .i64 (c.rs 6), .int .i64 (c.rs 7), .int .i64 c.dp] 26)).alloc (.cells #[.int .i64 0, .int .i64 0, .int .i64 0, .int .i64 0, .int .i64 0, .int .i64 0, .int .i64 0, .int .i64 0, .int .i64 0, .int .i64 0, .int .i64 0] 26)) #[.int .i64 0, .int .i64 0, .int .i64 0, .int .i64 0] 30
      rw [World.size_alloc, World.size_alloc] at h
      exact h
  obtain ⟨h0, h1, h2, hB, hsz⟩ := eW _ rfl
  clear eW
  go_enter Tryd.func12, Tryd.ntmps12
  go_upto_region 1 with fail
  generalize ((w.alloc (.cells #[.int .i64 c.pg, .int .i64 c.pc, .int .i64 (c.rs 0), .int .i64 (c.rs 1), .int .i64 (c.rs 2), .int .i64 (c.rs 3), .int .i64 (c.rs 4), .int .i64 (c.rs 5), .int .i64 (c.rs 6), .int .i64 (c.rs 7), .int .i64 c.dp] 26)).alloc (.cells #[.int .i64 0, .int .i64 0, .int .i64 0, .int .i64 0, .int .i64 0, .int .i64 0, .int .i64 0, .int .i64 0, .int .i64 0, .int .i64 0, .int .i64 0] 26)).alloc (.cells #[.int .i64 0, .int .i64 0, .int .i64 0, .int .i64 0] 30) = W at *
  have x0 : W.cell? ⟨w.heap.size, 0, none⟩ = some (.int .i64 c.pg) := h0.cell rfl
  have x1 : W.cell? ⟨w.heap.size, 1, none⟩ = some (.int .i64 c.pc) := h0.cell rfl
  have x2 : W.cell? ⟨w.heap.size, 2, none⟩ = some (.int .i64 (c.rs 0)) := h0.cell rfl
  have x3 : W.cell? ⟨w.heap.size, 3, none⟩ = some (.int .i64 (c.rs 1)) := h0.cell rfl
  have x4 : W.cell? ⟨w.heap.size, 4, none⟩ = some (.int .i64 (c.rs 2)) := h0.cell rfl
  have x5 : W.cell? ⟨w.heap.size, 5, none⟩ = some (.int .i64 (c.rs 3)) := h0.cell rfl
  have x6 : W.cell? ⟨w.heap.size, 6, none⟩ = some (.int .i64 (c.rs 4)) := h0.cell rfl
  have x7 : W.cell? ⟨w.heap.size, 7, none⟩ = some (.int .i64 (c.rs 5)) := h0.cell rfl
  have x8 : W.cell? ⟨w.heap.size, 8, none⟩ = some (.int .i64 (c.rs 6)) := h0.cell rfl
  have x9 : W.cell? ⟨w.heap.size, 9, none⟩ = some (.int .i64 (c.rs 7)) := h0.cell rfl
  have x10 : W.cell? ⟨w.heap.size, 10, none⟩ = some (.int .i64 c.dp) := h0.cell rfl
  go_upto_region 2 with (go_at_call 20; (refine (HL W hB).mono ?_); rintro e W1 ⟨rfl, hb1⟩)
  have eV : ∀ V : World, V = W1.alloc (.cells #[.int .i64 c.pg, .int .i64 c.pc, .int .i64 (c.rs 0), .int .i64 (c.rs 1), .int .i64 (c.rs 2), .int .i64 (c.rs 3), .int .i64 (c.rs 4), .int .i64 (c.rs 5), .int .i64 (c.rs 6), .int .i64 (c.rs 7), .int .i64 c.dp, .slice a' (codeL ps).length n'] 54) → Rn w V W1.heap.size c (.slice a' (codeL ps).length n') := by
    rintro V rfl
    have hs := hb1.size
    exact ⟨Cel.new W1 _ 54, (h1.below hb1).put (Below.heap_alloc _ _ _ (h1.below hb1).lt), (h2.below hb1).put (Below.heap_alloc _ _ _ (h2.below hb1).lt), (hB.trans (hb1.mono hB.size)).alloc (by omega) _, by omega⟩
  have hN := eV _ rfl
  clear eV hb1 h0 h1 h2 hB hsz HL x0 x1 x2 x3 x4 x5 x6 x7 x8 x9 x10
  generalize W1.alloc (.cells #[.int .i64 c.pg, .int .i64 c.pc, .int .i64 (c.rs 0), .int .i64 (c.rs 1), .int .i64 (c.rs 2), .int .i64 (c.rs 3), .int .i64 (c.rs 4), .int .i64 (c.rs 5), .int .i64 (c.rs 6), .int .i64 (c.rs 7), .int .i64 c.dp, .slice a' (codeL ps).length n'] 54) = V at *
  generalize W1.heap.size = B at *
  obtain ⟨N, hNm⟩ : ∃ N : Nat, N = most.toNat := ⟨_, rfl⟩
  rw [← hNm] at hr
  have hN1 : most ≤ (N : Int) := by omega
  have hN2 : (0 : Int) < (N : Int) → (N : Int) = most := by omega
  clear hNm
  go_wp2_with fail
  go_loopw [16, 10] (fun p _ wr => ∃ (i : Nat) (d : Cx), i ≤ N ∧ p = .int .i64 i ∧ Hid (r = shiftR i (runC (codeL ps) (N - i) d)) ∧ Rn w wr B d (.slice a' (codeL ps).length n')) (fun p _ _ => N - (intOf p).toNat)
  case atStart => exact ⟨0, c, by omega, rfl, Hid.mk (by rw [← hr.out]; rfl), hN⟩
  case round =>
    obtain ⟨i, d, hi, rfl, hS, hR⟩ := hrel
    have hlB := hR.lt
    by_cases hlt : i < N
    · have hlt1 : (i : Int) < most := by have := hN2 (by omega); omega
      have hH := HS wr B d hR.m hR.b
      rw [show N - i = (N - (i + 1)) + 1 by omega] at hS
      rcases step_kind ps d with hk | hk
      · have hS2 := hS.out
        rw [run_none (by rw [hk]; rfl)] at hS2
        have hS3 : Hid (r = shiftR (i + 1) (runC (codeL ps) (N - (i + 1)) (stepC (codeL ps) d).1)) := Hid.mk hS2
        rw [hk] at hH
        clear hS hS2 hk HS hr hN
        generalize stepC (codeL ps) d = q at *
        obtain ⟨d', kk⟩ := q
        have HC := call_any 0
        rw [show callB 0 = false from rfl] at HC
        go_wp2_with (first | (go_at_call 21; (refine hH.mono ?_); rintro e W3 ⟨rfl, hM3, hb3⟩; unfold insC z4) | (go_at_call 24; (refine (HC _).mono ?_); rintro e W4 ⟨rfl, rfl⟩))
        go_roundw
        case rel => exact ⟨i + 1, d', by omega, by simp, hS3, (hR.but hM3 hb3).below ((Below.refl _ W3).alloc (Nat.le_refl _) _)⟩
        case measure =>
          simp [intOf]
          omega
      · have hS2 := hS.out
        rw [run_call (by omega)] at hS2
        have HC := call_any (stepC (codeL ps) d).2.1
        rw [show callB (stepC (codeL ps) d).2.1 = true by unfold callB; simp; omega] at HC
        clear hS hk HS hr hN
        generalize stepC (codeL ps) d = q at *
        obtain ⟨d', k0, k1, k2, k3⟩ := q
        subst hS2
        have hi1 : (i : Int) < 9223372036854775807 := by omega
        go_upto_region 7 with (first | (go_at_call 21; (refine hH.mono ?_); rintro e W3 ⟨rfl, hM3, hb3⟩; unfold insC) | (go_at_call 24; (refine (HC _).mono ?_); rintro e W4 ⟨rfl, rfl⟩))
        have hRU : Rn w (W3.alloc (.cells #[.int .i64 k0, .int .i64 k1, .int .i64 k2, .int .i64 k3] 30)) B d' (.slice a' (codeL ps).length n') := (hR.but hM3 hb3).below ((Below.refl _ W3).alloc (Nat.le_refl _) _)
        have jD : Cel (W3.alloc (.cells #[.int .i64 k0, .int .i64 k1, .int .i64 k2, .int .i64 k3] 30)) W3.heap.size #[.int .i64 k0, .int .i64 k1, .int .i64 k2, .int .i64 k3] 30 := Cel.new W3 _ 30
        have hlt2 := hM3.lt
        clear hM3 hb3 hH HC hR
        generalize W3.alloc (.cells #[.int .i64 k0, .int .i64 k1, .int .i64 k2, .int .i64 k3] 30) = U at *
        generalize W3.heap.size = D at *
        have nB : w.heap.size + 1 ≠ B := by omega
        have nB2 : w.heap.size + 1 + 1 ≠ B := by omega
        have nD : w.heap.size + 1 ≠ D := by omega
        have nD2 : w.heap.size + 1 + 1 ≠ D := by omega
        have nS : w.heap.size + 1 ≠ w.heap.size + 1 + 1 := by omega
        have y0 : U.cell? ⟨B, 0, none⟩ = some (.int .i64 d'.pg) := Cel.cell hRU.m rfl
        have y1 : U.cell? ⟨B, 1, none⟩ = some (.int .i64 d'.pc) := Cel.cell hRU.m rfl
        have y2 : U.cell? ⟨B, 2, none⟩ = some (.int .i64 (d'.rs 0)) := Cel.cell hRU.m rfl
        have y3 : U.cell? ⟨B, 3, none⟩ = some (.int .i64 (d'.rs 1)) := Cel.cell hRU.m rfl
        have y4 : U.cell? ⟨B, 4, none⟩ = some (.int .i64 (d'.rs 2)) := Cel.cell hRU.m rfl
        have y5 : U.cell? ⟨B, 5, none⟩ = some (.int .i64 (d'.rs 3)) := Cel.cell hRU.m rfl
        have y6 : U.cell? ⟨B, 6, none⟩ = some (.int .i64 (d'.rs 4)) := Cel.cell hRU.m rfl
        have y7 : U.cell? ⟨B, 7, none⟩ = some (.int .i64 (d'.rs 5)) := Cel.cell hRU.m rfl
        have y8 : U.cell? ⟨B, 8, none⟩ = some (.int .i64 (d'.rs 6)) := Cel.cell hRU.m rfl
        have y9 : U.cell? ⟨B, 9, none⟩ = some (.int .i64 (d'.rs 7)) := Cel.cell hRU.m rfl
        have y10 : U.cell? ⟨B, 10, none⟩ = some (.int .i64 d'.dp) := Cel.cell hRU.m rfl
        have y11 : U.cell? ⟨B, 11, none⟩ = some (.slice a' (codeL ps).length n') := Cel.cell hRU.m rfl
        have q0 : U.cell? ⟨D, 0, none⟩ = some (.int .i64 k0) := jD.cell rfl
        have q1 : U.cell? ⟨D, 1, none⟩ = some (.int .i64 k1) := jD.cell rfl
        have q2 : U.cell? ⟨D, 2, none⟩ = some (.int .i64 k2) := jD.cell rfl
        have q3 : U.cell? ⟨D, 3, none⟩ = some (.int .i64 k3) := jD.cell rfl
        have zz0 : U.cell? ⟨w.heap.size + 1, 0, none⟩ = some (.int .i64 0) := hRU.x.cell rfl
        have zz1 : U.cell? ⟨w.heap.size + 1, 1, none⟩ = some (.int .i64 0) := hRU.x.cell rfl
        have zz2 : U.cell? ⟨w.heap.size + 1, 2, none⟩ = some (.int .i64 0) := hRU.x.cell rfl
        have zz3 : U.cell? ⟨w.heap.size + 1, 3, none⟩ = some (.int .i64 0) := hRU.x.cell rfl
        have zz4 : U.cell? ⟨w.heap.size + 1, 4, none⟩ = some (.int .i64 0) := hRU.x.cell rfl
        have zz5 : U.cell? ⟨w.heap.size + 1, 5, none⟩ = some (.int .i64 0) := hRU.x.cell rfl
        have zz6 : U.cell? ⟨w.heap.size + 1, 6, none⟩ = some (.int .i64 0) := hRU.x.cell rfl
        have zz7 : U.cell? ⟨w.heap.size + 1, 7, none⟩ = some (.int .i64 0) := hRU.x.cell rfl
        have zz8 : U.cell? ⟨w.heap.size + 1, 8, none⟩ = some (.int .i64 0) := hRU.x.cell rfl
        have zz9 : U.cell? ⟨w.heap.size + 1, 9, none⟩ = some (.int .i64 0) := hRU.x.cell rfl
        have zz10 : U.cell? ⟨w.heap.size + 1, 10, none⟩ = some (.int .i64 0) := hRU.x.cell rfl
        have f0 : U.frozen? ⟨w.heap.size + 1, 0, none⟩ = false := hRU.x.fz 0
        have f1 : U.frozen? ⟨w.heap.size + 1, 1, none⟩ = false := hRU.x.fz 1
        have f2 : U.frozen? ⟨w.heap.size + 1, 2, none⟩ = false := hRU.x.fz 2
        have f3 : U.frozen? ⟨w.heap.size + 1, 3, none⟩ = false := hRU.x.fz 3
        have f4 : U.frozen? ⟨w.heap.size + 1, 4, none⟩ = false := hRU.x.fz 4
        have f5 : U.frozen? ⟨w.heap.size + 1, 5, none⟩ = false := hRU.x.fz 5
        have f6 : U.frozen? ⟨w.heap.size + 1, 6, none⟩ = false := hRU.x.fz 6
        have f7 : U.frozen? ⟨w.heap.size + 1, 7, none⟩ = false := hRU.x.fz 7
        have f8 : U.frozen? ⟨w.heap.size + 1, 8, none⟩ = false := hRU.x.fz 8
        have f9 : U.frozen? ⟨w.heap.size + 1, 9, none⟩ = false := hRU.x.fz 9
        have f10 : U.frozen? ⟨w.heap.size + 1, 10, none⟩ = false := hRU.x.fz 10
        have u0 : U.cell? ⟨w.heap.size + 1 + 1, 0, none⟩ = some (.int .i64 0) := hRU.k.cell rfl
        have u1 : U.cell? ⟨w.heap.size + 1 + 1, 1, none⟩ = some (.int .i64 0) := hRU.k.cell rfl
        have u2 : U.cell? ⟨w.heap.size + 1 + 1, 2, none⟩ = some (.int .i64 0) := hRU.k.cell rfl
        have u3 : U.cell? ⟨w.heap.size + 1 + 1, 3, none⟩ = some (.int .i64 0) := hRU.k.cell rfl
        have e0 : U.frozen? ⟨w.heap.size + 1 + 1, 0, none⟩ = false := hRU.k.fz 0
        have e1 : U.frozen? ⟨w.heap.size + 1 + 1, 1, none⟩ = false := hRU.k.fz 1
        have e2 : U.frozen? ⟨w.heap.size + 1 + 1, 2, none⟩ = false := hRU.k.fz 2
        have e3 : U.frozen? ⟨w.heap.size + 1 + 1, 3, none⟩ = false := hRU.k.fz 3
        go_region
        go_wp2_with fail
        refine bodyPost_ret (results_XKI rfl _ _ (w.heap.size + 1) (w.heap.size + 1 + 1) d' (k0, k1, k2, k3) (.int .i64 ((1 + i : Nat) : Int)) rfl rfl ?_ ?_ ?_) rfl ⟨rfl, ?_⟩
        · rw [show ((1 + i : Nat) : Int) = (i : Int) + 1 by omega]
          rfl
        · exact (Cel.over4 _ _ _ _ (Cel.fill11 _ _ _ _ _ _ _ _ _ _ _ hRU.x) nS).drew_
        · exact (Cel.fill4 _ _ _ _ (Cel.over11 _ _ _ _ _ _ _ _ _ _ _ hRU.k nS.symm)).drew_
        · exact (below_fill4 _ _ _ _ (below_fill11 _ _ _ _ _ _ _ _ _ _ _ hRU.b (Nat.le_refl _) (by omega)) (Nat.le_refl _) (by omega)).drew
    · obtain rfl : i = N := by omega
      have hge : most ≤ (i : Int) := hN1
      have hS2 := hS.out
      rw [Nat.sub_self, run_end] at hS2
      subst hS2
      clear hS HS hr hN
      have y0 : wr.cell? ⟨B, 0, none⟩ = some (.int .i64 d.pg) := Cel.cell hR.m rfl
      have y1 : wr.cell? ⟨B, 1, none⟩ = some (.int .i64 d.pc) := Cel.cell hR.m rfl
      have y2 : wr.cell? ⟨B, 2, none⟩ = some (.int .i64 (d.rs 0)) := Cel.cell hR.m rfl
      have y3 : wr.cell? ⟨B, 3, none⟩ = some (.int .i64 (d.rs 1)) := Cel.cell hR.m rfl
      have y4 : wr.cell? ⟨B, 4, none⟩ = some (.int .i64 (d.rs 2)) := Cel.cell hR.m rfl
      have y5 : wr.cell? ⟨B, 5, none⟩ = some (.int .i64 (d.rs 3)) := Cel.cell hR.m rfl
      have y6 : wr.cell? ⟨B, 6, none⟩ = some (.int .i64 (d.rs 4)) := Cel.cell hR.m rfl
      have y7 : wr.cell? ⟨B, 7, none⟩ = some (.int .i64 (d.rs 5)) := Cel.cell hR.m rfl
      have y8 : wr.cell? ⟨B, 8, none⟩ = some (.int .i64 (d.rs 6)) := Cel.cell hR.m rfl
      have y9 : wr.cell? ⟨B, 9, none⟩ = some (.int .i64 (d.rs 7)) := Cel.cell hR.m rfl
      have y10 : wr.cell? ⟨B, 10, none⟩ = some (.int .i64 d.dp) := Cel.cell hR.m rfl
      have y11 : wr.cell? ⟨B, 11, none⟩ = some (.slice a' (codeL ps).length n') := Cel.cell hR.m rfl
      have zz0 : wr.cell? ⟨w.heap.size + 1, 0, none⟩ = some (.int .i64 0) := hR.x.cell rfl
      have zz1 : wr.cell? ⟨w.heap.size + 1, 1, none⟩ = some (.int .i64 0) := hR.x.cell rfl
      have zz2 : wr.cell? ⟨w.heap.size + 1, 2, none⟩ = some (.int .i64 0) := hR.x.cell rfl
      have zz3 : wr.cell? ⟨w.heap.size + 1, 3, none⟩ = some (.int .i64 0) := hR.x.cell rfl
      have zz4 : wr.cell? ⟨w.heap.size + 1, 4, none⟩ = some (.int .i64 0) := hR.x.cell rfl
      have zz5 : wr.cell? ⟨w.heap.size + 1, 5, none⟩ = some (.int .i64 0) := hR.x.cell rfl
      have zz6 : wr.cell? ⟨w.heap.size + 1, 6, none⟩ = some (.int .i64 0) := hR.x.cell rfl
      have zz7 : wr.cell? ⟨w.heap.size + 1, 7, none⟩ = some (.int .i64 0) := hR.x.cell rfl
      have zz8 : wr.cell? ⟨w.heap.size + 1, 8, none⟩ = some (.int .i64 0) := hR.x.cell rfl
      have zz9 : wr.cell? ⟨w.heap.size + 1, 9, none⟩ = some (.int .i64 0) := hR.x.cell rfl
      have zz10 : wr.cell? ⟨w.heap.size + 1, 10, none⟩ = some (.int .i64 0) := hR.x.cell rfl
      have f0 : wr.frozen? ⟨w.heap.size + 1, 0, none⟩ = false := hR.x.fz 0
      have f1 : wr.frozen? ⟨w.heap.size + 1, 1, none⟩ = false := hR.x.fz 1
      have f2 : wr.frozen? ⟨w.heap.size + 1, 2, none⟩ = false := hR.x.fz 2
      have f3 : wr.frozen? ⟨w.heap.size + 1, 3, none⟩ = false := hR.x.fz 3
      have f4 : wr.frozen? ⟨w.heap.size + 1, 4, none⟩ = false := hR.x.fz 4
      have f5 : wr.frozen? ⟨w.heap.size + 1, 5, none⟩ = false := hR.x.fz 5
      have f6 : wr.frozen? ⟨w.heap.size + 1, 6, none⟩ = false := hR.x.fz 6
      have f7 : wr.frozen? ⟨w.heap.size + 1, 7, none⟩ = false := hR.x.fz 7
      have f8 : wr.frozen? ⟨w.heap.size + 1, 8, none⟩ = false := hR.x.fz 8
      have f9 : wr.frozen? ⟨w.heap.size + 1, 9, none⟩ = false := hR.x.fz 9
      have f10 : wr.frozen? ⟨w.heap.size + 1, 10, none⟩ = false := hR.x.fz 10
      have u0 : wr.cell? ⟨w.heap.size + 1 + 1, 0, none⟩ = some (.int .i64 0) := hR.k.cell rfl
      have u1 : wr.cell? ⟨w.heap.size + 1 + 1, 1, none⟩ = some (.int .i64 0) := hR.k.cell rfl
      have u2 : wr.cell? ⟨w.heap.size + 1 + 1, 2, none⟩ = some (.int .i64 0) := hR.k.cell rfl
      have u3 : wr.cell? ⟨w.heap.size + 1 + 1, 3, none⟩ = some (.int .i64 0) := hR.k.cell rfl
      have e0 : wr.frozen? ⟨w.heap.size + 1 + 1, 0, none⟩ = false := hR.k.fz 0
      have e1 : wr.frozen? ⟨w.heap.size + 1 + 1, 1, none⟩ = false := hR.k.fz 1
      have e2 : wr.frozen? ⟨w.heap.size + 1 + 1, 2, none⟩ = false := hR.k.fz 2
      have e3 : wr.frozen? ⟨w.heap.size + 1 + 1, 3, none⟩ = false := hR.k.fz 3
      have nS : w.heap.size + 1 ≠ w.heap.size + 1 + 1 := by omega
      by_cases hm : 0 ≤ most
      · have hv : Hid ((i : Int) = most) := Hid.mk (by omega)
        go_wp2_with fail
        refine bodyPost_ret (results_XKI rfl _ _ (w.heap.size + 1) (w.heap.size + 1 + 1) d z4 (.int .i64 (i : Int)) rfl rfl ?_ ?_ ?_) rfl ⟨rfl, ?_⟩
        · rw [hv.out]
          rfl
        · exact Cel.over4 _ _ _ _ (Cel.fill11 _ _ _ _ _ _ _ _ _ _ _ hR.x) nS
        · exact Cel.fill4 _ _ _ _ (Cel.over11 _ _ _ _ _ _ _ _ _ _ _ hR.k nS.symm)
        · exact below_fill4 _ _ _ _ (below_fill11 _ _ _ _ _ _ _ _ _ _ _ hR.b (Nat.le_refl _) (by omega)) (Nat.le_refl _) (by omega)
      · have hv : Hid ((i : Int) = 0) := Hid.mk (by omega)
        go_wp2_with fail
        refine bodyPost_ret (results_XKI rfl _ _ (w.heap.size + 1) (w.heap.size + 1 + 1) d z4 (.int .i64 (i : Int)) rfl rfl ?_ ?_ ?_) rfl ⟨rfl, ?_⟩
        · rw [hv.out]
          rfl
        · exact Cel.over4 _ _ _ _ (Cel.fill11 _ _ _ _ _ _ _ _ _ _ _ hR.x) nS
        · exact Cel.fill4 _ _ _ _ (Cel.over11 _ _ _ _ _ _ _ _ _ _ _ hR.k nS.symm)
        · exact below_fill4 _ _ _ _ (below_fill11 _ _ _ _ _ _ _ _ _ _ _ hR.b (Nat.le_refl _) (by omega)) (Nat.le_refl _) (by omega)

theorem run_any {w : World} {ps : List Ins} {a : Option Addr} (n : Nat) (c : Cx) (most : Int) (hmost : most ≤ 9223372036854775807) (hp : PV w a ps) (hT : Tab w) :
    Calls Tryd.prog 12 #[.slice a ps.length n, .agg (cxA c), .int .i64 most] w fun e w' => e = .returned (.tuple #[.agg (cxA (runC (codeL ps) most.toNat c).1), .agg (insC (runC (codeL ps) most.toNat c).2.1), .int .i64 ((runC (codeL ps) most.toNat c).2.2 : Int)]) ∧ Below w.heap.size w w' := by
  obtain ⟨a', n', hcd, hp'⟩ := cdV_spec n hp
  have HL : ∀ W : World, Below w.heap.size w W → Calls Tryd.prog 20 #[.slice a ps.length n, .agg (cxA c)] W fun e w' => e = .returned (.agg (mcA c (.slice a' (codeL ps).length n'))) ∧ Below W.heap.size W w' := fun W hb => by
    have h := load_any n c (hp.below hb) (hT.on hb)
    rw [hcd] at h
    exact h
  exact run_go hmost (Hid.mk rfl) HL (fun W B d hM hb => step_any hM (hp'.below hb) (codeL_len ps))

end Go.Proofs.YtllnpkijojpccaaDoor
