/- CpuNear returns true: its walk. -/
import Derived.Test.YtllnpkijojpccaaDoorNearM
import Derived.Test.YtllnpkijojpccaaDoorPartsM
import Derived.Test.YtllnpkijojpccaaDoorRGood
namespace Go.Proofs.YtllnpkijojpccaaDoor
open Go Go.RowKit Go.Shelf

/-- What lies in memory while registers are held against one another. -/
structure Nr (w W : World) (D : Nat) (c d : Cx) (k : Ins) : Prop where
  c : Cel W w.heap.size (cxA c) 26
  x : Cel W D (cxA d) 26
  k : Cel W (D + 1) (insC k) 30
  b : Below w.heap.size w W
theorem Nr.drewN {w W : World} {D : Nat} {c d : Cx} {k : Ins} (h : Nr w W D c d k) (m : Nat) : Nr w (W.drewN m) D c d k := ⟨h.c, h.x, h.k, below_drewN h.b m⟩

set_option maxRecDepth 100000 in
set_option maxHeartbeats 4000000 in
theorem near_heavy {w : World} {xs : List Ins} {sa : Option Addr} {sc : Nat} {c : Cx} 
    (HL : ∀ W : World, Below w.heap.size w W → Calls Tryd.prog 9 #[] W fun e w' => e = .returned (.bool true) ∧ Below W.heap.size W w')
    (HG : ∀ W : World, Calls Tryd.prog 8 #[.slice sa xs.length sc] W fun e w' => e = .returned (.bool false) ∧ w' = W)
    : Calls Tryd.prog 6 #[.slice sa xs.length sc, .agg #[.int .i64 c.pg, .int .i64 c.pc, .int .i64 (c.rs 0), .int .i64 (c.rs 1), .int .i64 (c.rs 2), .int .i64 (c.rs 3), .int .i64 (c.rs 4), .int .i64 (c.rs 5), .int .i64 (c.rs 6), .int .i64 (c.rs 7), .int .i64 c.dp]] w fun e w' => e = .returned (.bool true) ∧ Below w.heap.size w w' := by
  have hB : Below w.heap.size w (w.alloc (.cells #[.int .i64 c.pg, .int .i64 c.pc, .int .i64 (c.rs 0), .int .i64 (c.rs 1), .int .i64 (c.rs 2), .int .i64 (c.rs 3), .int .i64 (c.rs 4), .int .i64 (c.rs 5), .int .i64 (c.rs 6), .int .i64 (c.rs 7), .int .i64 c.dp] 26)) := (Below.refl _ w).alloc (Nat.le_refl _) _
  go_enter Tryd.func6, Tryd.ntmps6
  go_upto_region 1 with fail
  generalize w.alloc (.cells #[.int .i64 c.pg, .int .i64 c.pc, .int .i64 (c.rs 0), .int .i64 (c.rs 1), .int .i64 (c.rs 2), .int .i64 (c.rs 3), .int .i64 (c.rs 4), .int .i64 (c.rs 5), .int .i64 (c.rs 6), .int .i64 (c.rs 7), .int .i64 c.dp] 26) = W at *
  go_wp2_with (first | (go_at_call 8; (refine (HG W).mono ?_); rintro e W0 ⟨rfl, h0⟩; rw [h0]; clear h0 W0) | (go_at_call 9; (refine (HL W hB).mono ?_); rintro e U ⟨rfl, hb⟩))
  go_ret
  exact ⟨rfl, hB.trans (hb.mono hB.size)⟩

set_option maxRecDepth 100000 in
set_option maxHeartbeats 4000000 in
theorem near_no {w : World} {xs : List Ins} {sa : Option Addr} {sc : Nat} {c : Cx} 
    (HL : ∀ W : World, Below w.heap.size w W → Calls Tryd.prog 9 #[] W fun e w' => e = .returned (.bool true) ∧ Below W.heap.size W w')
    (HG : ∀ W : World, Calls Tryd.prog 8 #[.slice sa xs.length sc] W fun e w' => e = .returned (.bool true) ∧ w' = W)
    (HW : ∀ W : World, Below w.heap.size w W → Calls Tryd.prog 19 #[.slice sa xs.length sc] W fun e w' => e = .returned (.bool false) ∧ Below W.heap.size W w')
    : Calls Tryd.prog 6 #[.slice sa xs.length sc, .agg #[.int .i64 c.pg, .int .i64 c.pc, .int .i64 (c.rs 0), .int .i64 (c.rs 1), .int .i64 (c.rs 2), .int .i64 (c.rs 3), .int .i64 (c.rs 4), .int .i64 (c.rs 5), .int .i64 (c.rs 6), .int .i64 (c.rs 7), .int .i64 c.dp]] w fun e w' => e = .returned (.bool true) ∧ Below w.heap.size w w' := by
  have hB : Below w.heap.size w (w.alloc (.cells #[.int .i64 c.pg, .int .i64 c.pc, .int .i64 (c.rs 0), .int .i64 (c.rs 1), .int .i64 (c.rs 2), .int .i64 (c.rs 3), .int .i64 (c.rs 4), .int .i64 (c.rs 5), .int .i64 (c.rs 6), .int .i64 (c.rs 7), .int .i64 c.dp] 26)) := (Below.refl _ w).alloc (Nat.le_refl _) _
  go_enter Tryd.func6, Tryd.ntmps6
  go_upto_region 1 with fail
  generalize w.alloc (.cells #[.int .i64 c.pg, .int .i64 c.pc, .int .i64 (c.rs 0), .int .i64 (c.rs 1), .int .i64 (c.rs 2), .int .i64 (c.rs 3), .int .i64 (c.rs 4), .int .i64 (c.rs 5), .int .i64 (c.rs 6), .int .i64 (c.rs 7), .int .i64 c.dp] 26) = W at *
  go_wp2_with (first | (go_at_call 8; (refine (HG W).mono ?_); rintro e W0 ⟨rfl, h0⟩; rw [h0]; clear h0 W0) | (go_at_call 19; (refine (HW W hB).mono ?_); rintro e W1 ⟨rfl, hb1⟩; have hB1 := hB.trans (hb1.mono hB.size)) | (go_at_call 9; (refine (HL W1 hB1).mono ?_); rintro e U ⟨rfl, hb⟩))
  go_ret
  exact ⟨rfl, hB1.trans (hb.mono hB1.size)⟩

set_option maxRecDepth 100000 in
set_option maxHeartbeats 4000000 in
theorem near_lo {w : World} {xs : List Ins} {sa : Option Addr} {sc : Nat} {c : Cx} (hpc : c.pc < 0)
    (HL : ∀ W : World, Below w.heap.size w W → Calls Tryd.prog 9 #[] W fun e w' => e = .returned (.bool true) ∧ Below W.heap.size W w')
    (HG : ∀ W : World, Calls Tryd.prog 8 #[.slice sa xs.length sc] W fun e w' => e = .returned (.bool true) ∧ w' = W)
    (HW : ∀ W : World, Below w.heap.size w W → Calls Tryd.prog 19 #[.slice sa xs.length sc] W fun e w' => e = .returned (.bool true) ∧ Below W.heap.size W w')
    (HS : ∀ W : World, Below w.heap.size w W → Calls Tryd.prog 10 #[.slice sa xs.length sc, .agg #[.int .i64 c.pg, .int .i64 c.pc, .int .i64 (c.rs 0), .int .i64 (c.rs 1), .int .i64 (c.rs 2), .int .i64 (c.rs 3), .int .i64 (c.rs 4), .int .i64 (c.rs 5), .int .i64 (c.rs 6), .int .i64 (c.rs 7), .int .i64 c.dp]] W fun e w' => e = .returned (.tuple #[.agg #[.int .i64 c.pg, .int .i64 c.pc, .int .i64 (c.rs 0), .int .i64 (c.rs 1), .int .i64 (c.rs 2), .int .i64 (c.rs 3), .int .i64 (c.rs 4), .int .i64 (c.rs 5), .int .i64 (c.rs 6), .int .i64 (c.rs 7), .int .i64 c.dp], .agg #[.int .i64 11, .int .i64 0, .int .i64 0, .int .i64 0]]) ∧ Below W.heap.size W w')
    : Calls Tryd.prog 6 #[.slice sa xs.length sc, .agg #[.int .i64 c.pg, .int .i64 c.pc, .int .i64 (c.rs 0), .int .i64 (c.rs 1), .int .i64 (c.rs 2), .int .i64 (c.rs 3), .int .i64 (c.rs 4), .int .i64 (c.rs 5), .int .i64 (c.rs 6), .int .i64 (c.rs 7), .int .i64 c.dp]] w fun e w' => e = .returned (.bool true) ∧ Below w.heap.size w w' := by
  have hB : Below w.heap.size w (w.alloc (.cells #[.int .i64 c.pg, .int .i64 c.pc, .int .i64 (c.rs 0), .int .i64 (c.rs 1), .int .i64 (c.rs 2), .int .i64 (c.rs 3), .int .i64 (c.rs 4), .int .i64 (c.rs 5), .int .i64 (c.rs 6), .int .i64 (c.rs 7), .int .i64 c.dp] 26)) := (Below.refl _ w).alloc (Nat.le_refl _) _
  have hmx := mixed
  have h0 : Cel (w.alloc (.cells #[.int .i64 c.pg, .int .i64 c.pc, .int .i64 (c.rs 0), .int .i64 (c.rs 1), .int .i64 (c.rs 2), .int .i64 (c.rs 3), .int .i64 (c.rs 4), .int .i64 (c.rs 5), .int .i64 (c.rs 6), .int .i64 (c.rs 7), .int .i64 c.dp] 26)) w.heap.size #[.int .i64 c.pg, .int .i64 c.pc, .int .i64 (c.rs 0), .int .i64 (c.rs 1), .int .i64 (c.rs 2), .int .i64 (c.rs 3), .int .i64 (c.rs 4), .int .i64 (c.rs 5), .int .i64 (c.rs 6), .int .i64 (c.rs 7), .int .i64 c.dp] 26 := Cel.new w _ 26
  go_enter Tryd.func6, Tryd.ntmps6
  go_upto_region 1 with fail
  generalize w.alloc (.cells #[.int .i64 c.pg, .int .i64 c.pc, .int .i64 (c.rs 0), .int .i64 (c.rs 1), .int .i64 (c.rs 2), .int .i64 (c.rs 3), .int .i64 (c.rs 4), .int .i64 (c.rs 5), .int .i64 (c.rs 6), .int .i64 (c.rs 7), .int .i64 c.dp] 26) = W at *
  go_upto_region 3 with (first | (go_at_call 8; (refine (HG W).mono ?_); rintro e W0 ⟨rfl, h0⟩; rw [h0]; clear h0 W0) | (go_at_call 19; (refine (HW W hB).mono ?_); rintro e W1 ⟨rfl, hb1⟩))
  replace h0 := h0.below hb1
  replace hB := hB.trans (hb1.mono hB.size)
  clear hb1 HW HG
  have x0 : W1.cell? ⟨w.heap.size, 0, none⟩ = some (.int .i64 c.pg) := h0.cell rfl
  have x1 : W1.cell? ⟨w.heap.size, 1, none⟩ = some (.int .i64 c.pc) := h0.cell rfl
  have x2 : W1.cell? ⟨w.heap.size, 2, none⟩ = some (.int .i64 (c.rs 0)) := h0.cell rfl
  have x3 : W1.cell? ⟨w.heap.size, 3, none⟩ = some (.int .i64 (c.rs 1)) := h0.cell rfl
  have x4 : W1.cell? ⟨w.heap.size, 4, none⟩ = some (.int .i64 (c.rs 2)) := h0.cell rfl
  have x5 : W1.cell? ⟨w.heap.size, 5, none⟩ = some (.int .i64 (c.rs 3)) := h0.cell rfl
  have x6 : W1.cell? ⟨w.heap.size, 6, none⟩ = some (.int .i64 (c.rs 4)) := h0.cell rfl
  have x7 : W1.cell? ⟨w.heap.size, 7, none⟩ = some (.int .i64 (c.rs 5)) := h0.cell rfl
  have x8 : W1.cell? ⟨w.heap.size, 8, none⟩ = some (.int .i64 (c.rs 6)) := h0.cell rfl
  have x9 : W1.cell? ⟨w.heap.size, 9, none⟩ = some (.int .i64 (c.rs 7)) := h0.cell rfl
  have x10 : W1.cell? ⟨w.heap.size, 10, none⟩ = some (.int .i64 c.dp) := h0.cell rfl
  go_upto_region 4 with (go_at_call 10; (refine (HS W1 hB).mono ?_); rintro e U ⟨rfl, hb⟩)
  have eV : ∀ V : World, V = (U.alloc (.cells #[.int .i64 c.pg, .int .i64 c.pc, .int .i64 (c.rs 0), .int .i64 (c.rs 1), .int .i64 (c.rs 2), .int .i64 (c.rs 3), .int .i64 (c.rs 4), .int .i64 (c.rs 5), .int .i64 (c.rs 6), .int .i64 (c.rs 7), .int .i64 c.dp] 26)).alloc (.cells #[.int .i64 11, .int .i64 0, .int .i64 0, .int .i64 0] 30) → Nr w V U.heap.size c c e11 := by
    rintro V rfl
    have hb2 : Below W1.heap.size W1 ((U.alloc (.cells #[.int .i64 c.pg, .int .i64 c.pc, .int .i64 (c.rs 0), .int .i64 (c.rs 1), .int .i64 (c.rs 2), .int .i64 (c.rs 3), .int .i64 (c.rs 4), .int .i64 (c.rs 5), .int .i64 (c.rs 6), .int .i64 (c.rs 7), .int .i64 c.dp] 26)).alloc (.cells #[.int .i64 11, .int .i64 0, .int .i64 0, .int .i64 0] 30)) := (hb.alloc hb.size _).alloc (by have := hb.size; simp; omega) _
    refine ⟨h0.below hb2, (Cel.new U _ 26).put (Below.heap_alloc _ _ _ (by simp)), ?_, hB.trans (hb2.mono hB.size)⟩
    have h := Cel.new (U.alloc (.cells #[.int .i64 c.pg, .int .i64 c.pc, .int .i64 (c.rs 0), .int .i64 (c.rs 1), .int .i64 (c.rs 2), .int .i64 (c.rs 3), .int .i64 (c.rs 4), .int .i64 (c.rs 5), .int .i64 (c.rs 6), .int .i64 (c.rs 7), .int .i64 c.dp] 26)) #[.int .i64 11, .int .i64 0, .int .i64 0, .int .i64 0] 30
    rw [World.size_alloc] at h
    exact h
  have hN := eV _ rfl
  clear eV hb h0 hB HS x0 x1 x2 x3 x4 x5 x6 x7 x8 x9 x10
  generalize (U.alloc (.cells #[.int .i64 c.pg, .int .i64 c.pc, .int .i64 (c.rs 0), .int .i64 (c.rs 1), .int .i64 (c.rs 2), .int .i64 (c.rs 3), .int .i64 (c.rs 4), .int .i64 (c.rs 5), .int .i64 (c.rs 6), .int .i64 (c.rs 7), .int .i64 c.dp] 26)).alloc (.cells #[.int .i64 11, .int .i64 0, .int .i64 0, .int .i64 0] 30) = V at *
  generalize U.heap.size = D at *
  go_wp2_with fail
  go_loopw [24, 7, 8] (fun p q _ wr => ∃ (i : Nat) (m : Int), i ≤ 8 ∧ p = .int .i64 i ∧ q = .int .i64 m ∧ Hid (m = 0) ∧ Nr w wr D c c e11) (fun p _ _ _ => 8 - (intOf p).toNat)
  case atStart => exact ⟨0, 0, by omega, rfl, rfl, Hid.mk (rfl), hN⟩
  case round =>
    obtain ⟨i, m, hi, rfl, rfl, hm, hR⟩ := hrel
    clear hN
    by_cases hlt : i < 8
    · have i0 : (0 : Int) ≤ (i : Int) := by omega
      have i1 : (i : Int) < 8 := by omega
      have y1 := hR.c.cell (cxA_get c hlt)
      have y2 := hR.x.cell (cxA_get c hlt)
      generalize c.rs i = t at *
      go_wp2_with fail
      go_quiet (fail)
      go_wp2_with fail
      go_roundw
      case rel => exact ⟨i + 1, m, by omega, by simp, rfl, hm, hR.drewN _⟩
      case measure =>
        simp [intOf]
        omega
    · obtain rfl : i = 8 := by omega
      have hmz := hm.out
      subst hmz
      clear hm
      have EX := fun W => eqCx c W
      unfold cxA at EX
      have NK := neqK (k0 := 11) (by decide) 0 0 0
      have c0 : wr.cell? ⟨w.heap.size, 0, none⟩ = some (.int .i64 c.pg) := hR.c.cell rfl
      have c1 : wr.cell? ⟨w.heap.size, 1, none⟩ = some (.int .i64 c.pc) := hR.c.cell rfl
      have c2 : wr.cell? ⟨w.heap.size, 2, none⟩ = some (.int .i64 (c.rs 0)) := hR.c.cell rfl
      have c3 : wr.cell? ⟨w.heap.size, 3, none⟩ = some (.int .i64 (c.rs 1)) := hR.c.cell rfl
      have c4 : wr.cell? ⟨w.heap.size, 4, none⟩ = some (.int .i64 (c.rs 2)) := hR.c.cell rfl
      have c5 : wr.cell? ⟨w.heap.size, 5, none⟩ = some (.int .i64 (c.rs 3)) := hR.c.cell rfl
      have c6 : wr.cell? ⟨w.heap.size, 6, none⟩ = some (.int .i64 (c.rs 4)) := hR.c.cell rfl
      have c7 : wr.cell? ⟨w.heap.size, 7, none⟩ = some (.int .i64 (c.rs 5)) := hR.c.cell rfl
      have c8 : wr.cell? ⟨w.heap.size, 8, none⟩ = some (.int .i64 (c.rs 6)) := hR.c.cell rfl
      have c9 : wr.cell? ⟨w.heap.size, 9, none⟩ = some (.int .i64 (c.rs 7)) := hR.c.cell rfl
      have c10 : wr.cell? ⟨w.heap.size, 10, none⟩ = some (.int .i64 c.dp) := hR.c.cell rfl
      have d0 : wr.cell? ⟨D, 0, none⟩ = some (.int .i64 c.pg) := hR.x.cell rfl
      have d1 : wr.cell? ⟨D, 1, none⟩ = some (.int .i64 c.pc) := hR.x.cell rfl
      have d2 : wr.cell? ⟨D, 2, none⟩ = some (.int .i64 (c.rs 0)) := hR.x.cell rfl
      have d3 : wr.cell? ⟨D, 3, none⟩ = some (.int .i64 (c.rs 1)) := hR.x.cell rfl
      have d4 : wr.cell? ⟨D, 4, none⟩ = some (.int .i64 (c.rs 2)) := hR.x.cell rfl
      have d5 : wr.cell? ⟨D, 5, none⟩ = some (.int .i64 (c.rs 3)) := hR.x.cell rfl
      have d6 : wr.cell? ⟨D, 6, none⟩ = some (.int .i64 (c.rs 4)) := hR.x.cell rfl
      have d7 : wr.cell? ⟨D, 7, none⟩ = some (.int .i64 (c.rs 5)) := hR.x.cell rfl
      have d8 : wr.cell? ⟨D, 8, none⟩ = some (.int .i64 (c.rs 6)) := hR.x.cell rfl
      have d9 : wr.cell? ⟨D, 9, none⟩ = some (.int .i64 (c.rs 7)) := hR.x.cell rfl
      have d10 : wr.cell? ⟨D, 10, none⟩ = some (.int .i64 c.dp) := hR.x.cell rfl
      have q0 : wr.cell? ⟨D + 1, 0, none⟩ = some (.int .i64 11) := hR.k.cell rfl
      have q1 : wr.cell? ⟨D + 1, 1, none⟩ = some (.int .i64 0) := hR.k.cell rfl
      have q2 : wr.cell? ⟨D + 1, 2, none⟩ = some (.int .i64 0) := hR.k.cell rfl
      have q3 : wr.cell? ⟨D + 1, 3, none⟩ = some (.int .i64 0) := hR.k.cell rfl
      go_wp2_with (go_at_call 9; (refine (HL wr hR.b).mono ?_); rintro e U2 ⟨rfl, hb⟩)
      go_ret
      exact ⟨rfl, hR.b.trans (hb.mono hR.b.size)⟩

set_option maxRecDepth 100000 in
set_option maxHeartbeats 4000000 in
theorem near_hi {w : World} {xs : List Ins} {sa : Option Addr} {sc : Nat} {c : Cx} (hp0 : 0 ≤ c.pc) (hpc : (xs.length : Int) ≤ c.pc)
    (HL : ∀ W : World, Below w.heap.size w W → Calls Tryd.prog 9 #[] W fun e w' => e = .returned (.bool true) ∧ Below W.heap.size W w')
    (HG : ∀ W : World, Calls Tryd.prog 8 #[.slice sa xs.length sc] W fun e w' => e = .returned (.bool true) ∧ w' = W)
    (HW : ∀ W : World, Below w.heap.size w W → Calls Tryd.prog 19 #[.slice sa xs.length sc] W fun e w' => e = .returned (.bool true) ∧ Below W.heap.size W w')
    (HS : ∀ W : World, Below w.heap.size w W → Calls Tryd.prog 10 #[.slice sa xs.length sc, .agg #[.int .i64 c.pg, .int .i64 c.pc, .int .i64 (c.rs 0), .int .i64 (c.rs 1), .int .i64 (c.rs 2), .int .i64 (c.rs 3), .int .i64 (c.rs 4), .int .i64 (c.rs 5), .int .i64 (c.rs 6), .int .i64 (c.rs 7), .int .i64 c.dp]] W fun e w' => e = .returned (.tuple #[.agg #[.int .i64 c.pg, .int .i64 c.pc, .int .i64 (c.rs 0), .int .i64 (c.rs 1), .int .i64 (c.rs 2), .int .i64 (c.rs 3), .int .i64 (c.rs 4), .int .i64 (c.rs 5), .int .i64 (c.rs 6), .int .i64 (c.rs 7), .int .i64 c.dp], .agg #[.int .i64 11, .int .i64 0, .int .i64 0, .int .i64 0]]) ∧ Below W.heap.size W w')
    : Calls Tryd.prog 6 #[.slice sa xs.length sc, .agg #[.int .i64 c.pg, .int .i64 c.pc, .int .i64 (c.rs 0), .int .i64 (c.rs 1), .int .i64 (c.rs 2), .int .i64 (c.rs 3), .int .i64 (c.rs 4), .int .i64 (c.rs 5), .int .i64 (c.rs 6), .int .i64 (c.rs 7), .int .i64 c.dp]] w fun e w' => e = .returned (.bool true) ∧ Below w.heap.size w w' := by
  have hB : Below w.heap.size w (w.alloc (.cells #[.int .i64 c.pg, .int .i64 c.pc, .int .i64 (c.rs 0), .int .i64 (c.rs 1), .int .i64 (c.rs 2), .int .i64 (c.rs 3), .int .i64 (c.rs 4), .int .i64 (c.rs 5), .int .i64 (c.rs 6), .int .i64 (c.rs 7), .int .i64 c.dp] 26)) := (Below.refl _ w).alloc (Nat.le_refl _) _
  have hmx := mixed
  have h0 : Cel (w.alloc (.cells #[.int .i64 c.pg, .int .i64 c.pc, .int .i64 (c.rs 0), .int .i64 (c.rs 1), .int .i64 (c.rs 2), .int .i64 (c.rs 3), .int .i64 (c.rs 4), .int .i64 (c.rs 5), .int .i64 (c.rs 6), .int .i64 (c.rs 7), .int .i64 c.dp] 26)) w.heap.size #[.int .i64 c.pg, .int .i64 c.pc, .int .i64 (c.rs 0), .int .i64 (c.rs 1), .int .i64 (c.rs 2), .int .i64 (c.rs 3), .int .i64 (c.rs 4), .int .i64 (c.rs 5), .int .i64 (c.rs 6), .int .i64 (c.rs 7), .int .i64 c.dp] 26 := Cel.new w _ 26
  go_enter Tryd.func6, Tryd.ntmps6
  go_upto_region 1 with fail
  generalize w.alloc (.cells #[.int .i64 c.pg, .int .i64 c.pc, .int .i64 (c.rs 0), .int .i64 (c.rs 1), .int .i64 (c.rs 2), .int .i64 (c.rs 3), .int .i64 (c.rs 4), .int .i64 (c.rs 5), .int .i64 (c.rs 6), .int .i64 (c.rs 7), .int .i64 c.dp] 26) = W at *
  go_upto_region 3 with (first | (go_at_call 8; (refine (HG W).mono ?_); rintro e W0 ⟨rfl, h0⟩; rw [h0]; clear h0 W0) | (go_at_call 19; (refine (HW W hB).mono ?_); rintro e W1 ⟨rfl, hb1⟩))
  replace h0 := h0.below hb1
  replace hB := hB.trans (hb1.mono hB.size)
  clear hb1 HW HG
  have x0 : W1.cell? ⟨w.heap.size, 0, none⟩ = some (.int .i64 c.pg) := h0.cell rfl
  have x1 : W1.cell? ⟨w.heap.size, 1, none⟩ = some (.int .i64 c.pc) := h0.cell rfl
  have x2 : W1.cell? ⟨w.heap.size, 2, none⟩ = some (.int .i64 (c.rs 0)) := h0.cell rfl
  have x3 : W1.cell? ⟨w.heap.size, 3, none⟩ = some (.int .i64 (c.rs 1)) := h0.cell rfl
  have x4 : W1.cell? ⟨w.heap.size, 4, none⟩ = some (.int .i64 (c.rs 2)) := h0.cell rfl
  have x5 : W1.cell? ⟨w.heap.size, 5, none⟩ = some (.int .i64 (c.rs 3)) := h0.cell rfl
  have x6 : W1.cell? ⟨w.heap.size, 6, none⟩ = some (.int .i64 (c.rs 4)) := h0.cell rfl
  have x7 : W1.cell? ⟨w.heap.size, 7, none⟩ = some (.int .i64 (c.rs 5)) := h0.cell rfl
  have x8 : W1.cell? ⟨w.heap.size, 8, none⟩ = some (.int .i64 (c.rs 6)) := h0.cell rfl
  have x9 : W1.cell? ⟨w.heap.size, 9, none⟩ = some (.int .i64 (c.rs 7)) := h0.cell rfl
  have x10 : W1.cell? ⟨w.heap.size, 10, none⟩ = some (.int .i64 c.dp) := h0.cell rfl
  go_upto_region 4 with (go_at_call 10; (refine (HS W1 hB).mono ?_); rintro e U ⟨rfl, hb⟩)
  have eV : ∀ V : World, V = (U.alloc (.cells #[.int .i64 c.pg, .int .i64 c.pc, .int .i64 (c.rs 0), .int .i64 (c.rs 1), .int .i64 (c.rs 2), .int .i64 (c.rs 3), .int .i64 (c.rs 4), .int .i64 (c.rs 5), .int .i64 (c.rs 6), .int .i64 (c.rs 7), .int .i64 c.dp] 26)).alloc (.cells #[.int .i64 11, .int .i64 0, .int .i64 0, .int .i64 0] 30) → Nr w V U.heap.size c c e11 := by
    rintro V rfl
    have hb2 : Below W1.heap.size W1 ((U.alloc (.cells #[.int .i64 c.pg, .int .i64 c.pc, .int .i64 (c.rs 0), .int .i64 (c.rs 1), .int .i64 (c.rs 2), .int .i64 (c.rs 3), .int .i64 (c.rs 4), .int .i64 (c.rs 5), .int .i64 (c.rs 6), .int .i64 (c.rs 7), .int .i64 c.dp] 26)).alloc (.cells #[.int .i64 11, .int .i64 0, .int .i64 0, .int .i64 0] 30)) := (hb.alloc hb.size _).alloc (by have := hb.size; simp; omega) _
    refine ⟨h0.below hb2, (Cel.new U _ 26).put (Below.heap_alloc _ _ _ (by simp)), ?_, hB.trans (hb2.mono hB.size)⟩
    have h := Cel.new (U.alloc (.cells #[.int .i64 c.pg, .int .i64 c.pc, .int .i64 (c.rs 0), .int .i64 (c.rs 1), .int .i64 (c.rs 2), .int .i64 (c.rs 3), .int .i64 (c.rs 4), .int .i64 (c.rs 5), .int .i64 (c.rs 6), .int .i64 (c.rs 7), .int .i64 c.dp] 26)) #[.int .i64 11, .int .i64 0, .int .i64 0, .int .i64 0] 30
    rw [World.size_alloc] at h
    exact h
  have hN := eV _ rfl
  clear eV hb h0 hB HS x0 x1 x2 x3 x4 x5 x6 x7 x8 x9 x10
  generalize (U.alloc (.cells #[.int .i64 c.pg, .int .i64 c.pc, .int .i64 (c.rs 0), .int .i64 (c.rs 1), .int .i64 (c.rs 2), .int .i64 (c.rs 3), .int .i64 (c.rs 4), .int .i64 (c.rs 5), .int .i64 (c.rs 6), .int .i64 (c.rs 7), .int .i64 c.dp] 26)).alloc (.cells #[.int .i64 11, .int .i64 0, .int .i64 0, .int .i64 0] 30) = V at *
  generalize U.heap.size = D at *
  go_wp2_with fail
  go_loopw [24, 7, 8] (fun p q _ wr => ∃ (i : Nat) (m : Int), i ≤ 8 ∧ p = .int .i64 i ∧ q = .int .i64 m ∧ Hid (m = 0) ∧ Nr w wr D c c e11) (fun p _ _ _ => 8 - (intOf p).toNat)
  case atStart => exact ⟨0, 0, by omega, rfl, rfl, Hid.mk (rfl), hN⟩
  case round =>
    obtain ⟨i, m, hi, rfl, rfl, hm, hR⟩ := hrel
    clear hN
    by_cases hlt : i < 8
    · have i0 : (0 : Int) ≤ (i : Int) := by omega
      have i1 : (i : Int) < 8 := by omega
      have y1 := hR.c.cell (cxA_get c hlt)
      have y2 := hR.x.cell (cxA_get c hlt)
      generalize c.rs i = t at *
      go_wp2_with fail
      go_quiet (fail)
      go_wp2_with fail
      go_roundw
      case rel => exact ⟨i + 1, m, by omega, by simp, rfl, hm, hR.drewN _⟩
      case measure =>
        simp [intOf]
        omega
    · obtain rfl : i = 8 := by omega
      have hmz := hm.out
      subst hmz
      clear hm
      have EX := fun W => eqCx c W
      unfold cxA at EX
      have NK := neqK (k0 := 11) (by decide) 0 0 0
      have c0 : wr.cell? ⟨w.heap.size, 0, none⟩ = some (.int .i64 c.pg) := hR.c.cell rfl
      have c1 : wr.cell? ⟨w.heap.size, 1, none⟩ = some (.int .i64 c.pc) := hR.c.cell rfl
      have c2 : wr.cell? ⟨w.heap.size, 2, none⟩ = some (.int .i64 (c.rs 0)) := hR.c.cell rfl
      have c3 : wr.cell? ⟨w.heap.size, 3, none⟩ = some (.int .i64 (c.rs 1)) := hR.c.cell rfl
      have c4 : wr.cell? ⟨w.heap.size, 4, none⟩ = some (.int .i64 (c.rs 2)) := hR.c.cell rfl
      have c5 : wr.cell? ⟨w.heap.size, 5, none⟩ = some (.int .i64 (c.rs 3)) := hR.c.cell rfl
      have c6 : wr.cell? ⟨w.heap.size, 6, none⟩ = some (.int .i64 (c.rs 4)) := hR.c.cell rfl
      have c7 : wr.cell? ⟨w.heap.size, 7, none⟩ = some (.int .i64 (c.rs 5)) := hR.c.cell rfl
      have c8 : wr.cell? ⟨w.heap.size, 8, none⟩ = some (.int .i64 (c.rs 6)) := hR.c.cell rfl
      have c9 : wr.cell? ⟨w.heap.size, 9, none⟩ = some (.int .i64 (c.rs 7)) := hR.c.cell rfl
      have c10 : wr.cell? ⟨w.heap.size, 10, none⟩ = some (.int .i64 c.dp) := hR.c.cell rfl
      have d0 : wr.cell? ⟨D, 0, none⟩ = some (.int .i64 c.pg) := hR.x.cell rfl
      have d1 : wr.cell? ⟨D, 1, none⟩ = some (.int .i64 c.pc) := hR.x.cell rfl
      have d2 : wr.cell? ⟨D, 2, none⟩ = some (.int .i64 (c.rs 0)) := hR.x.cell rfl
      have d3 : wr.cell? ⟨D, 3, none⟩ = some (.int .i64 (c.rs 1)) := hR.x.cell rfl
      have d4 : wr.cell? ⟨D, 4, none⟩ = some (.int .i64 (c.rs 2)) := hR.x.cell rfl
      have d5 : wr.cell? ⟨D, 5, none⟩ = some (.int .i64 (c.rs 3)) := hR.x.cell rfl
      have d6 : wr.cell? ⟨D, 6, none⟩ = some (.int .i64 (c.rs 4)) := hR.x.cell rfl
      have d7 : wr.cell? ⟨D, 7, none⟩ = some (.int .i64 (c.rs 5)) := hR.x.cell rfl
      have d8 : wr.cell? ⟨D, 8, none⟩ = some (.int .i64 (c.rs 6)) := hR.x.cell rfl
      have d9 : wr.cell? ⟨D, 9, none⟩ = some (.int .i64 (c.rs 7)) := hR.x.cell rfl
      have d10 : wr.cell? ⟨D, 10, none⟩ = some (.int .i64 c.dp) := hR.x.cell rfl
      have q0 : wr.cell? ⟨D + 1, 0, none⟩ = some (.int .i64 11) := hR.k.cell rfl
      have q1 : wr.cell? ⟨D + 1, 1, none⟩ = some (.int .i64 0) := hR.k.cell rfl
      have q2 : wr.cell? ⟨D + 1, 2, none⟩ = some (.int .i64 0) := hR.k.cell rfl
      have q3 : wr.cell? ⟨D + 1, 3, none⟩ = some (.int .i64 0) := hR.k.cell rfl
      go_wp2_with (go_at_call 9; (refine (HL wr hR.b).mono ?_); rintro e U2 ⟨rfl, hb⟩)
      go_ret
      exact ⟨rfl, hR.b.trans (hb.mono hR.b.size)⟩

set_option maxRecDepth 100000 in
set_option maxHeartbeats 4000000 in
theorem near_call {w : World} {xs : List Ins} {sa : Option Addr} {sc : Nat} {c : Cx} {np : Int} {nr : Nat → Int} {k0 k1 k2 k3 : Int} (hk : k0 ≠ 0) (hsame : Hid (∀ j, nr j = c.rs j)) (hp0 : 0 ≤ c.pc) (hpc : c.pc < (xs.length : Int)) (hn0 : 0 ≤ np) (hn1 : np ≤ (xs.length : Int))
    (HL : ∀ W : World, Below w.heap.size w W → Calls Tryd.prog 9 #[] W fun e w' => e = .returned (.bool true) ∧ Below W.heap.size W w')
    (HG : ∀ W : World, Calls Tryd.prog 8 #[.slice sa xs.length sc] W fun e w' => e = .returned (.bool true) ∧ w' = W)
    (HW : ∀ W : World, Below w.heap.size w W → Calls Tryd.prog 19 #[.slice sa xs.length sc] W fun e w' => e = .returned (.bool true) ∧ Below W.heap.size W w')
    (HS : ∀ W : World, Below w.heap.size w W → Calls Tryd.prog 10 #[.slice sa xs.length sc, .agg #[.int .i64 c.pg, .int .i64 c.pc, .int .i64 (c.rs 0), .int .i64 (c.rs 1), .int .i64 (c.rs 2), .int .i64 (c.rs 3), .int .i64 (c.rs 4), .int .i64 (c.rs 5), .int .i64 (c.rs 6), .int .i64 (c.rs 7), .int .i64 c.dp]] W fun e w' => e = .returned (.tuple #[.agg #[.int .i64 c.pg, .int .i64 np, .int .i64 (nr 0), .int .i64 (nr 1), .int .i64 (nr 2), .int .i64 (nr 3), .int .i64 (nr 4), .int .i64 (nr 5), .int .i64 (nr 6), .int .i64 (nr 7), .int .i64 c.dp], .agg #[.int .i64 k0, .int .i64 k1, .int .i64 k2, .int .i64 k3]]) ∧ Below W.heap.size W w')
    : Calls Tryd.prog 6 #[.slice sa xs.length sc, .agg #[.int .i64 c.pg, .int .i64 c.pc, .int .i64 (c.rs 0), .int .i64 (c.rs 1), .int .i64 (c.rs 2), .int .i64 (c.rs 3), .int .i64 (c.rs 4), .int .i64 (c.rs 5), .int .i64 (c.rs 6), .int .i64 (c.rs 7), .int .i64 c.dp]] w fun e w' => e = .returned (.bool true) ∧ Below w.heap.size w w' := by
  have hB : Below w.heap.size w (w.alloc (.cells #[.int .i64 c.pg, .int .i64 c.pc, .int .i64 (c.rs 0), .int .i64 (c.rs 1), .int .i64 (c.rs 2), .int .i64 (c.rs 3), .int .i64 (c.rs 4), .int .i64 (c.rs 5), .int .i64 (c.rs 6), .int .i64 (c.rs 7), .int .i64 c.dp] 26)) := (Below.refl _ w).alloc (Nat.le_refl _) _
  have hmx := mixed
  have h0 : Cel (w.alloc (.cells #[.int .i64 c.pg, .int .i64 c.pc, .int .i64 (c.rs 0), .int .i64 (c.rs 1), .int .i64 (c.rs 2), .int .i64 (c.rs 3), .int .i64 (c.rs 4), .int .i64 (c.rs 5), .int .i64 (c.rs 6), .int .i64 (c.rs 7), .int .i64 c.dp] 26)) w.heap.size #[.int .i64 c.pg, .int .i64 c.pc, .int .i64 (c.rs 0), .int .i64 (c.rs 1), .int .i64 (c.rs 2), .int .i64 (c.rs 3), .int .i64 (c.rs 4), .int .i64 (c.rs 5), .int .i64 (c.rs 6), .int .i64 (c.rs 7), .int .i64 c.dp] 26 := Cel.new w _ 26
  go_enter Tryd.func6, Tryd.ntmps6
  go_upto_region 1 with fail
  generalize w.alloc (.cells #[.int .i64 c.pg, .int .i64 c.pc, .int .i64 (c.rs 0), .int .i64 (c.rs 1), .int .i64 (c.rs 2), .int .i64 (c.rs 3), .int .i64 (c.rs 4), .int .i64 (c.rs 5), .int .i64 (c.rs 6), .int .i64 (c.rs 7), .int .i64 c.dp] 26) = W at *
  go_upto_region 3 with (first | (go_at_call 8; (refine (HG W).mono ?_); rintro e W0 ⟨rfl, h0⟩; rw [h0]; clear h0 W0) | (go_at_call 19; (refine (HW W hB).mono ?_); rintro e W1 ⟨rfl, hb1⟩))
  replace h0 := h0.below hb1
  replace hB := hB.trans (hb1.mono hB.size)
  clear hb1 HW HG
  have x0 : W1.cell? ⟨w.heap.size, 0, none⟩ = some (.int .i64 c.pg) := h0.cell rfl
  have x1 : W1.cell? ⟨w.heap.size, 1, none⟩ = some (.int .i64 c.pc) := h0.cell rfl
  have x2 : W1.cell? ⟨w.heap.size, 2, none⟩ = some (.int .i64 (c.rs 0)) := h0.cell rfl
  have x3 : W1.cell? ⟨w.heap.size, 3, none⟩ = some (.int .i64 (c.rs 1)) := h0.cell rfl
  have x4 : W1.cell? ⟨w.heap.size, 4, none⟩ = some (.int .i64 (c.rs 2)) := h0.cell rfl
  have x5 : W1.cell? ⟨w.heap.size, 5, none⟩ = some (.int .i64 (c.rs 3)) := h0.cell rfl
  have x6 : W1.cell? ⟨w.heap.size, 6, none⟩ = some (.int .i64 (c.rs 4)) := h0.cell rfl
  have x7 : W1.cell? ⟨w.heap.size, 7, none⟩ = some (.int .i64 (c.rs 5)) := h0.cell rfl
  have x8 : W1.cell? ⟨w.heap.size, 8, none⟩ = some (.int .i64 (c.rs 6)) := h0.cell rfl
  have x9 : W1.cell? ⟨w.heap.size, 9, none⟩ = some (.int .i64 (c.rs 7)) := h0.cell rfl
  have x10 : W1.cell? ⟨w.heap.size, 10, none⟩ = some (.int .i64 c.dp) := h0.cell rfl
  go_upto_region 4 with (go_at_call 10; (refine (HS W1 hB).mono ?_); rintro e U ⟨rfl, hb⟩)
  have eV : ∀ V : World, V = (U.alloc (.cells #[.int .i64 c.pg, .int .i64 np, .int .i64 (nr 0), .int .i64 (nr 1), .int .i64 (nr 2), .int .i64 (nr 3), .int .i64 (nr 4), .int .i64 (nr 5), .int .i64 (nr 6), .int .i64 (nr 7), .int .i64 c.dp] 26)).alloc (.cells #[.int .i64 k0, .int .i64 k1, .int .i64 k2, .int .i64 k3] 30) → Nr w V U.heap.size c (⟨c.pg, np, nr, c.dp⟩ : Cx) (k0, k1, k2, k3) := by
    rintro V rfl
    have hb2 : Below W1.heap.size W1 ((U.alloc (.cells #[.int .i64 c.pg, .int .i64 np, .int .i64 (nr 0), .int .i64 (nr 1), .int .i64 (nr 2), .int .i64 (nr 3), .int .i64 (nr 4), .int .i64 (nr 5), .int .i64 (nr 6), .int .i64 (nr 7), .int .i64 c.dp] 26)).alloc (.cells #[.int .i64 k0, .int .i64 k1, .int .i64 k2, .int .i64 k3] 30)) := (hb.alloc hb.size _).alloc (by have := hb.size; simp; omega) _
    refine ⟨h0.below hb2, (Cel.new U _ 26).put (Below.heap_alloc _ _ _ (by simp)), ?_, hB.trans (hb2.mono hB.size)⟩
    have h := Cel.new (U.alloc (.cells #[.int .i64 c.pg, .int .i64 np, .int .i64 (nr 0), .int .i64 (nr 1), .int .i64 (nr 2), .int .i64 (nr 3), .int .i64 (nr 4), .int .i64 (nr 5), .int .i64 (nr 6), .int .i64 (nr 7), .int .i64 c.dp] 26)) #[.int .i64 k0, .int .i64 k1, .int .i64 k2, .int .i64 k3] 30
    rw [World.size_alloc] at h
    exact h
  have hN := eV _ rfl
  clear eV hb h0 hB HS x0 x1 x2 x3 x4 x5 x6 x7 x8 x9 x10
  generalize (U.alloc (.cells #[.int .i64 c.pg, .int .i64 np, .int .i64 (nr 0), .int .i64 (nr 1), .int .i64 (nr 2), .int .i64 (nr 3), .int .i64 (nr 4), .int .i64 (nr 5), .int .i64 (nr 6), .int .i64 (nr 7), .int .i64 c.dp] 26)).alloc (.cells #[.int .i64 k0, .int .i64 k1, .int .i64 k2, .int .i64 k3] 30) = V at *
  generalize U.heap.size = D at *
  go_wp2_with fail
  go_loopw [24, 7, 8] (fun p q _ wr => ∃ (i : Nat) (m : Int), i ≤ 8 ∧ p = .int .i64 i ∧ q = .int .i64 m ∧ Hid (m = 0) ∧ Nr w wr D c (⟨c.pg, np, nr, c.dp⟩ : Cx) (k0, k1, k2, k3)) (fun p _ _ _ => 8 - (intOf p).toNat)
  case atStart => exact ⟨0, 0, by omega, rfl, rfl, Hid.mk (rfl), hN⟩
  case round =>
    obtain ⟨i, m, hi, rfl, rfl, hm, hR⟩ := hrel
    clear hN
    by_cases hlt : i < 8
    · have i0 : (0 : Int) ≤ (i : Int) := by omega
      have i1 : (i : Int) < 8 := by omega
      have y1 := hR.c.cell (cxA_get c hlt)
      have y2 := hR.x.cell (cxA_get (⟨c.pg, np, nr, c.dp⟩ : Cx) hlt)
      rw [show ((⟨c.pg, np, nr, c.dp⟩ : Cx)).rs i = c.rs i from hsame.out i] at y2
      generalize c.rs i = t at *
      go_wp2_with fail
      go_quiet (fail)
      go_wp2_with fail
      go_roundw
      case rel => exact ⟨i + 1, m, by omega, by simp, rfl, hm, hR.drewN _⟩
      case measure =>
        simp [intOf]
        omega
    · obtain rfl : i = 8 := by omega
      have hmz := hm.out
      subst hmz
      clear hm hsame
      have NK := neqK hk k1 k2 k3
      have c0 : wr.cell? ⟨w.heap.size, 0, none⟩ = some (.int .i64 c.pg) := hR.c.cell rfl
      have c1 : wr.cell? ⟨w.heap.size, 1, none⟩ = some (.int .i64 c.pc) := hR.c.cell rfl
      have c2 : wr.cell? ⟨w.heap.size, 2, none⟩ = some (.int .i64 (c.rs 0)) := hR.c.cell rfl
      have c3 : wr.cell? ⟨w.heap.size, 3, none⟩ = some (.int .i64 (c.rs 1)) := hR.c.cell rfl
      have c4 : wr.cell? ⟨w.heap.size, 4, none⟩ = some (.int .i64 (c.rs 2)) := hR.c.cell rfl
      have c5 : wr.cell? ⟨w.heap.size, 5, none⟩ = some (.int .i64 (c.rs 3)) := hR.c.cell rfl
      have c6 : wr.cell? ⟨w.heap.size, 6, none⟩ = some (.int .i64 (c.rs 4)) := hR.c.cell rfl
      have c7 : wr.cell? ⟨w.heap.size, 7, none⟩ = some (.int .i64 (c.rs 5)) := hR.c.cell rfl
      have c8 : wr.cell? ⟨w.heap.size, 8, none⟩ = some (.int .i64 (c.rs 6)) := hR.c.cell rfl
      have c9 : wr.cell? ⟨w.heap.size, 9, none⟩ = some (.int .i64 (c.rs 7)) := hR.c.cell rfl
      have c10 : wr.cell? ⟨w.heap.size, 10, none⟩ = some (.int .i64 c.dp) := hR.c.cell rfl
      have d0 : wr.cell? ⟨D, 0, none⟩ = some (.int .i64 c.pg) := hR.x.cell rfl
      have d1 : wr.cell? ⟨D, 1, none⟩ = some (.int .i64 np) := hR.x.cell rfl
      have d2 : wr.cell? ⟨D, 2, none⟩ = some (.int .i64 (nr 0)) := hR.x.cell rfl
      have d3 : wr.cell? ⟨D, 3, none⟩ = some (.int .i64 (nr 1)) := hR.x.cell rfl
      have d4 : wr.cell? ⟨D, 4, none⟩ = some (.int .i64 (nr 2)) := hR.x.cell rfl
      have d5 : wr.cell? ⟨D, 5, none⟩ = some (.int .i64 (nr 3)) := hR.x.cell rfl
      have d6 : wr.cell? ⟨D, 6, none⟩ = some (.int .i64 (nr 4)) := hR.x.cell rfl
      have d7 : wr.cell? ⟨D, 7, none⟩ = some (.int .i64 (nr 5)) := hR.x.cell rfl
      have d8 : wr.cell? ⟨D, 8, none⟩ = some (.int .i64 (nr 6)) := hR.x.cell rfl
      have d9 : wr.cell? ⟨D, 9, none⟩ = some (.int .i64 (nr 7)) := hR.x.cell rfl
      have d10 : wr.cell? ⟨D, 10, none⟩ = some (.int .i64 c.dp) := hR.x.cell rfl
      have q0 : wr.cell? ⟨D + 1, 0, none⟩ = some (.int .i64 k0) := hR.k.cell rfl
      have q1 : wr.cell? ⟨D + 1, 1, none⟩ = some (.int .i64 k1) := hR.k.cell rfl
      have q2 : wr.cell? ⟨D + 1, 2, none⟩ = some (.int .i64 k2) := hR.k.cell rfl
      have q3 : wr.cell? ⟨D + 1, 3, none⟩ = some (.int .i64 k3) := hR.k.cell rfl
      go_wp2_with (go_at_call 9; (refine (HL wr hR.b).mono ?_); rintro e U2 ⟨rfl, hb⟩)
      go_ret
      exact ⟨rfl, hR.b.trans (hb.mono hR.b.size)⟩

set_option maxRecDepth 100000 in
set_option maxHeartbeats 4000000 in
theorem near_same {w : World} {xs : List Ins} {sa : Option Addr} {sc : Nat} {c : Cx} {np : Int} {nr : Nat → Int} {r : Nat} (hone : Hid (∀ j, j ≠ r → nr j = c.rs j)) (hp0 : 0 ≤ c.pc) (hpc : c.pc < (xs.length : Int)) (hn0 : 0 ≤ np) (hn1 : np ≤ (xs.length : Int))
    (HL : ∀ W : World, Below w.heap.size w W → Calls Tryd.prog 9 #[] W fun e w' => e = .returned (.bool true) ∧ Below W.heap.size W w')
    (HG : ∀ W : World, Calls Tryd.prog 8 #[.slice sa xs.length sc] W fun e w' => e = .returned (.bool true) ∧ w' = W)
    (HW : ∀ W : World, Below w.heap.size w W → Calls Tryd.prog 19 #[.slice sa xs.length sc] W fun e w' => e = .returned (.bool true) ∧ Below W.heap.size W w')
    (HS : ∀ W : World, Below w.heap.size w W → Calls Tryd.prog 10 #[.slice sa xs.length sc, .agg #[.int .i64 c.pg, .int .i64 c.pc, .int .i64 (c.rs 0), .int .i64 (c.rs 1), .int .i64 (c.rs 2), .int .i64 (c.rs 3), .int .i64 (c.rs 4), .int .i64 (c.rs 5), .int .i64 (c.rs 6), .int .i64 (c.rs 7), .int .i64 c.dp]] W fun e w' => e = .returned (.tuple #[.agg #[.int .i64 c.pg, .int .i64 np, .int .i64 (nr 0), .int .i64 (nr 1), .int .i64 (nr 2), .int .i64 (nr 3), .int .i64 (nr 4), .int .i64 (nr 5), .int .i64 (nr 6), .int .i64 (nr 7), .int .i64 c.dp], .agg #[.int .i64 0, .int .i64 0, .int .i64 0, .int .i64 0]]) ∧ Below W.heap.size W w')
    : Calls Tryd.prog 6 #[.slice sa xs.length sc, .agg #[.int .i64 c.pg, .int .i64 c.pc, .int .i64 (c.rs 0), .int .i64 (c.rs 1), .int .i64 (c.rs 2), .int .i64 (c.rs 3), .int .i64 (c.rs 4), .int .i64 (c.rs 5), .int .i64 (c.rs 6), .int .i64 (c.rs 7), .int .i64 c.dp]] w fun e w' => e = .returned (.bool true) ∧ Below w.heap.size w w' := by
  have hB : Below w.heap.size w (w.alloc (.cells #[.int .i64 c.pg, .int .i64 c.pc, .int .i64 (c.rs 0), .int .i64 (c.rs 1), .int .i64 (c.rs 2), .int .i64 (c.rs 3), .int .i64 (c.rs 4), .int .i64 (c.rs 5), .int .i64 (c.rs 6), .int .i64 (c.rs 7), .int .i64 c.dp] 26)) := (Below.refl _ w).alloc (Nat.le_refl _) _
  have hmx := mixed
  have h0 : Cel (w.alloc (.cells #[.int .i64 c.pg, .int .i64 c.pc, .int .i64 (c.rs 0), .int .i64 (c.rs 1), .int .i64 (c.rs 2), .int .i64 (c.rs 3), .int .i64 (c.rs 4), .int .i64 (c.rs 5), .int .i64 (c.rs 6), .int .i64 (c.rs 7), .int .i64 c.dp] 26)) w.heap.size #[.int .i64 c.pg, .int .i64 c.pc, .int .i64 (c.rs 0), .int .i64 (c.rs 1), .int .i64 (c.rs 2), .int .i64 (c.rs 3), .int .i64 (c.rs 4), .int .i64 (c.rs 5), .int .i64 (c.rs 6), .int .i64 (c.rs 7), .int .i64 c.dp] 26 := Cel.new w _ 26
  go_enter Tryd.func6, Tryd.ntmps6
  go_upto_region 1 with fail
  generalize w.alloc (.cells #[.int .i64 c.pg, .int .i64 c.pc, .int .i64 (c.rs 0), .int .i64 (c.rs 1), .int .i64 (c.rs 2), .int .i64 (c.rs 3), .int .i64 (c.rs 4), .int .i64 (c.rs 5), .int .i64 (c.rs 6), .int .i64 (c.rs 7), .int .i64 c.dp] 26) = W at *
  go_upto_region 3 with (first | (go_at_call 8; (refine (HG W).mono ?_); rintro e W0 ⟨rfl, h0⟩; rw [h0]; clear h0 W0) | (go_at_call 19; (refine (HW W hB).mono ?_); rintro e W1 ⟨rfl, hb1⟩))
  replace h0 := h0.below hb1
  replace hB := hB.trans (hb1.mono hB.size)
  clear hb1 HW HG
  have x0 : W1.cell? ⟨w.heap.size, 0, none⟩ = some (.int .i64 c.pg) := h0.cell rfl
  have x1 : W1.cell? ⟨w.heap.size, 1, none⟩ = some (.int .i64 c.pc) := h0.cell rfl
  have x2 : W1.cell? ⟨w.heap.size, 2, none⟩ = some (.int .i64 (c.rs 0)) := h0.cell rfl
  have x3 : W1.cell? ⟨w.heap.size, 3, none⟩ = some (.int .i64 (c.rs 1)) := h0.cell rfl
  have x4 : W1.cell? ⟨w.heap.size, 4, none⟩ = some (.int .i64 (c.rs 2)) := h0.cell rfl
  have x5 : W1.cell? ⟨w.heap.size, 5, none⟩ = some (.int .i64 (c.rs 3)) := h0.cell rfl
  have x6 : W1.cell? ⟨w.heap.size, 6, none⟩ = some (.int .i64 (c.rs 4)) := h0.cell rfl
  have x7 : W1.cell? ⟨w.heap.size, 7, none⟩ = some (.int .i64 (c.rs 5)) := h0.cell rfl
  have x8 : W1.cell? ⟨w.heap.size, 8, none⟩ = some (.int .i64 (c.rs 6)) := h0.cell rfl
  have x9 : W1.cell? ⟨w.heap.size, 9, none⟩ = some (.int .i64 (c.rs 7)) := h0.cell rfl
  have x10 : W1.cell? ⟨w.heap.size, 10, none⟩ = some (.int .i64 c.dp) := h0.cell rfl
  go_upto_region 4 with (go_at_call 10; (refine (HS W1 hB).mono ?_); rintro e U ⟨rfl, hb⟩)
  have eV : ∀ V : World, V = (U.alloc (.cells #[.int .i64 c.pg, .int .i64 np, .int .i64 (nr 0), .int .i64 (nr 1), .int .i64 (nr 2), .int .i64 (nr 3), .int .i64 (nr 4), .int .i64 (nr 5), .int .i64 (nr 6), .int .i64 (nr 7), .int .i64 c.dp] 26)).alloc (.cells #[.int .i64 0, .int .i64 0, .int .i64 0, .int .i64 0] 30) → Nr w V U.heap.size c (⟨c.pg, np, nr, c.dp⟩ : Cx) z4 := by
    rintro V rfl
    have hb2 : Below W1.heap.size W1 ((U.alloc (.cells #[.int .i64 c.pg, .int .i64 np, .int .i64 (nr 0), .int .i64 (nr 1), .int .i64 (nr 2), .int .i64 (nr 3), .int .i64 (nr 4), .int .i64 (nr 5), .int .i64 (nr 6), .int .i64 (nr 7), .int .i64 c.dp] 26)).alloc (.cells #[.int .i64 0, .int .i64 0, .int .i64 0, .int .i64 0] 30)) := (hb.alloc hb.size _).alloc (by have := hb.size; simp; omega) _
    refine ⟨h0.below hb2, (Cel.new U _ 26).put (Below.heap_alloc _ _ _ (by simp)), ?_, hB.trans (hb2.mono hB.size)⟩
    have h := Cel.new (U.alloc (.cells #[.int .i64 c.pg, .int .i64 np, .int .i64 (nr 0), .int .i64 (nr 1), .int .i64 (nr 2), .int .i64 (nr 3), .int .i64 (nr 4), .int .i64 (nr 5), .int .i64 (nr 6), .int .i64 (nr 7), .int .i64 c.dp] 26)) #[.int .i64 0, .int .i64 0, .int .i64 0, .int .i64 0] 30
    rw [World.size_alloc] at h
    exact h
  have hN := eV _ rfl
  clear eV hb h0 hB HS x0 x1 x2 x3 x4 x5 x6 x7 x8 x9 x10
  generalize (U.alloc (.cells #[.int .i64 c.pg, .int .i64 np, .int .i64 (nr 0), .int .i64 (nr 1), .int .i64 (nr 2), .int .i64 (nr 3), .int .i64 (nr 4), .int .i64 (nr 5), .int .i64 (nr 6), .int .i64 (nr 7), .int .i64 c.dp] 26)).alloc (.cells #[.int .i64 0, .int .i64 0, .int .i64 0, .int .i64 0] 30) = V at *
  generalize U.heap.size = D at *
  go_wp2_with fail
  go_loopw [24, 7, 8] (fun p q _ wr => ∃ (i : Nat) (m : Int), i ≤ 8 ∧ p = .int .i64 i ∧ q = .int .i64 m ∧ Hid (m = 0 ∨ (m = 1 ∧ r < i)) ∧ Nr w wr D c (⟨c.pg, np, nr, c.dp⟩ : Cx) z4) (fun p _ _ _ => 8 - (intOf p).toNat)
  case atStart => exact ⟨0, 0, by omega, rfl, rfl, Hid.mk (.inl rfl), hN⟩
  case round =>
    obtain ⟨i, m, hi, rfl, rfl, hm, hR⟩ := hrel
    clear hN
    by_cases hlt : i < 8
    · have i0 : (0 : Int) ≤ (i : Int) := by omega
      have i1 : (i : Int) < 8 := by omega
      have y1 := hR.c.cell (cxA_get c hlt)
      have y2 := hR.x.cell (cxA_get (⟨c.pg, np, nr, c.dp⟩ : Cx) hlt)
      by_cases he : ((⟨c.pg, np, nr, c.dp⟩ : Cx)).rs i = c.rs i
      · rw [he] at y2
        have hm2 : Hid (m = 0 ∨ (m = 1 ∧ r < i + 1)) := Hid.mk (hm.out.imp id (fun h => ⟨h.1, by omega⟩))
        clear hm he
        generalize c.rs i = t at *
        go_wp2_with fail
        go_quiet (fail)
        go_wp2_with fail
        go_roundw
        case rel => exact ⟨i + 1, m, by omega, by simp, rfl, hm2, hR.drewN _⟩
        case measure =>
          simp [intOf]
          omega
      · have hir : i = r := Classical.byContradiction (fun h => he (hone.out i h))
        have hm0 : m = 0 := by rcases hm.out with h | h <;> omega
        subst hm0
        have hir2 : r < i + 1 := by omega
        clear hm hir
        have he2 : (((⟨c.pg, np, nr, c.dp⟩ : Cx)).rs i != c.rs i) = true := by simpa using he
        clear he
        generalize ((⟨c.pg, np, nr, c.dp⟩ : Cx)).rs i = t at *
        generalize c.rs i = t2 at *
        go_wp2_with fail
        go_quiet (fail)
        go_wp2_with fail
        go_roundw
        case rel => exact ⟨i + 1, 1, by omega, by simp, rfl, Hid.mk (.inr ⟨rfl, hir2⟩), hR.drewN _⟩
        case measure =>
          simp [intOf]
          omega
    · obtain rfl : i = 8 := by omega
      have hmz := hm.out
      have hm0 : 0 ≤ m := by omega
      have hm1 : m ≤ 1 := by omega
      clear hm hmz hone
      have c0 : wr.cell? ⟨w.heap.size, 0, none⟩ = some (.int .i64 c.pg) := hR.c.cell rfl
      have c1 : wr.cell? ⟨w.heap.size, 1, none⟩ = some (.int .i64 c.pc) := hR.c.cell rfl
      have c2 : wr.cell? ⟨w.heap.size, 2, none⟩ = some (.int .i64 (c.rs 0)) := hR.c.cell rfl
      have c3 : wr.cell? ⟨w.heap.size, 3, none⟩ = some (.int .i64 (c.rs 1)) := hR.c.cell rfl
      have c4 : wr.cell? ⟨w.heap.size, 4, none⟩ = some (.int .i64 (c.rs 2)) := hR.c.cell rfl
      have c5 : wr.cell? ⟨w.heap.size, 5, none⟩ = some (.int .i64 (c.rs 3)) := hR.c.cell rfl
      have c6 : wr.cell? ⟨w.heap.size, 6, none⟩ = some (.int .i64 (c.rs 4)) := hR.c.cell rfl
      have c7 : wr.cell? ⟨w.heap.size, 7, none⟩ = some (.int .i64 (c.rs 5)) := hR.c.cell rfl
      have c8 : wr.cell? ⟨w.heap.size, 8, none⟩ = some (.int .i64 (c.rs 6)) := hR.c.cell rfl
      have c9 : wr.cell? ⟨w.heap.size, 9, none⟩ = some (.int .i64 (c.rs 7)) := hR.c.cell rfl
      have c10 : wr.cell? ⟨w.heap.size, 10, none⟩ = some (.int .i64 c.dp) := hR.c.cell rfl
      have d0 : wr.cell? ⟨D, 0, none⟩ = some (.int .i64 c.pg) := hR.x.cell rfl
      have d1 : wr.cell? ⟨D, 1, none⟩ = some (.int .i64 np) := hR.x.cell rfl
      have d2 : wr.cell? ⟨D, 2, none⟩ = some (.int .i64 (nr 0)) := hR.x.cell rfl
      have d3 : wr.cell? ⟨D, 3, none⟩ = some (.int .i64 (nr 1)) := hR.x.cell rfl
      have d4 : wr.cell? ⟨D, 4, none⟩ = some (.int .i64 (nr 2)) := hR.x.cell rfl
      have d5 : wr.cell? ⟨D, 5, none⟩ = some (.int .i64 (nr 3)) := hR.x.cell rfl
      have d6 : wr.cell? ⟨D, 6, none⟩ = some (.int .i64 (nr 4)) := hR.x.cell rfl
      have d7 : wr.cell? ⟨D, 7, none⟩ = some (.int .i64 (nr 5)) := hR.x.cell rfl
      have d8 : wr.cell? ⟨D, 8, none⟩ = some (.int .i64 (nr 6)) := hR.x.cell rfl
      have d9 : wr.cell? ⟨D, 9, none⟩ = some (.int .i64 (nr 7)) := hR.x.cell rfl
      have d10 : wr.cell? ⟨D, 10, none⟩ = some (.int .i64 c.dp) := hR.x.cell rfl
      have q0 : wr.cell? ⟨D + 1, 0, none⟩ = some (.int .i64 0) := hR.k.cell rfl
      have q1 : wr.cell? ⟨D + 1, 1, none⟩ = some (.int .i64 0) := hR.k.cell rfl
      have q2 : wr.cell? ⟨D + 1, 2, none⟩ = some (.int .i64 0) := hR.k.cell rfl
      have q3 : wr.cell? ⟨D + 1, 3, none⟩ = some (.int .i64 0) := hR.k.cell rfl
      go_wp2_with (go_at_call 9; (refine (HL wr hR.b).mono ?_); rintro e U2 ⟨rfl, hb⟩)
      go_ret
      exact ⟨rfl, hR.b.trans (hb.mono hR.b.size)⟩

set_option maxRecDepth 100000 in
set_option maxHeartbeats 4000000 in
theorem near_up {w : World} {xs : List Ins} {sa : Option Addr} {sc : Nat} {c : Cx} {np : Int} {nr : Nat → Int} {r : Nat} (hone : Hid (∀ j, j ≠ r → nr j = c.rs j)) (hd : c.dp < 8) (hd1 : -9223372036854775808 ≤ c.dp) (hp0 : 0 ≤ c.pc) (hpc : c.pc < (xs.length : Int)) (hn0 : 0 ≤ np) (hn1 : np ≤ (xs.length : Int))
    (HL : ∀ W : World, Below w.heap.size w W → Calls Tryd.prog 9 #[] W fun e w' => e = .returned (.bool true) ∧ Below W.heap.size W w')
    (HG : ∀ W : World, Calls Tryd.prog 8 #[.slice sa xs.length sc] W fun e w' => e = .returned (.bool true) ∧ w' = W)
    (HW : ∀ W : World, Below w.heap.size w W → Calls Tryd.prog 19 #[.slice sa xs.length sc] W fun e w' => e = .returned (.bool true) ∧ Below W.heap.size W w')
    (HS : ∀ W : World, Below w.heap.size w W → Calls Tryd.prog 10 #[.slice sa xs.length sc, .agg #[.int .i64 c.pg, .int .i64 c.pc, .int .i64 (c.rs 0), .int .i64 (c.rs 1), .int .i64 (c.rs 2), .int .i64 (c.rs 3), .int .i64 (c.rs 4), .int .i64 (c.rs 5), .int .i64 (c.rs 6), .int .i64 (c.rs 7), .int .i64 c.dp]] W fun e w' => e = .returned (.tuple #[.agg #[.int .i64 c.pg, .int .i64 np, .int .i64 (nr 0), .int .i64 (nr 1), .int .i64 (nr 2), .int .i64 (nr 3), .int .i64 (nr 4), .int .i64 (nr 5), .int .i64 (nr 6), .int .i64 (nr 7), .int .i64 (c.dp + 1)], .agg #[.int .i64 0, .int .i64 0, .int .i64 0, .int .i64 0]]) ∧ Below W.heap.size W w')
    : Calls Tryd.prog 6 #[.slice sa xs.length sc, .agg #[.int .i64 c.pg, .int .i64 c.pc, .int .i64 (c.rs 0), .int .i64 (c.rs 1), .int .i64 (c.rs 2), .int .i64 (c.rs 3), .int .i64 (c.rs 4), .int .i64 (c.rs 5), .int .i64 (c.rs 6), .int .i64 (c.rs 7), .int .i64 c.dp]] w fun e w' => e = .returned (.bool true) ∧ Below w.heap.size w w' := by
  have hB : Below w.heap.size w (w.alloc (.cells #[.int .i64 c.pg, .int .i64 c.pc, .int .i64 (c.rs 0), .int .i64 (c.rs 1), .int .i64 (c.rs 2), .int .i64 (c.rs 3), .int .i64 (c.rs 4), .int .i64 (c.rs 5), .int .i64 (c.rs 6), .int .i64 (c.rs 7), .int .i64 c.dp] 26)) := (Below.refl _ w).alloc (Nat.le_refl _) _
  have hmx := mixed
  have h0 : Cel (w.alloc (.cells #[.int .i64 c.pg, .int .i64 c.pc, .int .i64 (c.rs 0), .int .i64 (c.rs 1), .int .i64 (c.rs 2), .int .i64 (c.rs 3), .int .i64 (c.rs 4), .int .i64 (c.rs 5), .int .i64 (c.rs 6), .int .i64 (c.rs 7), .int .i64 c.dp] 26)) w.heap.size #[.int .i64 c.pg, .int .i64 c.pc, .int .i64 (c.rs 0), .int .i64 (c.rs 1), .int .i64 (c.rs 2), .int .i64 (c.rs 3), .int .i64 (c.rs 4), .int .i64 (c.rs 5), .int .i64 (c.rs 6), .int .i64 (c.rs 7), .int .i64 c.dp] 26 := Cel.new w _ 26
  go_enter Tryd.func6, Tryd.ntmps6
  go_upto_region 1 with fail
  generalize w.alloc (.cells #[.int .i64 c.pg, .int .i64 c.pc, .int .i64 (c.rs 0), .int .i64 (c.rs 1), .int .i64 (c.rs 2), .int .i64 (c.rs 3), .int .i64 (c.rs 4), .int .i64 (c.rs 5), .int .i64 (c.rs 6), .int .i64 (c.rs 7), .int .i64 c.dp] 26) = W at *
  go_upto_region 3 with (first | (go_at_call 8; (refine (HG W).mono ?_); rintro e W0 ⟨rfl, h0⟩; rw [h0]; clear h0 W0) | (go_at_call 19; (refine (HW W hB).mono ?_); rintro e W1 ⟨rfl, hb1⟩))
  replace h0 := h0.below hb1
  replace hB := hB.trans (hb1.mono hB.size)
  clear hb1 HW HG
  have x0 : W1.cell? ⟨w.heap.size, 0, none⟩ = some (.int .i64 c.pg) := h0.cell rfl
  have x1 : W1.cell? ⟨w.heap.size, 1, none⟩ = some (.int .i64 c.pc) := h0.cell rfl
  have x2 : W1.cell? ⟨w.heap.size, 2, none⟩ = some (.int .i64 (c.rs 0)) := h0.cell rfl
  have x3 : W1.cell? ⟨w.heap.size, 3, none⟩ = some (.int .i64 (c.rs 1)) := h0.cell rfl
  have x4 : W1.cell? ⟨w.heap.size, 4, none⟩ = some (.int .i64 (c.rs 2)) := h0.cell rfl
  have x5 : W1.cell? ⟨w.heap.size, 5, none⟩ = some (.int .i64 (c.rs 3)) := h0.cell rfl
  have x6 : W1.cell? ⟨w.heap.size, 6, none⟩ = some (.int .i64 (c.rs 4)) := h0.cell rfl
  have x7 : W1.cell? ⟨w.heap.size, 7, none⟩ = some (.int .i64 (c.rs 5)) := h0.cell rfl
  have x8 : W1.cell? ⟨w.heap.size, 8, none⟩ = some (.int .i64 (c.rs 6)) := h0.cell rfl
  have x9 : W1.cell? ⟨w.heap.size, 9, none⟩ = some (.int .i64 (c.rs 7)) := h0.cell rfl
  have x10 : W1.cell? ⟨w.heap.size, 10, none⟩ = some (.int .i64 c.dp) := h0.cell rfl
  go_upto_region 4 with (go_at_call 10; (refine (HS W1 hB).mono ?_); rintro e U ⟨rfl, hb⟩)
  have eV : ∀ V : World, V = (U.alloc (.cells #[.int .i64 c.pg, .int .i64 np, .int .i64 (nr 0), .int .i64 (nr 1), .int .i64 (nr 2), .int .i64 (nr 3), .int .i64 (nr 4), .int .i64 (nr 5), .int .i64 (nr 6), .int .i64 (nr 7), .int .i64 (c.dp + 1)] 26)).alloc (.cells #[.int .i64 0, .int .i64 0, .int .i64 0, .int .i64 0] 30) → Nr w V U.heap.size c (⟨c.pg, np, nr, (c.dp + 1)⟩ : Cx) z4 := by
    rintro V rfl
    have hb2 : Below W1.heap.size W1 ((U.alloc (.cells #[.int .i64 c.pg, .int .i64 np, .int .i64 (nr 0), .int .i64 (nr 1), .int .i64 (nr 2), .int .i64 (nr 3), .int .i64 (nr 4), .int .i64 (nr 5), .int .i64 (nr 6), .int .i64 (nr 7), .int .i64 (c.dp + 1)] 26)).alloc (.cells #[.int .i64 0, .int .i64 0, .int .i64 0, .int .i64 0] 30)) := (hb.alloc hb.size _).alloc (by have := hb.size; simp; omega) _
    refine ⟨h0.below hb2, (Cel.new U _ 26).put (Below.heap_alloc _ _ _ (by simp)), ?_, hB.trans (hb2.mono hB.size)⟩
    have h := Cel.new (U.alloc (.cells #[.int .i64 c.pg, .int .i64 np, .int .i64 (nr 0), .int .i64 (nr 1), .int .i64 (nr 2), .int .i64 (nr 3), .int .i64 (nr 4), .int .i64 (nr 5), .int .i64 (nr 6), .int .i64 (nr 7), .int .i64 (c.dp + 1)] 26)) #[.int .i64 0, .int .i64 0, .int .i64 0, .int .i64 0] 30
    rw [World.size_alloc] at h
    exact h
  have hN := eV _ rfl
  clear eV hb h0 hB HS x0 x1 x2 x3 x4 x5 x6 x7 x8 x9 x10
  generalize (U.alloc (.cells #[.int .i64 c.pg, .int .i64 np, .int .i64 (nr 0), .int .i64 (nr 1), .int .i64 (nr 2), .int .i64 (nr 3), .int .i64 (nr 4), .int .i64 (nr 5), .int .i64 (nr 6), .int .i64 (nr 7), .int .i64 (c.dp + 1)] 26)).alloc (.cells #[.int .i64 0, .int .i64 0, .int .i64 0, .int .i64 0] 30) = V at *
  generalize U.heap.size = D at *
  go_wp2_with fail
  go_loopw [24, 7, 8] (fun p q _ wr => ∃ (i : Nat) (m : Int), i ≤ 8 ∧ p = .int .i64 i ∧ q = .int .i64 m ∧ Hid (m = 0 ∨ (m = 1 ∧ r < i)) ∧ Nr w wr D c (⟨c.pg, np, nr, (c.dp + 1)⟩ : Cx) z4) (fun p _ _ _ => 8 - (intOf p).toNat)
  case atStart => exact ⟨0, 0, by omega, rfl, rfl, Hid.mk (.inl rfl), hN⟩
  case round =>
    obtain ⟨i, m, hi, rfl, rfl, hm, hR⟩ := hrel
    clear hN
    by_cases hlt : i < 8
    · have i0 : (0 : Int) ≤ (i : Int) := by omega
      have i1 : (i : Int) < 8 := by omega
      have y1 := hR.c.cell (cxA_get c hlt)
      have y2 := hR.x.cell (cxA_get (⟨c.pg, np, nr, (c.dp + 1)⟩ : Cx) hlt)
      by_cases he : ((⟨c.pg, np, nr, (c.dp + 1)⟩ : Cx)).rs i = c.rs i
      · rw [he] at y2
        have hm2 : Hid (m = 0 ∨ (m = 1 ∧ r < i + 1)) := Hid.mk (hm.out.imp id (fun h => ⟨h.1, by omega⟩))
        clear hm he
        generalize c.rs i = t at *
        go_wp2_with fail
        go_quiet (fail)
        go_wp2_with fail
        go_roundw
        case rel => exact ⟨i + 1, m, by omega, by simp, rfl, hm2, hR.drewN _⟩
        case measure =>
          simp [intOf]
          omega
      · have hir : i = r := Classical.byContradiction (fun h => he (hone.out i h))
        have hm0 : m = 0 := by rcases hm.out with h | h <;> omega
        subst hm0
        have hir2 : r < i + 1 := by omega
        clear hm hir
        have he2 : (((⟨c.pg, np, nr, (c.dp + 1)⟩ : Cx)).rs i != c.rs i) = true := by simpa using he
        clear he
        generalize ((⟨c.pg, np, nr, (c.dp + 1)⟩ : Cx)).rs i = t at *
        generalize c.rs i = t2 at *
        go_wp2_with fail
        go_quiet (fail)
        go_wp2_with fail
        go_roundw
        case rel => exact ⟨i + 1, 1, by omega, by simp, rfl, Hid.mk (.inr ⟨rfl, hir2⟩), hR.drewN _⟩
        case measure =>
          simp [intOf]
          omega
    · obtain rfl : i = 8 := by omega
      have hmz := hm.out
      have hm0 : 0 ≤ m := by omega
      have hm1 : m ≤ 1 := by omega
      clear hm hmz hone
      have n1 : ((c.dp + 1 : Int) == c.dp) = false := by simp; omega
      have n2 : (c.dp + 1 - 1 : Int) = c.dp := by omega
      have c0 : wr.cell? ⟨w.heap.size, 0, none⟩ = some (.int .i64 c.pg) := hR.c.cell rfl
      have c1 : wr.cell? ⟨w.heap.size, 1, none⟩ = some (.int .i64 c.pc) := hR.c.cell rfl
      have c2 : wr.cell? ⟨w.heap.size, 2, none⟩ = some (.int .i64 (c.rs 0)) := hR.c.cell rfl
      have c3 : wr.cell? ⟨w.heap.size, 3, none⟩ = some (.int .i64 (c.rs 1)) := hR.c.cell rfl
      have c4 : wr.cell? ⟨w.heap.size, 4, none⟩ = some (.int .i64 (c.rs 2)) := hR.c.cell rfl
      have c5 : wr.cell? ⟨w.heap.size, 5, none⟩ = some (.int .i64 (c.rs 3)) := hR.c.cell rfl
      have c6 : wr.cell? ⟨w.heap.size, 6, none⟩ = some (.int .i64 (c.rs 4)) := hR.c.cell rfl
      have c7 : wr.cell? ⟨w.heap.size, 7, none⟩ = some (.int .i64 (c.rs 5)) := hR.c.cell rfl
      have c8 : wr.cell? ⟨w.heap.size, 8, none⟩ = some (.int .i64 (c.rs 6)) := hR.c.cell rfl
      have c9 : wr.cell? ⟨w.heap.size, 9, none⟩ = some (.int .i64 (c.rs 7)) := hR.c.cell rfl
      have c10 : wr.cell? ⟨w.heap.size, 10, none⟩ = some (.int .i64 c.dp) := hR.c.cell rfl
      have d0 : wr.cell? ⟨D, 0, none⟩ = some (.int .i64 c.pg) := hR.x.cell rfl
      have d1 : wr.cell? ⟨D, 1, none⟩ = some (.int .i64 np) := hR.x.cell rfl
      have d2 : wr.cell? ⟨D, 2, none⟩ = some (.int .i64 (nr 0)) := hR.x.cell rfl
      have d3 : wr.cell? ⟨D, 3, none⟩ = some (.int .i64 (nr 1)) := hR.x.cell rfl
      have d4 : wr.cell? ⟨D, 4, none⟩ = some (.int .i64 (nr 2)) := hR.x.cell rfl
      have d5 : wr.cell? ⟨D, 5, none⟩ = some (.int .i64 (nr 3)) := hR.x.cell rfl
      have d6 : wr.cell? ⟨D, 6, none⟩ = some (.int .i64 (nr 4)) := hR.x.cell rfl
      have d7 : wr.cell? ⟨D, 7, none⟩ = some (.int .i64 (nr 5)) := hR.x.cell rfl
      have d8 : wr.cell? ⟨D, 8, none⟩ = some (.int .i64 (nr 6)) := hR.x.cell rfl
      have d9 : wr.cell? ⟨D, 9, none⟩ = some (.int .i64 (nr 7)) := hR.x.cell rfl
      have d10 : wr.cell? ⟨D, 10, none⟩ = some (.int .i64 (c.dp + 1)) := hR.x.cell rfl
      have q0 : wr.cell? ⟨D + 1, 0, none⟩ = some (.int .i64 0) := hR.k.cell rfl
      have q1 : wr.cell? ⟨D + 1, 1, none⟩ = some (.int .i64 0) := hR.k.cell rfl
      have q2 : wr.cell? ⟨D + 1, 2, none⟩ = some (.int .i64 0) := hR.k.cell rfl
      have q3 : wr.cell? ⟨D + 1, 3, none⟩ = some (.int .i64 0) := hR.k.cell rfl
      go_wp2_with (go_at_call 9; (refine (HL wr hR.b).mono ?_); rintro e U2 ⟨rfl, hb⟩)
      go_ret
      exact ⟨rfl, hR.b.trans (hb.mono hR.b.size)⟩

set_option maxRecDepth 100000 in
set_option maxHeartbeats 4000000 in
theorem near_down {w : World} {xs : List Ins} {sa : Option Addr} {sc : Nat} {c : Cx} {np : Int} {nr : Nat → Int} {r : Nat} (hone : Hid (∀ j, j ≠ r → nr j = c.rs j)) (hd : 0 < c.dp) (hd1 : c.dp ≤ 9223372036854775807) (hp0 : 0 ≤ c.pc) (hpc : c.pc < (xs.length : Int)) (hn0 : 0 ≤ np) (hn1 : np ≤ (xs.length : Int))
    (HL : ∀ W : World, Below w.heap.size w W → Calls Tryd.prog 9 #[] W fun e w' => e = .returned (.bool true) ∧ Below W.heap.size W w')
    (HG : ∀ W : World, Calls Tryd.prog 8 #[.slice sa xs.length sc] W fun e w' => e = .returned (.bool true) ∧ w' = W)
    (HW : ∀ W : World, Below w.heap.size w W → Calls Tryd.prog 19 #[.slice sa xs.length sc] W fun e w' => e = .returned (.bool true) ∧ Below W.heap.size W w')
    (HS : ∀ W : World, Below w.heap.size w W → Calls Tryd.prog 10 #[.slice sa xs.length sc, .agg #[.int .i64 c.pg, .int .i64 c.pc, .int .i64 (c.rs 0), .int .i64 (c.rs 1), .int .i64 (c.rs 2), .int .i64 (c.rs 3), .int .i64 (c.rs 4), .int .i64 (c.rs 5), .int .i64 (c.rs 6), .int .i64 (c.rs 7), .int .i64 c.dp]] W fun e w' => e = .returned (.tuple #[.agg #[.int .i64 c.pg, .int .i64 np, .int .i64 (nr 0), .int .i64 (nr 1), .int .i64 (nr 2), .int .i64 (nr 3), .int .i64 (nr 4), .int .i64 (nr 5), .int .i64 (nr 6), .int .i64 (nr 7), .int .i64 (c.dp - 1)], .agg #[.int .i64 0, .int .i64 0, .int .i64 0, .int .i64 0]]) ∧ Below W.heap.size W w')
    : Calls Tryd.prog 6 #[.slice sa xs.length sc, .agg #[.int .i64 c.pg, .int .i64 c.pc, .int .i64 (c.rs 0), .int .i64 (c.rs 1), .int .i64 (c.rs 2), .int .i64 (c.rs 3), .int .i64 (c.rs 4), .int .i64 (c.rs 5), .int .i64 (c.rs 6), .int .i64 (c.rs 7), .int .i64 c.dp]] w fun e w' => e = .returned (.bool true) ∧ Below w.heap.size w w' := by
  have hB : Below w.heap.size w (w.alloc (.cells #[.int .i64 c.pg, .int .i64 c.pc, .int .i64 (c.rs 0), .int .i64 (c.rs 1), .int .i64 (c.rs 2), .int .i64 (c.rs 3), .int .i64 (c.rs 4), .int .i64 (c.rs 5), .int .i64 (c.rs 6), .int .i64 (c.rs 7), .int .i64 c.dp] 26)) := (Below.refl _ w).alloc (Nat.le_refl _) _
  have hmx := mixed
  have h0 : Cel (w.alloc (.cells #[.int .i64 c.pg, .int .i64 c.pc, .int .i64 (c.rs 0), .int .i64 (c.rs 1), .int .i64 (c.rs 2), .int .i64 (c.rs 3), .int .i64 (c.rs 4), .int .i64 (c.rs 5), .int .i64 (c.rs 6), .int .i64 (c.rs 7), .int .i64 c.dp] 26)) w.heap.size #[.int .i64 c.pg, .int .i64 c.pc, .int .i64 (c.rs 0), .int .i64 (c.rs 1), .int .i64 (c.rs 2), .int .i64 (c.rs 3), .int .i64 (c.rs 4), .int .i64 (c.rs 5), .int .i64 (c.rs 6), .int .i64 (c.rs 7), .int .i64 c.dp] 26 := Cel.new w _ 26
  go_enter Tryd.func6, Tryd.ntmps6
  go_upto_region 1 with fail
  generalize w.alloc (.cells #[.int .i64 c.pg, .int .i64 c.pc, .int .i64 (c.rs 0), .int .i64 (c.rs 1), .int .i64 (c.rs 2), .int .i64 (c.rs 3), .int .i64 (c.rs 4), .int .i64 (c.rs 5), .int .i64 (c.rs 6), .int .i64 (c.rs 7), .int .i64 c.dp] 26) = W at *
  go_upto_region 3 with (first | (go_at_call 8; (refine (HG W).mono ?_); rintro e W0 ⟨rfl, h0⟩; rw [h0]; clear h0 W0) | (go_at_call 19; (refine (HW W hB).mono ?_); rintro e W1 ⟨rfl, hb1⟩))
  replace h0 := h0.below hb1
  replace hB := hB.trans (hb1.mono hB.size)
  clear hb1 HW HG
  have x0 : W1.cell? ⟨w.heap.size, 0, none⟩ = some (.int .i64 c.pg) := h0.cell rfl
  have x1 : W1.cell? ⟨w.heap.size, 1, none⟩ = some (.int .i64 c.pc) := h0.cell rfl
  have x2 : W1.cell? ⟨w.heap.size, 2, none⟩ = some (.int .i64 (c.rs 0)) := h0.cell rfl
  have x3 : W1.cell? ⟨w.heap.size, 3, none⟩ = some (.int .i64 (c.rs 1)) := h0.cell rfl
  have x4 : W1.cell? ⟨w.heap.size, 4, none⟩ = some (.int .i64 (c.rs 2)) := h0.cell rfl
  have x5 : W1.cell? ⟨w.heap.size, 5, none⟩ = some (.int .i64 (c.rs 3)) := h0.cell rfl
  have x6 : W1.cell? ⟨w.heap.size, 6, none⟩ = some (.int .i64 (c.rs 4)) := h0.cell rfl
  have x7 : W1.cell? ⟨w.heap.size, 7, none⟩ = some (.int .i64 (c.rs 5)) := h0.cell rfl
  have x8 : W1.cell? ⟨w.heap.size, 8, none⟩ = some (.int .i64 (c.rs 6)) := h0.cell rfl
  have x9 : W1.cell? ⟨w.heap.size, 9, none⟩ = some (.int .i64 (c.rs 7)) := h0.cell rfl
  have x10 : W1.cell? ⟨w.heap.size, 10, none⟩ = some (.int .i64 c.dp) := h0.cell rfl
  go_upto_region 4 with (go_at_call 10; (refine (HS W1 hB).mono ?_); rintro e U ⟨rfl, hb⟩)
  have eV : ∀ V : World, V = (U.alloc (.cells #[.int .i64 c.pg, .int .i64 np, .int .i64 (nr 0), .int .i64 (nr 1), .int .i64 (nr 2), .int .i64 (nr 3), .int .i64 (nr 4), .int .i64 (nr 5), .int .i64 (nr 6), .int .i64 (nr 7), .int .i64 (c.dp - 1)] 26)).alloc (.cells #[.int .i64 0, .int .i64 0, .int .i64 0, .int .i64 0] 30) → Nr w V U.heap.size c (⟨c.pg, np, nr, (c.dp - 1)⟩ : Cx) z4 := by
    rintro V rfl
    have hb2 : Below W1.heap.size W1 ((U.alloc (.cells #[.int .i64 c.pg, .int .i64 np, .int .i64 (nr 0), .int .i64 (nr 1), .int .i64 (nr 2), .int .i64 (nr 3), .int .i64 (nr 4), .int .i64 (nr 5), .int .i64 (nr 6), .int .i64 (nr 7), .int .i64 (c.dp - 1)] 26)).alloc (.cells #[.int .i64 0, .int .i64 0, .int .i64 0, .int .i64 0] 30)) := (hb.alloc hb.size _).alloc (by have := hb.size; simp; omega) _
    refine ⟨h0.below hb2, (Cel.new U _ 26).put (Below.heap_alloc _ _ _ (by simp)), ?_, hB.trans (hb2.mono hB.size)⟩
    have h := Cel.new (U.alloc (.cells #[.int .i64 c.pg, .int .i64 np, .int .i64 (nr 0), .int .i64 (nr 1), .int .i64 (nr 2), .int .i64 (nr 3), .int .i64 (nr 4), .int .i64 (nr 5), .int .i64 (nr 6), .int .i64 (nr 7), .int .i64 (c.dp - 1)] 26)) #[.int .i64 0, .int .i64 0, .int .i64 0, .int .i64 0] 30
    rw [World.size_alloc] at h
    exact h
  have hN := eV _ rfl
  clear eV hb h0 hB HS x0 x1 x2 x3 x4 x5 x6 x7 x8 x9 x10
  generalize (U.alloc (.cells #[.int .i64 c.pg, .int .i64 np, .int .i64 (nr 0), .int .i64 (nr 1), .int .i64 (nr 2), .int .i64 (nr 3), .int .i64 (nr 4), .int .i64 (nr 5), .int .i64 (nr 6), .int .i64 (nr 7), .int .i64 (c.dp - 1)] 26)).alloc (.cells #[.int .i64 0, .int .i64 0, .int .i64 0, .int .i64 0] 30) = V at *
  generalize U.heap.size = D at *
  go_wp2_with fail
  go_loopw [24, 7, 8] (fun p q _ wr => ∃ (i : Nat) (m : Int), i ≤ 8 ∧ p = .int .i64 i ∧ q = .int .i64 m ∧ Hid (m = 0 ∨ (m = 1 ∧ r < i)) ∧ Nr w wr D c (⟨c.pg, np, nr, (c.dp - 1)⟩ : Cx) z4) (fun p _ _ _ => 8 - (intOf p).toNat)
  case atStart => exact ⟨0, 0, by omega, rfl, rfl, Hid.mk (.inl rfl), hN⟩
  case round =>
    obtain ⟨i, m, hi, rfl, rfl, hm, hR⟩ := hrel
    clear hN
    by_cases hlt : i < 8
    · have i0 : (0 : Int) ≤ (i : Int) := by omega
      have i1 : (i : Int) < 8 := by omega
      have y1 := hR.c.cell (cxA_get c hlt)
      have y2 := hR.x.cell (cxA_get (⟨c.pg, np, nr, (c.dp - 1)⟩ : Cx) hlt)
      by_cases he : ((⟨c.pg, np, nr, (c.dp - 1)⟩ : Cx)).rs i = c.rs i
      · rw [he] at y2
        have hm2 : Hid (m = 0 ∨ (m = 1 ∧ r < i + 1)) := Hid.mk (hm.out.imp id (fun h => ⟨h.1, by omega⟩))
        clear hm he
        generalize c.rs i = t at *
        go_wp2_with fail
        go_quiet (fail)
        go_wp2_with fail
        go_roundw
        case rel => exact ⟨i + 1, m, by omega, by simp, rfl, hm2, hR.drewN _⟩
        case measure =>
          simp [intOf]
          omega
      · have hir : i = r := Classical.byContradiction (fun h => he (hone.out i h))
        have hm0 : m = 0 := by rcases hm.out with h | h <;> omega
        subst hm0
        have hir2 : r < i + 1 := by omega
        clear hm hir
        have he2 : (((⟨c.pg, np, nr, (c.dp - 1)⟩ : Cx)).rs i != c.rs i) = true := by simpa using he
        clear he
        generalize ((⟨c.pg, np, nr, (c.dp - 1)⟩ : Cx)).rs i = t at *
        generalize c.rs i = t2 at *
        go_wp2_with fail
        go_quiet (fail)
        go_wp2_with fail
        go_roundw
        case rel => exact ⟨i + 1, 1, by omega, by simp, rfl, Hid.mk (.inr ⟨rfl, hir2⟩), hR.drewN _⟩
        case measure =>
          simp [intOf]
          omega
    · obtain rfl : i = 8 := by omega
      have hmz := hm.out
      have hm0 : 0 ≤ m := by omega
      have hm1 : m ≤ 1 := by omega
      clear hm hmz hone
      have n1 : ((c.dp - 1 : Int) == c.dp) = false := by simp; omega
      have n2 : ((c.dp - 1 - 1 : Int) == c.dp) = false := by simp; omega
      have n3 : (c.dp - 1 + 1 : Int) = c.dp := by omega
      have c0 : wr.cell? ⟨w.heap.size, 0, none⟩ = some (.int .i64 c.pg) := hR.c.cell rfl
      have c1 : wr.cell? ⟨w.heap.size, 1, none⟩ = some (.int .i64 c.pc) := hR.c.cell rfl
      have c2 : wr.cell? ⟨w.heap.size, 2, none⟩ = some (.int .i64 (c.rs 0)) := hR.c.cell rfl
      have c3 : wr.cell? ⟨w.heap.size, 3, none⟩ = some (.int .i64 (c.rs 1)) := hR.c.cell rfl
      have c4 : wr.cell? ⟨w.heap.size, 4, none⟩ = some (.int .i64 (c.rs 2)) := hR.c.cell rfl
      have c5 : wr.cell? ⟨w.heap.size, 5, none⟩ = some (.int .i64 (c.rs 3)) := hR.c.cell rfl
      have c6 : wr.cell? ⟨w.heap.size, 6, none⟩ = some (.int .i64 (c.rs 4)) := hR.c.cell rfl
      have c7 : wr.cell? ⟨w.heap.size, 7, none⟩ = some (.int .i64 (c.rs 5)) := hR.c.cell rfl
      have c8 : wr.cell? ⟨w.heap.size, 8, none⟩ = some (.int .i64 (c.rs 6)) := hR.c.cell rfl
      have c9 : wr.cell? ⟨w.heap.size, 9, none⟩ = some (.int .i64 (c.rs 7)) := hR.c.cell rfl
      have c10 : wr.cell? ⟨w.heap.size, 10, none⟩ = some (.int .i64 c.dp) := hR.c.cell rfl
      have d0 : wr.cell? ⟨D, 0, none⟩ = some (.int .i64 c.pg) := hR.x.cell rfl
      have d1 : wr.cell? ⟨D, 1, none⟩ = some (.int .i64 np) := hR.x.cell rfl
      have d2 : wr.cell? ⟨D, 2, none⟩ = some (.int .i64 (nr 0)) := hR.x.cell rfl
      have d3 : wr.cell? ⟨D, 3, none⟩ = some (.int .i64 (nr 1)) := hR.x.cell rfl
      have d4 : wr.cell? ⟨D, 4, none⟩ = some (.int .i64 (nr 2)) := hR.x.cell rfl
      have d5 : wr.cell? ⟨D, 5, none⟩ = some (.int .i64 (nr 3)) := hR.x.cell rfl
      have d6 : wr.cell? ⟨D, 6, none⟩ = some (.int .i64 (nr 4)) := hR.x.cell rfl
      have d7 : wr.cell? ⟨D, 7, none⟩ = some (.int .i64 (nr 5)) := hR.x.cell rfl
      have d8 : wr.cell? ⟨D, 8, none⟩ = some (.int .i64 (nr 6)) := hR.x.cell rfl
      have d9 : wr.cell? ⟨D, 9, none⟩ = some (.int .i64 (nr 7)) := hR.x.cell rfl
      have d10 : wr.cell? ⟨D, 10, none⟩ = some (.int .i64 (c.dp - 1)) := hR.x.cell rfl
      have q0 : wr.cell? ⟨D + 1, 0, none⟩ = some (.int .i64 0) := hR.k.cell rfl
      have q1 : wr.cell? ⟨D + 1, 1, none⟩ = some (.int .i64 0) := hR.k.cell rfl
      have q2 : wr.cell? ⟨D + 1, 2, none⟩ = some (.int .i64 0) := hR.k.cell rfl
      have q3 : wr.cell? ⟨D + 1, 3, none⟩ = some (.int .i64 0) := hR.k.cell rfl
      go_wp2_with (go_at_call 9; (refine (HL wr hR.b).mono ?_); rintro e U2 ⟨rfl, hb⟩)
      go_ret
      exact ⟨rfl, hR.b.trans (hb.mono hR.b.size)⟩

theorem near_tail (xs : List Ins) (c : Cx) (sa : Option Addr) (sc : Nat) (w : World) (hp : PV w sa xs) (hg : Rg c) (hT : Tab w) :
    Calls Tryd.prog 6 #[.slice sa xs.length sc, .agg (cxA c)] w fun e w' => e = .returned (.bool true) ∧ Below w.heap.size w w' := by
  have HL : ∀ W : World, Below w.heap.size w W → Calls Tryd.prog 9 #[] W fun e w' => e = .returned (.bool true) ∧ Below W.heap.size W w' := fun W hb => lives_any (hT.on hb)
  by_cases hl : xs.length ≤ 80
  · have HG : ∀ W : World, Calls Tryd.prog 8 #[.slice sa xs.length sc] W fun e w' => e = .returned (.bool true) ∧ w' = W := fun W => by
      have h := light_any (ps := xs) (a := sa) sc W
      rwa [decide_eq_true hl] at h
    have HW : ∀ W : World, Below w.heap.size w W → Calls Tryd.prog 19 #[.slice sa xs.length sc] W fun e w' => e = .returned (.bool (wholeB xs)) ∧ Below W.heap.size W w' := fun W hb => rwhole_any sc (hp.below hb)
    cases hw : wholeB xs with
    | false =>
      rw [hw] at HW
      exact near_no HL HG HW
    | true =>
      rw [hw] at HW
      have ec : codeL xs = xs := by unfold codeL; rw [hw]; rfl
      have HS := fun (W : World) (hb : Below w.heap.size w W) => Step_any sc c (hp.below hb) (hT.on hb)
      rw [ec] at HS
      by_cases hin : 0 ≤ c.pc ∧ c.pc < (xs.length : Int)
      · have hgd := (wholeB_iff.1 hw).2 c.pc.toNat (by omega)
        have hN := do_near hgd hg hin.1 hin.2
        have es : stepC xs c = doC (ins xs c.pc.toNat) (toPC c (c.pc + 1)) := by unfold stepC; rw [if_pos hin]
        rw [es] at HS
        generalize doC (ins xs c.pc.toNat) (toPC c (c.pc + 1)) = q at *
        obtain ⟨⟨pg, np, nr, nd⟩, k0, k1, k2, k3⟩ := q
        obtain ⟨h1, ⟨r, h2⟩, h3, h4, h5, h6, h7⟩ := hN
        simp only at h1 h2 h3 h4 h5 h6 h7
        subst h1
        by_cases hk : k0 = 0
        · have e := h4 hk
          simp only [z4, Prod.mk.injEq] at e
          obtain ⟨rfl, rfl, rfl, rfl⟩ := e
          rcases h7 with rfl | ⟨h8, rfl⟩ | ⟨h8, rfl⟩
          · exact near_same (Hid.mk h2) hin.1 hin.2 h5 h6 HL HG HW HS
          · exact near_up (Hid.mk h2) h8 hg.1 hin.1 hin.2 h5 h6 HL HG HW HS
          · exact near_down (Hid.mk h2) h8 hg.2 hin.1 hin.2 h5 h6 HL HG HW HS
        · obtain ⟨h8, rfl⟩ := h3 hk
          exact near_call hk (Hid.mk h8) hin.1 hin.2 h5 h6 HL HG HW HS
      · have es : stepC xs c = (c, e11) := by unfold stepC; rw [if_neg hin]
        rw [es] at HS
        by_cases h0 : c.pc < 0
        · exact near_lo h0 HL HG HW HS
        · exact near_hi (by omega) (by omega) HL HG HW HS
  · have HG : ∀ W : World, Calls Tryd.prog 8 #[.slice sa xs.length sc] W fun e w' => e = .returned (.bool false) ∧ w' = W := fun W => by
      have h := light_any (ps := xs) (a := sa) sc W
      rwa [decide_eq_false hl] at h
    exact near_heavy HL HG

end Go.Proofs.YtllnpkijojpccaaDoor
