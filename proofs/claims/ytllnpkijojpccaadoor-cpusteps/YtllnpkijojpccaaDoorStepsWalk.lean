/- CpuSteps returns true: its walk. -/
import Derived.Test.YtllnpkijojpccaaDoorRRun
import Derived.Test.YtllnpkijojpccaaDoorCLives
namespace Go.Proofs.YtllnpkijojpccaaDoor
open Go Go.RowKit Go.Shelf

set_option maxRecDepth 100000 in
set_option maxHeartbeats 4000000 in
theorem steps_heavy {w : World} {xs : List Ins} {sa : Option Addr} {sc : Nat} {c : Cx} {most : Int} 
    (HL : ∀ W : World, Below w.heap.size w W → Calls Tryd.prog 9 #[] W fun e w' => e = .returned (.bool true) ∧ Below W.heap.size W w')
    (HG : ∀ W : World, Calls Tryd.prog 8 #[.slice sa xs.length sc] W fun e w' => e = .returned (.bool false) ∧ w' = W)
    : Calls Tryd.prog 3 #[.slice sa xs.length sc, .agg #[.int .i64 c.pg, .int .i64 c.pc, .int .i64 (c.rs 0), .int .i64 (c.rs 1), .int .i64 (c.rs 2), .int .i64 (c.rs 3), .int .i64 (c.rs 4), .int .i64 (c.rs 5), .int .i64 (c.rs 6), .int .i64 (c.rs 7), .int .i64 c.dp], .int .i64 most] w fun e w' => e = .returned (.bool true) ∧ Below w.heap.size w w' := by
  have hB : Below w.heap.size w (w.alloc (.cells #[.int .i64 c.pg, .int .i64 c.pc, .int .i64 (c.rs 0), .int .i64 (c.rs 1), .int .i64 (c.rs 2), .int .i64 (c.rs 3), .int .i64 (c.rs 4), .int .i64 (c.rs 5), .int .i64 (c.rs 6), .int .i64 (c.rs 7), .int .i64 c.dp] 26)) := (Below.refl _ w).alloc (Nat.le_refl _) _
  go_enter Tryd.func3, Tryd.ntmps3
  go_upto_region 1 with fail
  generalize w.alloc (.cells #[.int .i64 c.pg, .int .i64 c.pc, .int .i64 (c.rs 0), .int .i64 (c.rs 1), .int .i64 (c.rs 2), .int .i64 (c.rs 3), .int .i64 (c.rs 4), .int .i64 (c.rs 5), .int .i64 (c.rs 6), .int .i64 (c.rs 7), .int .i64 c.dp] 26) = W at *
  go_wp2_with (first | (go_at_call 8; (refine (HG W).mono ?_); rintro e W0 ⟨rfl, h0⟩; rw [h0]; clear h0 W0) | (go_at_call 9; (refine (HL W hB).mono ?_); rintro e U ⟨rfl, hb⟩))
  go_ret
  exact ⟨rfl, hB.trans (hb.mono hB.size)⟩

set_option maxRecDepth 100000 in
set_option maxHeartbeats 4000000 in
theorem steps_many {w : World} {xs : List Ins} {sa : Option Addr} {sc : Nat} {c : Cx} {most : Int} (hm : 200 < most)
    (HL : ∀ W : World, Below w.heap.size w W → Calls Tryd.prog 9 #[] W fun e w' => e = .returned (.bool true) ∧ Below W.heap.size W w')
    (HG : ∀ W : World, Calls Tryd.prog 8 #[.slice sa xs.length sc] W fun e w' => e = .returned (.bool true) ∧ w' = W)
    : Calls Tryd.prog 3 #[.slice sa xs.length sc, .agg #[.int .i64 c.pg, .int .i64 c.pc, .int .i64 (c.rs 0), .int .i64 (c.rs 1), .int .i64 (c.rs 2), .int .i64 (c.rs 3), .int .i64 (c.rs 4), .int .i64 (c.rs 5), .int .i64 (c.rs 6), .int .i64 (c.rs 7), .int .i64 c.dp], .int .i64 most] w fun e w' => e = .returned (.bool true) ∧ Below w.heap.size w w' := by
  have hB : Below w.heap.size w (w.alloc (.cells #[.int .i64 c.pg, .int .i64 c.pc, .int .i64 (c.rs 0), .int .i64 (c.rs 1), .int .i64 (c.rs 2), .int .i64 (c.rs 3), .int .i64 (c.rs 4), .int .i64 (c.rs 5), .int .i64 (c.rs 6), .int .i64 (c.rs 7), .int .i64 c.dp] 26)) := (Below.refl _ w).alloc (Nat.le_refl _) _
  go_enter Tryd.func3, Tryd.ntmps3
  go_upto_region 1 with fail
  generalize w.alloc (.cells #[.int .i64 c.pg, .int .i64 c.pc, .int .i64 (c.rs 0), .int .i64 (c.rs 1), .int .i64 (c.rs 2), .int .i64 (c.rs 3), .int .i64 (c.rs 4), .int .i64 (c.rs 5), .int .i64 (c.rs 6), .int .i64 (c.rs 7), .int .i64 c.dp] 26) = W at *
  go_wp2_with (first | (go_at_call 8; (refine (HG W).mono ?_); rintro e W0 ⟨rfl, h0⟩; rw [h0]; clear h0 W0) | (go_at_call 9; (refine (HL W hB).mono ?_); rintro e U ⟨rfl, hb⟩))
  go_ret
  exact ⟨rfl, hB.trans (hb.mono hB.size)⟩

set_option maxRecDepth 100000 in
set_option maxHeartbeats 4000000 in
theorem steps_go {w : World} {xs : List Ins} {sa : Option Addr} {sc : Nat} {c : Cx} {most : Int} {d f : Cx} {k0 k1 k2 k3 j0 j1 j2 j3 m : Int} (hm : most ≤ 200)
    (HL : ∀ W : World, Below w.heap.size w W → Calls Tryd.prog 9 #[] W fun e w' => e = .returned (.bool true) ∧ Below W.heap.size W w')
    (HG : ∀ W : World, Calls Tryd.prog 8 #[.slice sa xs.length sc] W fun e w' => e = .returned (.bool true) ∧ w' = W)
    (H1 : ∀ W : World, Below w.heap.size w W → Calls Tryd.prog 10 #[.slice sa xs.length sc, .agg #[.int .i64 c.pg, .int .i64 c.pc, .int .i64 (c.rs 0), .int .i64 (c.rs 1), .int .i64 (c.rs 2), .int .i64 (c.rs 3), .int .i64 (c.rs 4), .int .i64 (c.rs 5), .int .i64 (c.rs 6), .int .i64 (c.rs 7), .int .i64 c.dp]] W fun e w' => e = .returned (.tuple #[.agg #[.int .i64 d.pg, .int .i64 d.pc, .int .i64 (d.rs 0), .int .i64 (d.rs 1), .int .i64 (d.rs 2), .int .i64 (d.rs 3), .int .i64 (d.rs 4), .int .i64 (d.rs 5), .int .i64 (d.rs 6), .int .i64 (d.rs 7), .int .i64 d.dp], .agg #[.int .i64 k0, .int .i64 k1, .int .i64 k2, .int .i64 k3]]) ∧ Below W.heap.size W w')
    (H2 : ∀ W : World, Below w.heap.size w W → Calls Tryd.prog 11 #[.slice sa xs.length sc, .agg #[.int .i64 c.pg, .int .i64 c.pc, .int .i64 (c.rs 0), .int .i64 (c.rs 1), .int .i64 (c.rs 2), .int .i64 (c.rs 3), .int .i64 (c.rs 4), .int .i64 (c.rs 5), .int .i64 (c.rs 6), .int .i64 (c.rs 7), .int .i64 c.dp]] W fun e w' => e = .returned (.tuple #[.agg #[.int .i64 d.pg, .int .i64 d.pc, .int .i64 (d.rs 0), .int .i64 (d.rs 1), .int .i64 (d.rs 2), .int .i64 (d.rs 3), .int .i64 (d.rs 4), .int .i64 (d.rs 5), .int .i64 (d.rs 6), .int .i64 (d.rs 7), .int .i64 d.dp], .agg #[.int .i64 k0, .int .i64 k1, .int .i64 k2, .int .i64 k3]]) ∧ Below W.heap.size W w')
    (H3 : ∀ W : World, Below w.heap.size w W → Calls Tryd.prog 12 #[.slice sa xs.length sc, .agg #[.int .i64 c.pg, .int .i64 c.pc, .int .i64 (c.rs 0), .int .i64 (c.rs 1), .int .i64 (c.rs 2), .int .i64 (c.rs 3), .int .i64 (c.rs 4), .int .i64 (c.rs 5), .int .i64 (c.rs 6), .int .i64 (c.rs 7), .int .i64 c.dp], .int .i64 most] W fun e w' => e = .returned (.tuple #[.agg #[.int .i64 f.pg, .int .i64 f.pc, .int .i64 (f.rs 0), .int .i64 (f.rs 1), .int .i64 (f.rs 2), .int .i64 (f.rs 3), .int .i64 (f.rs 4), .int .i64 (f.rs 5), .int .i64 (f.rs 6), .int .i64 (f.rs 7), .int .i64 f.dp], .agg #[.int .i64 j0, .int .i64 j1, .int .i64 j2, .int .i64 j3], .int .i64 m]) ∧ Below W.heap.size W w')
    (H4 : ∀ W : World, Below w.heap.size w W → Calls Tryd.prog 13 #[.slice sa xs.length sc, .agg #[.int .i64 c.pg, .int .i64 c.pc, .int .i64 (c.rs 0), .int .i64 (c.rs 1), .int .i64 (c.rs 2), .int .i64 (c.rs 3), .int .i64 (c.rs 4), .int .i64 (c.rs 5), .int .i64 (c.rs 6), .int .i64 (c.rs 7), .int .i64 c.dp], .int .i64 most] W fun e w' => e = .returned (.tuple #[.agg #[.int .i64 f.pg, .int .i64 f.pc, .int .i64 (f.rs 0), .int .i64 (f.rs 1), .int .i64 (f.rs 2), .int .i64 (f.rs 3), .int .i64 (f.rs 4), .int .i64 (f.rs 5), .int .i64 (f.rs 6), .int .i64 (f.rs 7), .int .i64 f.dp], .agg #[.int .i64 j0, .int .i64 j1, .int .i64 j2, .int .i64 j3], .int .i64 m]) ∧ Below W.heap.size W w')
    : Calls Tryd.prog 3 #[.slice sa xs.length sc, .agg #[.int .i64 c.pg, .int .i64 c.pc, .int .i64 (c.rs 0), .int .i64 (c.rs 1), .int .i64 (c.rs 2), .int .i64 (c.rs 3), .int .i64 (c.rs 4), .int .i64 (c.rs 5), .int .i64 (c.rs 6), .int .i64 (c.rs 7), .int .i64 c.dp], .int .i64 most] w fun e w' => e = .returned (.bool true) ∧ Below w.heap.size w w' := by
  have hB : Below w.heap.size w (w.alloc (.cells #[.int .i64 c.pg, .int .i64 c.pc, .int .i64 (c.rs 0), .int .i64 (c.rs 1), .int .i64 (c.rs 2), .int .i64 (c.rs 3), .int .i64 (c.rs 4), .int .i64 (c.rs 5), .int .i64 (c.rs 6), .int .i64 (c.rs 7), .int .i64 c.dp] 26)) := (Below.refl _ w).alloc (Nat.le_refl _) _
  have h0 : Cel (w.alloc (.cells #[.int .i64 c.pg, .int .i64 c.pc, .int .i64 (c.rs 0), .int .i64 (c.rs 1), .int .i64 (c.rs 2), .int .i64 (c.rs 3), .int .i64 (c.rs 4), .int .i64 (c.rs 5), .int .i64 (c.rs 6), .int .i64 (c.rs 7), .int .i64 c.dp] 26)) w.heap.size #[.int .i64 c.pg, .int .i64 c.pc, .int .i64 (c.rs 0), .int .i64 (c.rs 1), .int .i64 (c.rs 2), .int .i64 (c.rs 3), .int .i64 (c.rs 4), .int .i64 (c.rs 5), .int .i64 (c.rs 6), .int .i64 (c.rs 7), .int .i64 c.dp] 26 := Cel.new w _ 26
  have E1 := fun W => eqCx d W
  have E2 := fun W => eqCx f W
  unfold cxA at E1 E2
  have E3 := fun W => eqRK (k0, k1, k2, k3) W
  have E4 := fun W => eqRK (j0, j1, j2, j3) W
  unfold insC at E3 E4
  go_enter Tryd.func3, Tryd.ntmps3
  go_upto_region 1 with fail
  generalize w.alloc (.cells #[.int .i64 c.pg, .int .i64 c.pc, .int .i64 (c.rs 0), .int .i64 (c.rs 1), .int .i64 (c.rs 2), .int .i64 (c.rs 3), .int .i64 (c.rs 4), .int .i64 (c.rs 5), .int .i64 (c.rs 6), .int .i64 (c.rs 7), .int .i64 c.dp] 26) = V0 at *
  go_upto_region 3 with (go_at_call 8; (refine (HG V0).mono ?_); rintro e W0 ⟨rfl, h0⟩; rw [h0]; clear h0 W0)
  clear HG
  have x0 : V0.cell? ⟨w.heap.size, 0, none⟩ = some (.int .i64 c.pg) := h0.cell rfl
  have x1 : V0.cell? ⟨w.heap.size, 1, none⟩ = some (.int .i64 c.pc) := h0.cell rfl
  have x2 : V0.cell? ⟨w.heap.size, 2, none⟩ = some (.int .i64 (c.rs 0)) := h0.cell rfl
  have x3 : V0.cell? ⟨w.heap.size, 3, none⟩ = some (.int .i64 (c.rs 1)) := h0.cell rfl
  have x4 : V0.cell? ⟨w.heap.size, 4, none⟩ = some (.int .i64 (c.rs 2)) := h0.cell rfl
  have x5 : V0.cell? ⟨w.heap.size, 5, none⟩ = some (.int .i64 (c.rs 3)) := h0.cell rfl
  have x6 : V0.cell? ⟨w.heap.size, 6, none⟩ = some (.int .i64 (c.rs 4)) := h0.cell rfl
  have x7 : V0.cell? ⟨w.heap.size, 7, none⟩ = some (.int .i64 (c.rs 5)) := h0.cell rfl
  have x8 : V0.cell? ⟨w.heap.size, 8, none⟩ = some (.int .i64 (c.rs 6)) := h0.cell rfl
  have x9 : V0.cell? ⟨w.heap.size, 9, none⟩ = some (.int .i64 (c.rs 7)) := h0.cell rfl
  have x10 : V0.cell? ⟨w.heap.size, 10, none⟩ = some (.int .i64 c.dp) := h0.cell rfl
  go_upto_region 4 with (go_at_call 10; (refine (H1 V0 hB).mono ?_); rintro e U1 ⟨rfl, hb1⟩)
  have eV : ∀ V : World, V = (U1.alloc (.cells #[.int .i64 d.pg, .int .i64 d.pc, .int .i64 (d.rs 0), .int .i64 (d.rs 1), .int .i64 (d.rs 2), .int .i64 (d.rs 3), .int .i64 (d.rs 4), .int .i64 (d.rs 5), .int .i64 (d.rs 6), .int .i64 (d.rs 7), .int .i64 d.dp] 26)).alloc (.cells #[.int .i64 k0, .int .i64 k1, .int .i64 k2, .int .i64 k3] 30) → Cel V U1.heap.size #[.int .i64 d.pg, .int .i64 d.pc, .int .i64 (d.rs 0), .int .i64 (d.rs 1), .int .i64 (d.rs 2), .int .i64 (d.rs 3), .int .i64 (d.rs 4), .int .i64 (d.rs 5), .int .i64 (d.rs 6), .int .i64 (d.rs 7), .int .i64 d.dp] 26 ∧ Cel V (U1.heap.size + 1) #[.int .i64 k0, .int .i64 k1, .int .i64 k2, .int .i64 k3] 30 ∧ Below V0.heap.size V0 V := by
    rintro V rfl
    refine ⟨(Cel.new U1 _ 26).put (Below.heap_alloc _ _ _ (by simp)), ?_, (hb1.alloc hb1.size _).alloc (by have := hb1.size; simp; omega) _⟩
    have h := Cel.new (U1.alloc (.cells #[.int .i64 d.pg, .int .i64 d.pc, .int .i64 (d.rs 0), .int .i64 (d.rs 1), .int .i64 (d.rs 2), .int .i64 (d.rs 3), .int .i64 (d.rs 4), .int .i64 (d.rs 5), .int .i64 (d.rs 6), .int .i64 (d.rs 7), .int .i64 d.dp] 26)) #[.int .i64 k0, .int .i64 k1, .int .i64 k2, .int .i64 k3] 30
    rw [World.size_alloc] at h
    exact h
  obtain ⟨e1, k1c, hV1⟩ := eV _ rfl
  clear eV hb1
  replace h0 := h0.below hV1
  replace hB := hB.trans (hV1.mono hB.size)
  clear hV1
  generalize (U1.alloc (.cells #[.int .i64 d.pg, .int .i64 d.pc, .int .i64 (d.rs 0), .int .i64 (d.rs 1), .int .i64 (d.rs 2), .int .i64 (d.rs 3), .int .i64 (d.rs 4), .int .i64 (d.rs 5), .int .i64 (d.rs 6), .int .i64 (d.rs 7), .int .i64 d.dp] 26)).alloc (.cells #[.int .i64 k0, .int .i64 k1, .int .i64 k2, .int .i64 k3] 30) = V1 at *
  generalize U1.heap.size = D1 at *
  clear x0 x1 x2 x3 x4 x5 x6 x7 x8 x9 x10
  have x0 : V1.cell? ⟨w.heap.size, 0, none⟩ = some (.int .i64 c.pg) := h0.cell rfl
  have x1 : V1.cell? ⟨w.heap.size, 1, none⟩ = some (.int .i64 c.pc) := h0.cell rfl
  have x2 : V1.cell? ⟨w.heap.size, 2, none⟩ = some (.int .i64 (c.rs 0)) := h0.cell rfl
  have x3 : V1.cell? ⟨w.heap.size, 3, none⟩ = some (.int .i64 (c.rs 1)) := h0.cell rfl
  have x4 : V1.cell? ⟨w.heap.size, 4, none⟩ = some (.int .i64 (c.rs 2)) := h0.cell rfl
  have x5 : V1.cell? ⟨w.heap.size, 5, none⟩ = some (.int .i64 (c.rs 3)) := h0.cell rfl
  have x6 : V1.cell? ⟨w.heap.size, 6, none⟩ = some (.int .i64 (c.rs 4)) := h0.cell rfl
  have x7 : V1.cell? ⟨w.heap.size, 7, none⟩ = some (.int .i64 (c.rs 5)) := h0.cell rfl
  have x8 : V1.cell? ⟨w.heap.size, 8, none⟩ = some (.int .i64 (c.rs 6)) := h0.cell rfl
  have x9 : V1.cell? ⟨w.heap.size, 9, none⟩ = some (.int .i64 (c.rs 7)) := h0.cell rfl
  have x10 : V1.cell? ⟨w.heap.size, 10, none⟩ = some (.int .i64 c.dp) := h0.cell rfl
  go_upto_region 5 with (go_at_call 11; (refine (H2 V1 hB).mono ?_); rintro e U2 ⟨rfl, hb2⟩)
  have eV : ∀ V : World, V = (U2.alloc (.cells #[.int .i64 d.pg, .int .i64 d.pc, .int .i64 (d.rs 0), .int .i64 (d.rs 1), .int .i64 (d.rs 2), .int .i64 (d.rs 3), .int .i64 (d.rs 4), .int .i64 (d.rs 5), .int .i64 (d.rs 6), .int .i64 (d.rs 7), .int .i64 d.dp] 26)).alloc (.cells #[.int .i64 k0, .int .i64 k1, .int .i64 k2, .int .i64 k3] 33) → Cel V U2.heap.size #[.int .i64 d.pg, .int .i64 d.pc, .int .i64 (d.rs 0), .int .i64 (d.rs 1), .int .i64 (d.rs 2), .int .i64 (d.rs 3), .int .i64 (d.rs 4), .int .i64 (d.rs 5), .int .i64 (d.rs 6), .int .i64 (d.rs 7), .int .i64 d.dp] 26 ∧ Cel V (U2.heap.size + 1) #[.int .i64 k0, .int .i64 k1, .int .i64 k2, .int .i64 k3] 33 ∧ Below V1.heap.size V1 V := by
    rintro V rfl
    refine ⟨(Cel.new U2 _ 26).put (Below.heap_alloc _ _ _ (by simp)), ?_, (hb2.alloc hb2.size _).alloc (by have := hb2.size; simp; omega) _⟩
    have h := Cel.new (U2.alloc (.cells #[.int .i64 d.pg, .int .i64 d.pc, .int .i64 (d.rs 0), .int .i64 (d.rs 1), .int .i64 (d.rs 2), .int .i64 (d.rs 3), .int .i64 (d.rs 4), .int .i64 (d.rs 5), .int .i64 (d.rs 6), .int .i64 (d.rs 7), .int .i64 d.dp] 26)) #[.int .i64 k0, .int .i64 k1, .int .i64 k2, .int .i64 k3] 33
    rw [World.size_alloc] at h
    exact h
  obtain ⟨e2, k2c, hV2⟩ := eV _ rfl
  clear eV hb2
  replace h0 := h0.below hV2
  replace e1 := e1.below hV2
  replace k1c := k1c.below hV2
  replace hB := hB.trans (hV2.mono hB.size)
  clear hV2
  generalize (U2.alloc (.cells #[.int .i64 d.pg, .int .i64 d.pc, .int .i64 (d.rs 0), .int .i64 (d.rs 1), .int .i64 (d.rs 2), .int .i64 (d.rs 3), .int .i64 (d.rs 4), .int .i64 (d.rs 5), .int .i64 (d.rs 6), .int .i64 (d.rs 7), .int .i64 d.dp] 26)).alloc (.cells #[.int .i64 k0, .int .i64 k1, .int .i64 k2, .int .i64 k3] 33) = V2 at *
  generalize U2.heap.size = D2 at *
  clear x0 x1 x2 x3 x4 x5 x6 x7 x8 x9 x10
  have x0 : V2.cell? ⟨w.heap.size, 0, none⟩ = some (.int .i64 c.pg) := h0.cell rfl
  have x1 : V2.cell? ⟨w.heap.size, 1, none⟩ = some (.int .i64 c.pc) := h0.cell rfl
  have x2 : V2.cell? ⟨w.heap.size, 2, none⟩ = some (.int .i64 (c.rs 0)) := h0.cell rfl
  have x3 : V2.cell? ⟨w.heap.size, 3, none⟩ = some (.int .i64 (c.rs 1)) := h0.cell rfl
  have x4 : V2.cell? ⟨w.heap.size, 4, none⟩ = some (.int .i64 (c.rs 2)) := h0.cell rfl
  have x5 : V2.cell? ⟨w.heap.size, 5, none⟩ = some (.int .i64 (c.rs 3)) := h0.cell rfl
  have x6 : V2.cell? ⟨w.heap.size, 6, none⟩ = some (.int .i64 (c.rs 4)) := h0.cell rfl
  have x7 : V2.cell? ⟨w.heap.size, 7, none⟩ = some (.int .i64 (c.rs 5)) := h0.cell rfl
  have x8 : V2.cell? ⟨w.heap.size, 8, none⟩ = some (.int .i64 (c.rs 6)) := h0.cell rfl
  have x9 : V2.cell? ⟨w.heap.size, 9, none⟩ = some (.int .i64 (c.rs 7)) := h0.cell rfl
  have x10 : V2.cell? ⟨w.heap.size, 10, none⟩ = some (.int .i64 c.dp) := h0.cell rfl
  go_upto_region 6 with (go_at_call 12; (refine (H3 V2 hB).mono ?_); rintro e U3 ⟨rfl, hb3⟩)
  have eV : ∀ V : World, V = (U3.alloc (.cells #[.int .i64 f.pg, .int .i64 f.pc, .int .i64 (f.rs 0), .int .i64 (f.rs 1), .int .i64 (f.rs 2), .int .i64 (f.rs 3), .int .i64 (f.rs 4), .int .i64 (f.rs 5), .int .i64 (f.rs 6), .int .i64 (f.rs 7), .int .i64 f.dp] 26)).alloc (.cells #[.int .i64 j0, .int .i64 j1, .int .i64 j2, .int .i64 j3] 30) → Cel V U3.heap.size #[.int .i64 f.pg, .int .i64 f.pc, .int .i64 (f.rs 0), .int .i64 (f.rs 1), .int .i64 (f.rs 2), .int .i64 (f.rs 3), .int .i64 (f.rs 4), .int .i64 (f.rs 5), .int .i64 (f.rs 6), .int .i64 (f.rs 7), .int .i64 f.dp] 26 ∧ Cel V (U3.heap.size + 1) #[.int .i64 j0, .int .i64 j1, .int .i64 j2, .int .i64 j3] 30 ∧ Below V2.heap.size V2 V := by
    rintro V rfl
    refine ⟨(Cel.new U3 _ 26).put (Below.heap_alloc _ _ _ (by simp)), ?_, (hb3.alloc hb3.size _).alloc (by have := hb3.size; simp; omega) _⟩
    have h := Cel.new (U3.alloc (.cells #[.int .i64 f.pg, .int .i64 f.pc, .int .i64 (f.rs 0), .int .i64 (f.rs 1), .int .i64 (f.rs 2), .int .i64 (f.rs 3), .int .i64 (f.rs 4), .int .i64 (f.rs 5), .int .i64 (f.rs 6), .int .i64 (f.rs 7), .int .i64 f.dp] 26)) #[.int .i64 j0, .int .i64 j1, .int .i64 j2, .int .i64 j3] 30
    rw [World.size_alloc] at h
    exact h
  obtain ⟨e3, k3c, hV3⟩ := eV _ rfl
  clear eV hb3
  replace h0 := h0.below hV3
  replace e1 := e1.below hV3
  replace k1c := k1c.below hV3
  replace e2 := e2.below hV3
  replace k2c := k2c.below hV3
  replace hB := hB.trans (hV3.mono hB.size)
  clear hV3
  generalize (U3.alloc (.cells #[.int .i64 f.pg, .int .i64 f.pc, .int .i64 (f.rs 0), .int .i64 (f.rs 1), .int .i64 (f.rs 2), .int .i64 (f.rs 3), .int .i64 (f.rs 4), .int .i64 (f.rs 5), .int .i64 (f.rs 6), .int .i64 (f.rs 7), .int .i64 f.dp] 26)).alloc (.cells #[.int .i64 j0, .int .i64 j1, .int .i64 j2, .int .i64 j3] 30) = V3 at *
  generalize U3.heap.size = D3 at *
  clear x0 x1 x2 x3 x4 x5 x6 x7 x8 x9 x10
  have x0 : V3.cell? ⟨w.heap.size, 0, none⟩ = some (.int .i64 c.pg) := h0.cell rfl
  have x1 : V3.cell? ⟨w.heap.size, 1, none⟩ = some (.int .i64 c.pc) := h0.cell rfl
  have x2 : V3.cell? ⟨w.heap.size, 2, none⟩ = some (.int .i64 (c.rs 0)) := h0.cell rfl
  have x3 : V3.cell? ⟨w.heap.size, 3, none⟩ = some (.int .i64 (c.rs 1)) := h0.cell rfl
  have x4 : V3.cell? ⟨w.heap.size, 4, none⟩ = some (.int .i64 (c.rs 2)) := h0.cell rfl
  have x5 : V3.cell? ⟨w.heap.size, 5, none⟩ = some (.int .i64 (c.rs 3)) := h0.cell rfl
  have x6 : V3.cell? ⟨w.heap.size, 6, none⟩ = some (.int .i64 (c.rs 4)) := h0.cell rfl
  have x7 : V3.cell? ⟨w.heap.size, 7, none⟩ = some (.int .i64 (c.rs 5)) := h0.cell rfl
  have x8 : V3.cell? ⟨w.heap.size, 8, none⟩ = some (.int .i64 (c.rs 6)) := h0.cell rfl
  have x9 : V3.cell? ⟨w.heap.size, 9, none⟩ = some (.int .i64 (c.rs 7)) := h0.cell rfl
  have x10 : V3.cell? ⟨w.heap.size, 10, none⟩ = some (.int .i64 c.dp) := h0.cell rfl
  go_upto_region 7 with (go_at_call 13; (refine (H4 V3 hB).mono ?_); rintro e U4 ⟨rfl, hb4⟩)
  have eV : ∀ V : World, V = (U4.alloc (.cells #[.int .i64 f.pg, .int .i64 f.pc, .int .i64 (f.rs 0), .int .i64 (f.rs 1), .int .i64 (f.rs 2), .int .i64 (f.rs 3), .int .i64 (f.rs 4), .int .i64 (f.rs 5), .int .i64 (f.rs 6), .int .i64 (f.rs 7), .int .i64 f.dp] 26)).alloc (.cells #[.int .i64 j0, .int .i64 j1, .int .i64 j2, .int .i64 j3] 33) → Cel V U4.heap.size #[.int .i64 f.pg, .int .i64 f.pc, .int .i64 (f.rs 0), .int .i64 (f.rs 1), .int .i64 (f.rs 2), .int .i64 (f.rs 3), .int .i64 (f.rs 4), .int .i64 (f.rs 5), .int .i64 (f.rs 6), .int .i64 (f.rs 7), .int .i64 f.dp] 26 ∧ Cel V (U4.heap.size + 1) #[.int .i64 j0, .int .i64 j1, .int .i64 j2, .int .i64 j3] 33 ∧ Below V3.heap.size V3 V := by
    rintro V rfl
    refine ⟨(Cel.new U4 _ 26).put (Below.heap_alloc _ _ _ (by simp)), ?_, (hb4.alloc hb4.size _).alloc (by have := hb4.size; simp; omega) _⟩
    have h := Cel.new (U4.alloc (.cells #[.int .i64 f.pg, .int .i64 f.pc, .int .i64 (f.rs 0), .int .i64 (f.rs 1), .int .i64 (f.rs 2), .int .i64 (f.rs 3), .int .i64 (f.rs 4), .int .i64 (f.rs 5), .int .i64 (f.rs 6), .int .i64 (f.rs 7), .int .i64 f.dp] 26)) #[.int .i64 j0, .int .i64 j1, .int .i64 j2, .int .i64 j3] 33
    rw [World.size_alloc] at h
    exact h
  obtain ⟨e4, k4c, hV4⟩ := eV _ rfl
  clear eV hb4
  replace e1 := e1.below hV4
  replace k1c := k1c.below hV4
  replace e2 := e2.below hV4
  replace k2c := k2c.below hV4
  replace e3 := e3.below hV4
  replace k3c := k3c.below hV4
  replace hB := hB.trans (hV4.mono hB.size)
  clear hV4
  generalize (U4.alloc (.cells #[.int .i64 f.pg, .int .i64 f.pc, .int .i64 (f.rs 0), .int .i64 (f.rs 1), .int .i64 (f.rs 2), .int .i64 (f.rs 3), .int .i64 (f.rs 4), .int .i64 (f.rs 5), .int .i64 (f.rs 6), .int .i64 (f.rs 7), .int .i64 f.dp] 26)).alloc (.cells #[.int .i64 j0, .int .i64 j1, .int .i64 j2, .int .i64 j3] 33) = V4 at *
  generalize U4.heap.size = D4 at *
  clear x0 x1 x2 x3 x4 x5 x6 x7 x8 x9 x10
  have ax0 : V4.cell? ⟨D1, 0, none⟩ = some (.int .i64 d.pg) := e1.cell rfl
  have ax1 : V4.cell? ⟨D1, 1, none⟩ = some (.int .i64 d.pc) := e1.cell rfl
  have ax2 : V4.cell? ⟨D1, 2, none⟩ = some (.int .i64 (d.rs 0)) := e1.cell rfl
  have ax3 : V4.cell? ⟨D1, 3, none⟩ = some (.int .i64 (d.rs 1)) := e1.cell rfl
  have ax4 : V4.cell? ⟨D1, 4, none⟩ = some (.int .i64 (d.rs 2)) := e1.cell rfl
  have ax5 : V4.cell? ⟨D1, 5, none⟩ = some (.int .i64 (d.rs 3)) := e1.cell rfl
  have ax6 : V4.cell? ⟨D1, 6, none⟩ = some (.int .i64 (d.rs 4)) := e1.cell rfl
  have ax7 : V4.cell? ⟨D1, 7, none⟩ = some (.int .i64 (d.rs 5)) := e1.cell rfl
  have ax8 : V4.cell? ⟨D1, 8, none⟩ = some (.int .i64 (d.rs 6)) := e1.cell rfl
  have ax9 : V4.cell? ⟨D1, 9, none⟩ = some (.int .i64 (d.rs 7)) := e1.cell rfl
  have ax10 : V4.cell? ⟨D1, 10, none⟩ = some (.int .i64 d.dp) := e1.cell rfl
  have ak0 : V4.cell? ⟨D1 + 1, 0, none⟩ = some (.int .i64 k0) := k1c.cell rfl
  have ak1 : V4.cell? ⟨D1 + 1, 1, none⟩ = some (.int .i64 k1) := k1c.cell rfl
  have ak2 : V4.cell? ⟨D1 + 1, 2, none⟩ = some (.int .i64 k2) := k1c.cell rfl
  have ak3 : V4.cell? ⟨D1 + 1, 3, none⟩ = some (.int .i64 k3) := k1c.cell rfl
  have bx0 : V4.cell? ⟨D2, 0, none⟩ = some (.int .i64 d.pg) := e2.cell rfl
  have bx1 : V4.cell? ⟨D2, 1, none⟩ = some (.int .i64 d.pc) := e2.cell rfl
  have bx2 : V4.cell? ⟨D2, 2, none⟩ = some (.int .i64 (d.rs 0)) := e2.cell rfl
  have bx3 : V4.cell? ⟨D2, 3, none⟩ = some (.int .i64 (d.rs 1)) := e2.cell rfl
  have bx4 : V4.cell? ⟨D2, 4, none⟩ = some (.int .i64 (d.rs 2)) := e2.cell rfl
  have bx5 : V4.cell? ⟨D2, 5, none⟩ = some (.int .i64 (d.rs 3)) := e2.cell rfl
  have bx6 : V4.cell? ⟨D2, 6, none⟩ = some (.int .i64 (d.rs 4)) := e2.cell rfl
  have bx7 : V4.cell? ⟨D2, 7, none⟩ = some (.int .i64 (d.rs 5)) := e2.cell rfl
  have bx8 : V4.cell? ⟨D2, 8, none⟩ = some (.int .i64 (d.rs 6)) := e2.cell rfl
  have bx9 : V4.cell? ⟨D2, 9, none⟩ = some (.int .i64 (d.rs 7)) := e2.cell rfl
  have bx10 : V4.cell? ⟨D2, 10, none⟩ = some (.int .i64 d.dp) := e2.cell rfl
  have bk0 : V4.cell? ⟨D2 + 1, 0, none⟩ = some (.int .i64 k0) := k2c.cell rfl
  have bk1 : V4.cell? ⟨D2 + 1, 1, none⟩ = some (.int .i64 k1) := k2c.cell rfl
  have bk2 : V4.cell? ⟨D2 + 1, 2, none⟩ = some (.int .i64 k2) := k2c.cell rfl
  have bk3 : V4.cell? ⟨D2 + 1, 3, none⟩ = some (.int .i64 k3) := k2c.cell rfl
  have cx0 : V4.cell? ⟨D3, 0, none⟩ = some (.int .i64 f.pg) := e3.cell rfl
  have cx1 : V4.cell? ⟨D3, 1, none⟩ = some (.int .i64 f.pc) := e3.cell rfl
  have cx2 : V4.cell? ⟨D3, 2, none⟩ = some (.int .i64 (f.rs 0)) := e3.cell rfl
  have cx3 : V4.cell? ⟨D3, 3, none⟩ = some (.int .i64 (f.rs 1)) := e3.cell rfl
  have cx4 : V4.cell? ⟨D3, 4, none⟩ = some (.int .i64 (f.rs 2)) := e3.cell rfl
  have cx5 : V4.cell? ⟨D3, 5, none⟩ = some (.int .i64 (f.rs 3)) := e3.cell rfl
  have cx6 : V4.cell? ⟨D3, 6, none⟩ = some (.int .i64 (f.rs 4)) := e3.cell rfl
  have cx7 : V4.cell? ⟨D3, 7, none⟩ = some (.int .i64 (f.rs 5)) := e3.cell rfl
  have cx8 : V4.cell? ⟨D3, 8, none⟩ = some (.int .i64 (f.rs 6)) := e3.cell rfl
  have cx9 : V4.cell? ⟨D3, 9, none⟩ = some (.int .i64 (f.rs 7)) := e3.cell rfl
  have cx10 : V4.cell? ⟨D3, 10, none⟩ = some (.int .i64 f.dp) := e3.cell rfl
  have ck0 : V4.cell? ⟨D3 + 1, 0, none⟩ = some (.int .i64 j0) := k3c.cell rfl
  have ck1 : V4.cell? ⟨D3 + 1, 1, none⟩ = some (.int .i64 j1) := k3c.cell rfl
  have ck2 : V4.cell? ⟨D3 + 1, 2, none⟩ = some (.int .i64 j2) := k3c.cell rfl
  have ck3 : V4.cell? ⟨D3 + 1, 3, none⟩ = some (.int .i64 j3) := k3c.cell rfl
  have dx0 : V4.cell? ⟨D4, 0, none⟩ = some (.int .i64 f.pg) := e4.cell rfl
  have dx1 : V4.cell? ⟨D4, 1, none⟩ = some (.int .i64 f.pc) := e4.cell rfl
  have dx2 : V4.cell? ⟨D4, 2, none⟩ = some (.int .i64 (f.rs 0)) := e4.cell rfl
  have dx3 : V4.cell? ⟨D4, 3, none⟩ = some (.int .i64 (f.rs 1)) := e4.cell rfl
  have dx4 : V4.cell? ⟨D4, 4, none⟩ = some (.int .i64 (f.rs 2)) := e4.cell rfl
  have dx5 : V4.cell? ⟨D4, 5, none⟩ = some (.int .i64 (f.rs 3)) := e4.cell rfl
  have dx6 : V4.cell? ⟨D4, 6, none⟩ = some (.int .i64 (f.rs 4)) := e4.cell rfl
  have dx7 : V4.cell? ⟨D4, 7, none⟩ = some (.int .i64 (f.rs 5)) := e4.cell rfl
  have dx8 : V4.cell? ⟨D4, 8, none⟩ = some (.int .i64 (f.rs 6)) := e4.cell rfl
  have dx9 : V4.cell? ⟨D4, 9, none⟩ = some (.int .i64 (f.rs 7)) := e4.cell rfl
  have dx10 : V4.cell? ⟨D4, 10, none⟩ = some (.int .i64 f.dp) := e4.cell rfl
  have dk0 : V4.cell? ⟨D4 + 1, 0, none⟩ = some (.int .i64 j0) := k4c.cell rfl
  have dk1 : V4.cell? ⟨D4 + 1, 1, none⟩ = some (.int .i64 j1) := k4c.cell rfl
  have dk2 : V4.cell? ⟨D4 + 1, 2, none⟩ = some (.int .i64 j2) := k4c.cell rfl
  have dk3 : V4.cell? ⟨D4 + 1, 3, none⟩ = some (.int .i64 j3) := k4c.cell rfl
  go_wp2_with (go_at_call 9; (refine (HL V4 hB).mono ?_); rintro e U ⟨rfl, hb⟩)
  go_ret
  exact ⟨rfl, hB.trans (hb.mono hB.size)⟩

theorem steps_tail (xs : List Ins) (c : Cx) (most : Int) (sa : Option Addr) (sc : Nat) (w : World) (hp : PV w sa xs) (hg : Rg c) (hmost : most ≤ 9223372036854775807) (hT : Tab w) :
    Calls Tryd.prog 3 #[.slice sa xs.length sc, .agg (cxA c), .int .i64 most] w fun e w' => e = .returned (.bool true) ∧ Below w.heap.size w w' := by
  have HL : ∀ W : World, Below w.heap.size w W → Calls Tryd.prog 9 #[] W fun e w' => e = .returned (.bool true) ∧ Below W.heap.size W w' := fun W hb => lives_any (hT.on hb)
  by_cases hl : xs.length ≤ 80
  · have HG : ∀ W : World, Calls Tryd.prog 8 #[.slice sa xs.length sc] W fun e w' => e = .returned (.bool true) ∧ w' = W := fun W => by
      have h := light_any (ps := xs) (a := sa) sc W
      rwa [decide_eq_true hl] at h
    by_cases hm : 200 < most
    · exact steps_many hm HL HG
    · have H1 := fun (W : World) (hb : Below w.heap.size w W) => Step_any sc c (hp.below hb) (hT.on hb)
      have H2 := fun (W : World) (hb : Below w.heap.size w W) => rstep_any sc (hp.below hb) hg
      have H3 := fun (W : World) (hb : Below w.heap.size w W) => run_any sc c most hmost (hp.below hb) (hT.on hb)
      have H4 := fun (W : World) (hb : Below w.heap.size w W) => rrun_any sc most hmost (hp.below hb) hg
      generalize stepC (codeL xs) c = q at *
      generalize runC (codeL xs) most.toNat c = r at *
      obtain ⟨d, k0, k1, k2, k3⟩ := q
      obtain ⟨f, ⟨j0, j1, j2, j3⟩, m⟩ := r
      exact steps_go (by omega) HL HG H1 H2 H3 H4
  · have HG : ∀ W : World, Calls Tryd.prog 8 #[.slice sa xs.length sc] W fun e w' => e = .returned (.bool false) ∧ w' = W := fun W => by
      have h := light_any (ps := xs) (a := sa) sc W
      rwa [decide_eq_false hl] at h
    exact steps_heavy HL HG

end Go.Proofs.YtllnpkijojpccaaDoor
