/- CpuParts returns true: its walk. -/
import Derived.Test.YtllnpkijojpccaaDoorPartsM
namespace Go.Proofs.YtllnpkijojpccaaDoor
open Go Go.RowKit Go.Shelf

set_option maxRecDepth 100000 in
set_option maxHeartbeats 4000000 in
theorem parts_call {w : World} {xs : List Ins} {sa : Option Addr} {sc : Nat} {c : Cx} {x y : Int} {d : Cx} {k0 k1 k2 k3 m : Int} (hk : k0 ≠ 0) (hx : 0 ≤ x) (hx1 : x < 256) (hy : 0 ≤ y) (hy1 : y < 256)
    (HL : ∀ W : World, Below w.heap.size w W → Calls Tryd.prog 9 #[] W fun e w' => e = .returned (.bool true) ∧ Below W.heap.size W w')
    (HG : ∀ W : World, Calls Tryd.prog 8 #[.slice sa xs.length sc] W fun e w' => e = .returned (.bool true) ∧ w' = W)
    (HR1 : ∀ W : World, Below w.heap.size w W → Calls Tryd.prog 12 #[.slice sa xs.length sc, .agg #[.int .i64 c.pg, .int .i64 c.pc, .int .i64 (c.rs 0), .int .i64 (c.rs 1), .int .i64 (c.rs 2), .int .i64 (c.rs 3), .int .i64 (c.rs 4), .int .i64 (c.rs 5), .int .i64 (c.rs 6), .int .i64 (c.rs 7), .int .i64 c.dp], .int .i64 x] W fun e w' => e = .returned (.tuple #[.agg #[.int .i64 d.pg, .int .i64 d.pc, .int .i64 (d.rs 0), .int .i64 (d.rs 1), .int .i64 (d.rs 2), .int .i64 (d.rs 3), .int .i64 (d.rs 4), .int .i64 (d.rs 5), .int .i64 (d.rs 6), .int .i64 (d.rs 7), .int .i64 d.dp], .agg #[.int .i64 k0, .int .i64 k1, .int .i64 k2, .int .i64 k3], .int .i64 m]) ∧ Below W.heap.size W w')
    (HR2 : ∀ W : World, Below w.heap.size w W → Calls Tryd.prog 12 #[.slice sa xs.length sc, .agg #[.int .i64 c.pg, .int .i64 c.pc, .int .i64 (c.rs 0), .int .i64 (c.rs 1), .int .i64 (c.rs 2), .int .i64 (c.rs 3), .int .i64 (c.rs 4), .int .i64 (c.rs 5), .int .i64 (c.rs 6), .int .i64 (c.rs 7), .int .i64 c.dp], .int .i64 (x + y)] W fun e w' => e = .returned (.tuple #[.agg #[.int .i64 d.pg, .int .i64 d.pc, .int .i64 (d.rs 0), .int .i64 (d.rs 1), .int .i64 (d.rs 2), .int .i64 (d.rs 3), .int .i64 (d.rs 4), .int .i64 (d.rs 5), .int .i64 (d.rs 6), .int .i64 (d.rs 7), .int .i64 d.dp], .agg #[.int .i64 k0, .int .i64 k1, .int .i64 k2, .int .i64 k3], .int .i64 m]) ∧ Below W.heap.size W w')
    : Calls Tryd.prog 5 #[.slice sa xs.length sc, .agg #[.int .i64 c.pg, .int .i64 c.pc, .int .i64 (c.rs 0), .int .i64 (c.rs 1), .int .i64 (c.rs 2), .int .i64 (c.rs 3), .int .i64 (c.rs 4), .int .i64 (c.rs 5), .int .i64 (c.rs 6), .int .i64 (c.rs 7), .int .i64 c.dp], .agg #[.int .u8 x, .int .u8 y]] w fun e w' => e = .returned (.bool true) ∧ Below w.heap.size w w' := by
  have hmx := mixed
  have eW : ∀ W : World, W = (w.alloc (.cells #[.int .i64 c.pg, .int .i64 c.pc, .int .i64 (c.rs 0), .int .i64 (c.rs 1), .int .i64 (c.rs 2), .int .i64 (c.rs 3), .int .i64 (c.rs 4), .int .i64 (c.rs 5), .int .i64 (c.rs 6), .int .i64 (c.rs 7), .int .i64 c.dp] 26)).alloc (.cells #[.int .u8 x, .int .u8 y] 48) → Cel W w.heap.size #[.int .i64 c.pg, .int .i64 c.pc, .int .i64 (c.rs 0), .int .i64 (c.rs 1), .int .i64 (c.rs 2), .int .i64 (c.rs 3), .int .i64 (c.rs 4), .int .i64 (c.rs 5), .int .i64 (c.rs 6), .int .i64 (c.rs 7), .int .i64 c.dp] 26 ∧ Cel W (w.heap.size + 1) #[.int .u8 x, .int .u8 y] 48 ∧ Below w.heap.size w W := by
    rintro W rfl
    refine ⟨(Cel.new w _ 26).put (Below.heap_alloc _ _ _ (by simp)), ?_, ((Below.refl _ w).alloc (Nat.le_refl _) _).alloc (by simp) _⟩
    have h := Cel.new (w.alloc (.cells #[.int .i64 c.pg, .int .i64 c.pc, .int .i64 (c.rs 0), .int .i64 (c.rs 1), .int .i64 (c.rs 2), .int .i64 (c.rs 3), .int .i64 (c.rs 4), .int .i64 (c.rs 5), .int .i64 (c.rs 6), .int .i64 (c.rs 7), .int .i64 c.dp] 26)) #[.int .u8 x, .int .u8 y] 48
    rw [World.size_alloc] at h
    exact h
  obtain ⟨h0, h1, hB⟩ := eW _ rfl
  clear eW
  go_enter Tryd.func5, Tryd.ntmps5
  go_upto_region 1 with fail
  generalize (w.alloc (.cells #[.int .i64 c.pg, .int .i64 c.pc, .int .i64 (c.rs 0), .int .i64 (c.rs 1), .int .i64 (c.rs 2), .int .i64 (c.rs 3), .int .i64 (c.rs 4), .int .i64 (c.rs 5), .int .i64 (c.rs 6), .int .i64 (c.rs 7), .int .i64 c.dp] 26)).alloc (.cells #[.int .u8 x, .int .u8 y] 48) = W at *
  have b0 : W.cell? ⟨w.heap.size + 1, 0, none⟩ = some (.int .u8 x) := h1.cell rfl
  have b1 : W.cell? ⟨w.heap.size + 1, 1, none⟩ = some (.int .u8 y) := h1.cell rfl
  go_quiet (fail)
  go_upto_region 4 with (go_at_call 8; (refine (HG _).mono ?_); rintro e W0 ⟨rfl, rfl⟩)
  replace h0 : Cel (W.drewN nq) w.heap.size #[.int .i64 c.pg, .int .i64 c.pc, .int .i64 (c.rs 0), .int .i64 (c.rs 1), .int .i64 (c.rs 2), .int .i64 (c.rs 3), .int .i64 (c.rs 4), .int .i64 (c.rs 5), .int .i64 (c.rs 6), .int .i64 (c.rs 7), .int .i64 c.dp] 26 := h0
  replace hB : Below w.heap.size w (W.drewN nq) := below_drewN hB nq
  clear b0 b1 h1
  generalize W.drewN nq = V0 at *
  have x0 : V0.cell? ⟨w.heap.size, 0, none⟩ = some (.int .i64 c.pg) := h0.cell rfl
  have x1 : V0.cell? ⟨w.heap.size, 1, none⟩ = some (.int .i64 c.pc) := h0.cell rfl
  have x2 : V0.cell? ⟨w.heap.size, 2, none⟩ = some (.int .i64 (c.rs 0)) := h0.cell rfl
  have x3 : V0.cell? ⟨w.heap.size, 3, none⟩ = some (.int .i64 (c.rs 1)) := h0.cell rfl
  have x4 : V0.cell? ⟨w.heap.size, 4, none⟩ = some (.int .i64 (c.rs 2)) := h0.cell rfl
  have x5 : V0.cell? ⟨w.heap.size, 5, none⟩ = some (.int .i64 (c.rs 3)) := h0.cell rfl
  have x6 : V0.cell? ⟨w.heap.size, 6, none⟩ = some (.int .i64 (c.rs 4)) := h0.cell rfl
  have x7 : V0.cell? ⟨w.heap.size, 7, none⟩ = some (.int .i64 (c.rs 5)) := h0.cell rfl
  have x8 : V0.cell? ⟨w.heap.size, 8, none⟩ = some (.int .i64 (c.rs 6)) := h0.cell rfl
  have x9 : V0.cell? ⟨w.heap.size, 9, none⟩ = some (.int .i64 (c.rs 7)) := h0.cell rfl
  have x10 : V0.cell? ⟨w.heap.size, 10, none⟩ = some (.int .i64 c.dp) := h0.cell rfl
  have EX := fun W => eqCx d W
  unfold cxA at EX
  have EK := fun W => eqK (k0, k1, k2, k3) W
  unfold insC at EK
  have NK := neqK hk k1 k2 k3
  go_upto_region 5 with (go_at_call 12; (refine (HR1 V0 hB).mono ?_); rintro e U1 ⟨rfl, hb1⟩)
  have eV : ∀ V : World, V = (U1.alloc (.cells #[.int .i64 d.pg, .int .i64 d.pc, .int .i64 (d.rs 0), .int .i64 (d.rs 1), .int .i64 (d.rs 2), .int .i64 (d.rs 3), .int .i64 (d.rs 4), .int .i64 (d.rs 5), .int .i64 (d.rs 6), .int .i64 (d.rs 7), .int .i64 d.dp] 26)).alloc (.cells #[.int .i64 k0, .int .i64 k1, .int .i64 k2, .int .i64 k3] 30) → Cel V U1.heap.size #[.int .i64 d.pg, .int .i64 d.pc, .int .i64 (d.rs 0), .int .i64 (d.rs 1), .int .i64 (d.rs 2), .int .i64 (d.rs 3), .int .i64 (d.rs 4), .int .i64 (d.rs 5), .int .i64 (d.rs 6), .int .i64 (d.rs 7), .int .i64 d.dp] 26 ∧ Cel V (U1.heap.size + 1) #[.int .i64 k0, .int .i64 k1, .int .i64 k2, .int .i64 k3] 30 ∧ Below V0.heap.size V0 V := by
    rintro V rfl
    refine ⟨(Cel.new U1 _ 26).put (Below.heap_alloc _ _ _ (by simp)), ?_, (hb1.alloc hb1.size _).alloc (by have := hb1.size; simp; omega) _⟩
    have h := Cel.new (U1.alloc (.cells #[.int .i64 d.pg, .int .i64 d.pc, .int .i64 (d.rs 0), .int .i64 (d.rs 1), .int .i64 (d.rs 2), .int .i64 (d.rs 3), .int .i64 (d.rs 4), .int .i64 (d.rs 5), .int .i64 (d.rs 6), .int .i64 (d.rs 7), .int .i64 d.dp] 26)) #[.int .i64 k0, .int .i64 k1, .int .i64 k2, .int .i64 k3] 30
    rw [World.size_alloc] at h
    exact h
  obtain ⟨e1, k1c, hV1⟩ := eV _ rfl
  clear eV hb1
  replace h0 := h0.below hV1
  replace hB := hB.trans (hV1.mono hB.size)
  clear hV1
  generalize (U1.alloc (.cells #[.int .i64 d.pg, .int .i64 d.pc, .int .i64 (d.rs 0), .int .i64 (d.rs 1), .int .i64 (d.rs 2), .int .i64 (d.rs 3), .int .i64 (d.rs 4), .int .i64 (d.rs 5), .int .i64 (d.rs 6), .int .i64 (d.rs 7), .int .i64 d.dp] 26)).alloc (.cells #[.int .i64 k0, .int .i64 k1, .int .i64 k2, .int .i64 k3] 30) = V1 at *
  generalize U1.heap.size = D1 at *
  clear x0 x1 x2 x3 x4 x5 x6 x7 x8 x9 x10
  have x0 : V1.cell? ⟨w.heap.size, 0, none⟩ = some (.int .i64 c.pg) := h0.cell rfl
  have x1 : V1.cell? ⟨w.heap.size, 1, none⟩ = some (.int .i64 c.pc) := h0.cell rfl
  have x2 : V1.cell? ⟨w.heap.size, 2, none⟩ = some (.int .i64 (c.rs 0)) := h0.cell rfl
  have x3 : V1.cell? ⟨w.heap.size, 3, none⟩ = some (.int .i64 (c.rs 1)) := h0.cell rfl
  have x4 : V1.cell? ⟨w.heap.size, 4, none⟩ = some (.int .i64 (c.rs 2)) := h0.cell rfl
  have x5 : V1.cell? ⟨w.heap.size, 5, none⟩ = some (.int .i64 (c.rs 3)) := h0.cell rfl
  have x6 : V1.cell? ⟨w.heap.size, 6, none⟩ = some (.int .i64 (c.rs 4)) := h0.cell rfl
  have x7 : V1.cell? ⟨w.heap.size, 7, none⟩ = some (.int .i64 (c.rs 5)) := h0.cell rfl
  have x8 : V1.cell? ⟨w.heap.size, 8, none⟩ = some (.int .i64 (c.rs 6)) := h0.cell rfl
  have x9 : V1.cell? ⟨w.heap.size, 9, none⟩ = some (.int .i64 (c.rs 7)) := h0.cell rfl
  have x10 : V1.cell? ⟨w.heap.size, 10, none⟩ = some (.int .i64 c.dp) := h0.cell rfl
  have p0 : V1.cell? ⟨D1 + 1, 0, none⟩ = some (.int .i64 k0) := k1c.cell rfl
  have p1 : V1.cell? ⟨D1 + 1, 1, none⟩ = some (.int .i64 k1) := k1c.cell rfl
  have p2 : V1.cell? ⟨D1 + 1, 2, none⟩ = some (.int .i64 k2) := k1c.cell rfl
  have p3 : V1.cell? ⟨D1 + 1, 3, none⟩ = some (.int .i64 k3) := k1c.cell rfl
  go_upto_region 7 with (go_at_call 12; (refine (HR2 V1 hB).mono ?_); rintro e U2 ⟨rfl, hb2⟩)
  have eV : ∀ V : World, V = (U2.alloc (.cells #[.int .i64 d.pg, .int .i64 d.pc, .int .i64 (d.rs 0), .int .i64 (d.rs 1), .int .i64 (d.rs 2), .int .i64 (d.rs 3), .int .i64 (d.rs 4), .int .i64 (d.rs 5), .int .i64 (d.rs 6), .int .i64 (d.rs 7), .int .i64 d.dp] 26)).alloc (.cells #[.int .i64 k0, .int .i64 k1, .int .i64 k2, .int .i64 k3] 30) → Cel V U2.heap.size #[.int .i64 d.pg, .int .i64 d.pc, .int .i64 (d.rs 0), .int .i64 (d.rs 1), .int .i64 (d.rs 2), .int .i64 (d.rs 3), .int .i64 (d.rs 4), .int .i64 (d.rs 5), .int .i64 (d.rs 6), .int .i64 (d.rs 7), .int .i64 d.dp] 26 ∧ Cel V (U2.heap.size + 1) #[.int .i64 k0, .int .i64 k1, .int .i64 k2, .int .i64 k3] 30 ∧ Below V1.heap.size V1 V := by
    rintro V rfl
    refine ⟨(Cel.new U2 _ 26).put (Below.heap_alloc _ _ _ (by simp)), ?_, (hb2.alloc hb2.size _).alloc (by have := hb2.size; simp; omega) _⟩
    have h := Cel.new (U2.alloc (.cells #[.int .i64 d.pg, .int .i64 d.pc, .int .i64 (d.rs 0), .int .i64 (d.rs 1), .int .i64 (d.rs 2), .int .i64 (d.rs 3), .int .i64 (d.rs 4), .int .i64 (d.rs 5), .int .i64 (d.rs 6), .int .i64 (d.rs 7), .int .i64 d.dp] 26)) #[.int .i64 k0, .int .i64 k1, .int .i64 k2, .int .i64 k3] 30
    rw [World.size_alloc] at h
    exact h
  obtain ⟨e2, k2c, hV2⟩ := eV _ rfl
  clear eV hb2
  replace h0 := h0.below hV2
  replace e1 := e1.below hV2
  replace k1c := k1c.below hV2
  replace hB := hB.trans (hV2.mono hB.size)
  clear hV2
  generalize (U2.alloc (.cells #[.int .i64 d.pg, .int .i64 d.pc, .int .i64 (d.rs 0), .int .i64 (d.rs 1), .int .i64 (d.rs 2), .int .i64 (d.rs 3), .int .i64 (d.rs 4), .int .i64 (d.rs 5), .int .i64 (d.rs 6), .int .i64 (d.rs 7), .int .i64 d.dp] 26)).alloc (.cells #[.int .i64 k0, .int .i64 k1, .int .i64 k2, .int .i64 k3] 30) = V2 at *
  generalize U2.heap.size = D2 at *
  clear x0 x1 x2 x3 x4 x5 x6 x7 x8 x9 x10 p0 p1 p2 p3
  have x0 : V2.cell? ⟨D1, 0, none⟩ = some (.int .i64 d.pg) := e1.cell rfl
  have x1 : V2.cell? ⟨D1, 1, none⟩ = some (.int .i64 d.pc) := e1.cell rfl
  have x2 : V2.cell? ⟨D1, 2, none⟩ = some (.int .i64 (d.rs 0)) := e1.cell rfl
  have x3 : V2.cell? ⟨D1, 3, none⟩ = some (.int .i64 (d.rs 1)) := e1.cell rfl
  have x4 : V2.cell? ⟨D1, 4, none⟩ = some (.int .i64 (d.rs 2)) := e1.cell rfl
  have x5 : V2.cell? ⟨D1, 5, none⟩ = some (.int .i64 (d.rs 3)) := e1.cell rfl
  have x6 : V2.cell? ⟨D1, 6, none⟩ = some (.int .i64 (d.rs 4)) := e1.cell rfl
  have x7 : V2.cell? ⟨D1, 7, none⟩ = some (.int .i64 (d.rs 5)) := e1.cell rfl
  have x8 : V2.cell? ⟨D1, 8, none⟩ = some (.int .i64 (d.rs 6)) := e1.cell rfl
  have x9 : V2.cell? ⟨D1, 9, none⟩ = some (.int .i64 (d.rs 7)) := e1.cell rfl
  have x10 : V2.cell? ⟨D1, 10, none⟩ = some (.int .i64 d.dp) := e1.cell rfl
  have p0 : V2.cell? ⟨D1 + 1, 0, none⟩ = some (.int .i64 k0) := k1c.cell rfl
  have p1 : V2.cell? ⟨D1 + 1, 1, none⟩ = some (.int .i64 k1) := k1c.cell rfl
  have p2 : V2.cell? ⟨D1 + 1, 2, none⟩ = some (.int .i64 k2) := k1c.cell rfl
  have p3 : V2.cell? ⟨D1 + 1, 3, none⟩ = some (.int .i64 k3) := k1c.cell rfl
  have y0 : V2.cell? ⟨D2, 0, none⟩ = some (.int .i64 d.pg) := e2.cell rfl
  have y1 : V2.cell? ⟨D2, 1, none⟩ = some (.int .i64 d.pc) := e2.cell rfl
  have y2 : V2.cell? ⟨D2, 2, none⟩ = some (.int .i64 (d.rs 0)) := e2.cell rfl
  have y3 : V2.cell? ⟨D2, 3, none⟩ = some (.int .i64 (d.rs 1)) := e2.cell rfl
  have y4 : V2.cell? ⟨D2, 4, none⟩ = some (.int .i64 (d.rs 2)) := e2.cell rfl
  have y5 : V2.cell? ⟨D2, 5, none⟩ = some (.int .i64 (d.rs 3)) := e2.cell rfl
  have y6 : V2.cell? ⟨D2, 6, none⟩ = some (.int .i64 (d.rs 4)) := e2.cell rfl
  have y7 : V2.cell? ⟨D2, 7, none⟩ = some (.int .i64 (d.rs 5)) := e2.cell rfl
  have y8 : V2.cell? ⟨D2, 8, none⟩ = some (.int .i64 (d.rs 6)) := e2.cell rfl
  have y9 : V2.cell? ⟨D2, 9, none⟩ = some (.int .i64 (d.rs 7)) := e2.cell rfl
  have y10 : V2.cell? ⟨D2, 10, none⟩ = some (.int .i64 d.dp) := e2.cell rfl
  have q0 : V2.cell? ⟨D2 + 1, 0, none⟩ = some (.int .i64 k0) := k2c.cell rfl
  have q1 : V2.cell? ⟨D2 + 1, 1, none⟩ = some (.int .i64 k1) := k2c.cell rfl
  have q2 : V2.cell? ⟨D2 + 1, 2, none⟩ = some (.int .i64 k2) := k2c.cell rfl
  have q3 : V2.cell? ⟨D2 + 1, 3, none⟩ = some (.int .i64 k3) := k2c.cell rfl
  go_wp2_with (go_at_call 9; (refine (HL V2 hB).mono ?_); rintro e U ⟨rfl, hb⟩)
  go_ret
  exact ⟨rfl, hB.trans (hb.mono hB.size)⟩

set_option maxRecDepth 100000 in
set_option maxHeartbeats 4000000 in
theorem parts_none {w : World} {xs : List Ins} {sa : Option Addr} {sc : Nat} {c : Cx} {x y : Int} {d f : Cx} {k0 k1 k2 k3 : Int} {m : Nat} (hm : m ≤ 255) (hx : 0 ≤ x) (hx1 : x < 256) (hy : 0 ≤ y) (hy1 : y < 256)
    (HL : ∀ W : World, Below w.heap.size w W → Calls Tryd.prog 9 #[] W fun e w' => e = .returned (.bool true) ∧ Below W.heap.size W w')
    (HG : ∀ W : World, Calls Tryd.prog 8 #[.slice sa xs.length sc] W fun e w' => e = .returned (.bool true) ∧ w' = W)
    (HR1 : ∀ W : World, Below w.heap.size w W → Calls Tryd.prog 12 #[.slice sa xs.length sc, .agg #[.int .i64 c.pg, .int .i64 c.pc, .int .i64 (c.rs 0), .int .i64 (c.rs 1), .int .i64 (c.rs 2), .int .i64 (c.rs 3), .int .i64 (c.rs 4), .int .i64 (c.rs 5), .int .i64 (c.rs 6), .int .i64 (c.rs 7), .int .i64 c.dp], .int .i64 x] W fun e w' => e = .returned (.tuple #[.agg #[.int .i64 d.pg, .int .i64 d.pc, .int .i64 (d.rs 0), .int .i64 (d.rs 1), .int .i64 (d.rs 2), .int .i64 (d.rs 3), .int .i64 (d.rs 4), .int .i64 (d.rs 5), .int .i64 (d.rs 6), .int .i64 (d.rs 7), .int .i64 d.dp], .agg #[.int .i64 0, .int .i64 0, .int .i64 0, .int .i64 0], .int .i64 x]) ∧ Below W.heap.size W w')
    (HR2 : ∀ W : World, Below w.heap.size w W → Calls Tryd.prog 12 #[.slice sa xs.length sc, .agg #[.int .i64 d.pg, .int .i64 d.pc, .int .i64 (d.rs 0), .int .i64 (d.rs 1), .int .i64 (d.rs 2), .int .i64 (d.rs 3), .int .i64 (d.rs 4), .int .i64 (d.rs 5), .int .i64 (d.rs 6), .int .i64 (d.rs 7), .int .i64 d.dp], .int .i64 y] W fun e w' => e = .returned (.tuple #[.agg #[.int .i64 f.pg, .int .i64 f.pc, .int .i64 (f.rs 0), .int .i64 (f.rs 1), .int .i64 (f.rs 2), .int .i64 (f.rs 3), .int .i64 (f.rs 4), .int .i64 (f.rs 5), .int .i64 (f.rs 6), .int .i64 (f.rs 7), .int .i64 f.dp], .agg #[.int .i64 k0, .int .i64 k1, .int .i64 k2, .int .i64 k3], .int .i64 (m : Int)]) ∧ Below W.heap.size W w')
    (HR3 : ∀ W : World, Below w.heap.size w W → Calls Tryd.prog 12 #[.slice sa xs.length sc, .agg #[.int .i64 c.pg, .int .i64 c.pc, .int .i64 (c.rs 0), .int .i64 (c.rs 1), .int .i64 (c.rs 2), .int .i64 (c.rs 3), .int .i64 (c.rs 4), .int .i64 (c.rs 5), .int .i64 (c.rs 6), .int .i64 (c.rs 7), .int .i64 c.dp], .int .i64 (x + y)] W fun e w' => e = .returned (.tuple #[.agg #[.int .i64 f.pg, .int .i64 f.pc, .int .i64 (f.rs 0), .int .i64 (f.rs 1), .int .i64 (f.rs 2), .int .i64 (f.rs 3), .int .i64 (f.rs 4), .int .i64 (f.rs 5), .int .i64 (f.rs 6), .int .i64 (f.rs 7), .int .i64 f.dp], .agg #[.int .i64 k0, .int .i64 k1, .int .i64 k2, .int .i64 k3], .int .i64 (x + (m : Int))]) ∧ Below W.heap.size W w')
    : Calls Tryd.prog 5 #[.slice sa xs.length sc, .agg #[.int .i64 c.pg, .int .i64 c.pc, .int .i64 (c.rs 0), .int .i64 (c.rs 1), .int .i64 (c.rs 2), .int .i64 (c.rs 3), .int .i64 (c.rs 4), .int .i64 (c.rs 5), .int .i64 (c.rs 6), .int .i64 (c.rs 7), .int .i64 c.dp], .agg #[.int .u8 x, .int .u8 y]] w fun e w' => e = .returned (.bool true) ∧ Below w.heap.size w w' := by
  have hmx := mixed
  have eW : ∀ W : World, W = (w.alloc (.cells #[.int .i64 c.pg, .int .i64 c.pc, .int .i64 (c.rs 0), .int .i64 (c.rs 1), .int .i64 (c.rs 2), .int .i64 (c.rs 3), .int .i64 (c.rs 4), .int .i64 (c.rs 5), .int .i64 (c.rs 6), .int .i64 (c.rs 7), .int .i64 c.dp] 26)).alloc (.cells #[.int .u8 x, .int .u8 y] 48) → Cel W w.heap.size #[.int .i64 c.pg, .int .i64 c.pc, .int .i64 (c.rs 0), .int .i64 (c.rs 1), .int .i64 (c.rs 2), .int .i64 (c.rs 3), .int .i64 (c.rs 4), .int .i64 (c.rs 5), .int .i64 (c.rs 6), .int .i64 (c.rs 7), .int .i64 c.dp] 26 ∧ Cel W (w.heap.size + 1) #[.int .u8 x, .int .u8 y] 48 ∧ Below w.heap.size w W := by
    rintro W rfl
    refine ⟨(Cel.new w _ 26).put (Below.heap_alloc _ _ _ (by simp)), ?_, ((Below.refl _ w).alloc (Nat.le_refl _) _).alloc (by simp) _⟩
    have h := Cel.new (w.alloc (.cells #[.int .i64 c.pg, .int .i64 c.pc, .int .i64 (c.rs 0), .int .i64 (c.rs 1), .int .i64 (c.rs 2), .int .i64 (c.rs 3), .int .i64 (c.rs 4), .int .i64 (c.rs 5), .int .i64 (c.rs 6), .int .i64 (c.rs 7), .int .i64 c.dp] 26)) #[.int .u8 x, .int .u8 y] 48
    rw [World.size_alloc] at h
    exact h
  obtain ⟨h0, h1, hB⟩ := eW _ rfl
  clear eW
  go_enter Tryd.func5, Tryd.ntmps5
  go_upto_region 1 with fail
  generalize (w.alloc (.cells #[.int .i64 c.pg, .int .i64 c.pc, .int .i64 (c.rs 0), .int .i64 (c.rs 1), .int .i64 (c.rs 2), .int .i64 (c.rs 3), .int .i64 (c.rs 4), .int .i64 (c.rs 5), .int .i64 (c.rs 6), .int .i64 (c.rs 7), .int .i64 c.dp] 26)).alloc (.cells #[.int .u8 x, .int .u8 y] 48) = W at *
  have b0 : W.cell? ⟨w.heap.size + 1, 0, none⟩ = some (.int .u8 x) := h1.cell rfl
  have b1 : W.cell? ⟨w.heap.size + 1, 1, none⟩ = some (.int .u8 y) := h1.cell rfl
  go_quiet (fail)
  go_upto_region 4 with (go_at_call 8; (refine (HG _).mono ?_); rintro e W0 ⟨rfl, rfl⟩)
  replace h0 : Cel (W.drewN nq) w.heap.size #[.int .i64 c.pg, .int .i64 c.pc, .int .i64 (c.rs 0), .int .i64 (c.rs 1), .int .i64 (c.rs 2), .int .i64 (c.rs 3), .int .i64 (c.rs 4), .int .i64 (c.rs 5), .int .i64 (c.rs 6), .int .i64 (c.rs 7), .int .i64 c.dp] 26 := h0
  replace hB : Below w.heap.size w (W.drewN nq) := below_drewN hB nq
  clear b0 b1 h1
  generalize W.drewN nq = V0 at *
  have x0 : V0.cell? ⟨w.heap.size, 0, none⟩ = some (.int .i64 c.pg) := h0.cell rfl
  have x1 : V0.cell? ⟨w.heap.size, 1, none⟩ = some (.int .i64 c.pc) := h0.cell rfl
  have x2 : V0.cell? ⟨w.heap.size, 2, none⟩ = some (.int .i64 (c.rs 0)) := h0.cell rfl
  have x3 : V0.cell? ⟨w.heap.size, 3, none⟩ = some (.int .i64 (c.rs 1)) := h0.cell rfl
  have x4 : V0.cell? ⟨w.heap.size, 4, none⟩ = some (.int .i64 (c.rs 2)) := h0.cell rfl
  have x5 : V0.cell? ⟨w.heap.size, 5, none⟩ = some (.int .i64 (c.rs 3)) := h0.cell rfl
  have x6 : V0.cell? ⟨w.heap.size, 6, none⟩ = some (.int .i64 (c.rs 4)) := h0.cell rfl
  have x7 : V0.cell? ⟨w.heap.size, 7, none⟩ = some (.int .i64 (c.rs 5)) := h0.cell rfl
  have x8 : V0.cell? ⟨w.heap.size, 8, none⟩ = some (.int .i64 (c.rs 6)) := h0.cell rfl
  have x9 : V0.cell? ⟨w.heap.size, 9, none⟩ = some (.int .i64 (c.rs 7)) := h0.cell rfl
  have x10 : V0.cell? ⟨w.heap.size, 10, none⟩ = some (.int .i64 c.dp) := h0.cell rfl
  have EX := fun W => eqCx f W
  unfold cxA at EX
  have EK := fun W => eqK (k0, k1, k2, k3) W
  unfold insC at EK
  have hm1 : (m : Int) ≤ 255 := by omega
  have hm0 : (0 : Int) ≤ (m : Int) := by omega
  go_upto_region 5 with (go_at_call 12; (refine (HR1 V0 hB).mono ?_); rintro e U1 ⟨rfl, hb1⟩)
  have eV : ∀ V : World, V = (U1.alloc (.cells #[.int .i64 d.pg, .int .i64 d.pc, .int .i64 (d.rs 0), .int .i64 (d.rs 1), .int .i64 (d.rs 2), .int .i64 (d.rs 3), .int .i64 (d.rs 4), .int .i64 (d.rs 5), .int .i64 (d.rs 6), .int .i64 (d.rs 7), .int .i64 d.dp] 26)).alloc (.cells #[.int .i64 0, .int .i64 0, .int .i64 0, .int .i64 0] 30) → Cel V U1.heap.size #[.int .i64 d.pg, .int .i64 d.pc, .int .i64 (d.rs 0), .int .i64 (d.rs 1), .int .i64 (d.rs 2), .int .i64 (d.rs 3), .int .i64 (d.rs 4), .int .i64 (d.rs 5), .int .i64 (d.rs 6), .int .i64 (d.rs 7), .int .i64 d.dp] 26 ∧ Cel V (U1.heap.size + 1) #[.int .i64 0, .int .i64 0, .int .i64 0, .int .i64 0] 30 ∧ Below V0.heap.size V0 V := by
    rintro V rfl
    refine ⟨(Cel.new U1 _ 26).put (Below.heap_alloc _ _ _ (by simp)), ?_, (hb1.alloc hb1.size _).alloc (by have := hb1.size; simp; omega) _⟩
    have h := Cel.new (U1.alloc (.cells #[.int .i64 d.pg, .int .i64 d.pc, .int .i64 (d.rs 0), .int .i64 (d.rs 1), .int .i64 (d.rs 2), .int .i64 (d.rs 3), .int .i64 (d.rs 4), .int .i64 (d.rs 5), .int .i64 (d.rs 6), .int .i64 (d.rs 7), .int .i64 d.dp] 26)) #[.int .i64 0, .int .i64 0, .int .i64 0, .int .i64 0] 30
    rw [World.size_alloc] at h
    exact h
  obtain ⟨e1, k1c, hV1⟩ := eV _ rfl
  clear eV hb1
  replace h0 := h0.below hV1
  replace hB := hB.trans (hV1.mono hB.size)
  clear hV1
  generalize (U1.alloc (.cells #[.int .i64 d.pg, .int .i64 d.pc, .int .i64 (d.rs 0), .int .i64 (d.rs 1), .int .i64 (d.rs 2), .int .i64 (d.rs 3), .int .i64 (d.rs 4), .int .i64 (d.rs 5), .int .i64 (d.rs 6), .int .i64 (d.rs 7), .int .i64 d.dp] 26)).alloc (.cells #[.int .i64 0, .int .i64 0, .int .i64 0, .int .i64 0] 30) = V1 at *
  generalize U1.heap.size = D1 at *
  clear x0 x1 x2 x3 x4 x5 x6 x7 x8 x9 x10
  have x0 : V1.cell? ⟨D1, 0, none⟩ = some (.int .i64 d.pg) := e1.cell rfl
  have x1 : V1.cell? ⟨D1, 1, none⟩ = some (.int .i64 d.pc) := e1.cell rfl
  have x2 : V1.cell? ⟨D1, 2, none⟩ = some (.int .i64 (d.rs 0)) := e1.cell rfl
  have x3 : V1.cell? ⟨D1, 3, none⟩ = some (.int .i64 (d.rs 1)) := e1.cell rfl
  have x4 : V1.cell? ⟨D1, 4, none⟩ = some (.int .i64 (d.rs 2)) := e1.cell rfl
  have x5 : V1.cell? ⟨D1, 5, none⟩ = some (.int .i64 (d.rs 3)) := e1.cell rfl
  have x6 : V1.cell? ⟨D1, 6, none⟩ = some (.int .i64 (d.rs 4)) := e1.cell rfl
  have x7 : V1.cell? ⟨D1, 7, none⟩ = some (.int .i64 (d.rs 5)) := e1.cell rfl
  have x8 : V1.cell? ⟨D1, 8, none⟩ = some (.int .i64 (d.rs 6)) := e1.cell rfl
  have x9 : V1.cell? ⟨D1, 9, none⟩ = some (.int .i64 (d.rs 7)) := e1.cell rfl
  have x10 : V1.cell? ⟨D1, 10, none⟩ = some (.int .i64 d.dp) := e1.cell rfl
  have p0 : V1.cell? ⟨D1 + 1, 0, none⟩ = some (.int .i64 0) := k1c.cell rfl
  have p1 : V1.cell? ⟨D1 + 1, 1, none⟩ = some (.int .i64 0) := k1c.cell rfl
  have p2 : V1.cell? ⟨D1 + 1, 2, none⟩ = some (.int .i64 0) := k1c.cell rfl
  have p3 : V1.cell? ⟨D1 + 1, 3, none⟩ = some (.int .i64 0) := k1c.cell rfl
  go_upto_region 9 with (go_at_call 12; (refine (HR2 V1 hB).mono ?_); rintro e U2 ⟨rfl, hb2⟩)
  have eV : ∀ V : World, V = (U2.alloc (.cells #[.int .i64 f.pg, .int .i64 f.pc, .int .i64 (f.rs 0), .int .i64 (f.rs 1), .int .i64 (f.rs 2), .int .i64 (f.rs 3), .int .i64 (f.rs 4), .int .i64 (f.rs 5), .int .i64 (f.rs 6), .int .i64 (f.rs 7), .int .i64 f.dp] 26)).alloc (.cells #[.int .i64 k0, .int .i64 k1, .int .i64 k2, .int .i64 k3] 30) → Cel V U2.heap.size #[.int .i64 f.pg, .int .i64 f.pc, .int .i64 (f.rs 0), .int .i64 (f.rs 1), .int .i64 (f.rs 2), .int .i64 (f.rs 3), .int .i64 (f.rs 4), .int .i64 (f.rs 5), .int .i64 (f.rs 6), .int .i64 (f.rs 7), .int .i64 f.dp] 26 ∧ Cel V (U2.heap.size + 1) #[.int .i64 k0, .int .i64 k1, .int .i64 k2, .int .i64 k3] 30 ∧ Below V1.heap.size V1 V := by
    rintro V rfl
    refine ⟨(Cel.new U2 _ 26).put (Below.heap_alloc _ _ _ (by simp)), ?_, (hb2.alloc hb2.size _).alloc (by have := hb2.size; simp; omega) _⟩
    have h := Cel.new (U2.alloc (.cells #[.int .i64 f.pg, .int .i64 f.pc, .int .i64 (f.rs 0), .int .i64 (f.rs 1), .int .i64 (f.rs 2), .int .i64 (f.rs 3), .int .i64 (f.rs 4), .int .i64 (f.rs 5), .int .i64 (f.rs 6), .int .i64 (f.rs 7), .int .i64 f.dp] 26)) #[.int .i64 k0, .int .i64 k1, .int .i64 k2, .int .i64 k3] 30
    rw [World.size_alloc] at h
    exact h
  obtain ⟨e2, k2c, hV2⟩ := eV _ rfl
  clear eV hb2
  replace h0 := h0.below hV2
  replace e1 := e1.below hV2
  replace k1c := k1c.below hV2
  replace hB := hB.trans (hV2.mono hB.size)
  clear hV2
  generalize (U2.alloc (.cells #[.int .i64 f.pg, .int .i64 f.pc, .int .i64 (f.rs 0), .int .i64 (f.rs 1), .int .i64 (f.rs 2), .int .i64 (f.rs 3), .int .i64 (f.rs 4), .int .i64 (f.rs 5), .int .i64 (f.rs 6), .int .i64 (f.rs 7), .int .i64 f.dp] 26)).alloc (.cells #[.int .i64 k0, .int .i64 k1, .int .i64 k2, .int .i64 k3] 30) = V2 at *
  generalize U2.heap.size = D2 at *
  clear x0 x1 x2 x3 x4 x5 x6 x7 x8 x9 x10 p0 p1 p2 p3
  have x0 : V2.cell? ⟨w.heap.size, 0, none⟩ = some (.int .i64 c.pg) := h0.cell rfl
  have x1 : V2.cell? ⟨w.heap.size, 1, none⟩ = some (.int .i64 c.pc) := h0.cell rfl
  have x2 : V2.cell? ⟨w.heap.size, 2, none⟩ = some (.int .i64 (c.rs 0)) := h0.cell rfl
  have x3 : V2.cell? ⟨w.heap.size, 3, none⟩ = some (.int .i64 (c.rs 1)) := h0.cell rfl
  have x4 : V2.cell? ⟨w.heap.size, 4, none⟩ = some (.int .i64 (c.rs 2)) := h0.cell rfl
  have x5 : V2.cell? ⟨w.heap.size, 5, none⟩ = some (.int .i64 (c.rs 3)) := h0.cell rfl
  have x6 : V2.cell? ⟨w.heap.size, 6, none⟩ = some (.int .i64 (c.rs 4)) := h0.cell rfl
  have x7 : V2.cell? ⟨w.heap.size, 7, none⟩ = some (.int .i64 (c.rs 5)) := h0.cell rfl
  have x8 : V2.cell? ⟨w.heap.size, 8, none⟩ = some (.int .i64 (c.rs 6)) := h0.cell rfl
  have x9 : V2.cell? ⟨w.heap.size, 9, none⟩ = some (.int .i64 (c.rs 7)) := h0.cell rfl
  have x10 : V2.cell? ⟨w.heap.size, 10, none⟩ = some (.int .i64 c.dp) := h0.cell rfl
  go_upto_region 10 with (go_at_call 12; (refine (HR3 V2 hB).mono ?_); rintro e U3 ⟨rfl, hb3⟩)
  have eV : ∀ V : World, V = (U3.alloc (.cells #[.int .i64 f.pg, .int .i64 f.pc, .int .i64 (f.rs 0), .int .i64 (f.rs 1), .int .i64 (f.rs 2), .int .i64 (f.rs 3), .int .i64 (f.rs 4), .int .i64 (f.rs 5), .int .i64 (f.rs 6), .int .i64 (f.rs 7), .int .i64 f.dp] 26)).alloc (.cells #[.int .i64 k0, .int .i64 k1, .int .i64 k2, .int .i64 k3] 30) → Cel V U3.heap.size #[.int .i64 f.pg, .int .i64 f.pc, .int .i64 (f.rs 0), .int .i64 (f.rs 1), .int .i64 (f.rs 2), .int .i64 (f.rs 3), .int .i64 (f.rs 4), .int .i64 (f.rs 5), .int .i64 (f.rs 6), .int .i64 (f.rs 7), .int .i64 f.dp] 26 ∧ Cel V (U3.heap.size + 1) #[.int .i64 k0, .int .i64 k1, .int .i64 k2, .int .i64 k3] 30 ∧ Below V2.heap.size V2 V := by
    rintro V rfl
    refine ⟨(Cel.new U3 _ 26).put (Below.heap_alloc _ _ _ (by simp)), ?_, (hb3.alloc hb3.size _).alloc (by have := hb3.size; simp; omega) _⟩
    have h := Cel.new (U3.alloc (.cells #[.int .i64 f.pg, .int .i64 f.pc, .int .i64 (f.rs 0), .int .i64 (f.rs 1), .int .i64 (f.rs 2), .int .i64 (f.rs 3), .int .i64 (f.rs 4), .int .i64 (f.rs 5), .int .i64 (f.rs 6), .int .i64 (f.rs 7), .int .i64 f.dp] 26)) #[.int .i64 k0, .int .i64 k1, .int .i64 k2, .int .i64 k3] 30
    rw [World.size_alloc] at h
    exact h
  obtain ⟨e3, k3c, hV3⟩ := eV _ rfl
  clear eV hb3
  replace e2 := e2.below hV3
  replace k2c := k2c.below hV3
  replace hB := hB.trans (hV3.mono hB.size)
  clear hV3
  generalize (U3.alloc (.cells #[.int .i64 f.pg, .int .i64 f.pc, .int .i64 (f.rs 0), .int .i64 (f.rs 1), .int .i64 (f.rs 2), .int .i64 (f.rs 3), .int .i64 (f.rs 4), .int .i64 (f.rs 5), .int .i64 (f.rs 6), .int .i64 (f.rs 7), .int .i64 f.dp] 26)).alloc (.cells #[.int .i64 k0, .int .i64 k1, .int .i64 k2, .int .i64 k3] 30) = V3 at *
  generalize U3.heap.size = D3 at *
  clear x0 x1 x2 x3 x4 x5 x6 x7 x8 x9 x10
  have x0 : V3.cell? ⟨D2, 0, none⟩ = some (.int .i64 f.pg) := e2.cell rfl
  have x1 : V3.cell? ⟨D2, 1, none⟩ = some (.int .i64 f.pc) := e2.cell rfl
  have x2 : V3.cell? ⟨D2, 2, none⟩ = some (.int .i64 (f.rs 0)) := e2.cell rfl
  have x3 : V3.cell? ⟨D2, 3, none⟩ = some (.int .i64 (f.rs 1)) := e2.cell rfl
  have x4 : V3.cell? ⟨D2, 4, none⟩ = some (.int .i64 (f.rs 2)) := e2.cell rfl
  have x5 : V3.cell? ⟨D2, 5, none⟩ = some (.int .i64 (f.rs 3)) := e2.cell rfl
  have x6 : V3.cell? ⟨D2, 6, none⟩ = some (.int .i64 (f.rs 4)) := e2.cell rfl
  have x7 : V3.cell? ⟨D2, 7, none⟩ = some (.int .i64 (f.rs 5)) := e2.cell rfl
  have x8 : V3.cell? ⟨D2, 8, none⟩ = some (.int .i64 (f.rs 6)) := e2.cell rfl
  have x9 : V3.cell? ⟨D2, 9, none⟩ = some (.int .i64 (f.rs 7)) := e2.cell rfl
  have x10 : V3.cell? ⟨D2, 10, none⟩ = some (.int .i64 f.dp) := e2.cell rfl
  have p0 : V3.cell? ⟨D2 + 1, 0, none⟩ = some (.int .i64 k0) := k2c.cell rfl
  have p1 : V3.cell? ⟨D2 + 1, 1, none⟩ = some (.int .i64 k1) := k2c.cell rfl
  have p2 : V3.cell? ⟨D2 + 1, 2, none⟩ = some (.int .i64 k2) := k2c.cell rfl
  have p3 : V3.cell? ⟨D2 + 1, 3, none⟩ = some (.int .i64 k3) := k2c.cell rfl
  have y0 : V3.cell? ⟨D3, 0, none⟩ = some (.int .i64 f.pg) := e3.cell rfl
  have y1 : V3.cell? ⟨D3, 1, none⟩ = some (.int .i64 f.pc) := e3.cell rfl
  have y2 : V3.cell? ⟨D3, 2, none⟩ = some (.int .i64 (f.rs 0)) := e3.cell rfl
  have y3 : V3.cell? ⟨D3, 3, none⟩ = some (.int .i64 (f.rs 1)) := e3.cell rfl
  have y4 : V3.cell? ⟨D3, 4, none⟩ = some (.int .i64 (f.rs 2)) := e3.cell rfl
  have y5 : V3.cell? ⟨D3, 5, none⟩ = some (.int .i64 (f.rs 3)) := e3.cell rfl
  have y6 : V3.cell? ⟨D3, 6, none⟩ = some (.int .i64 (f.rs 4)) := e3.cell rfl
  have y7 : V3.cell? ⟨D3, 7, none⟩ = some (.int .i64 (f.rs 5)) := e3.cell rfl
  have y8 : V3.cell? ⟨D3, 8, none⟩ = some (.int .i64 (f.rs 6)) := e3.cell rfl
  have y9 : V3.cell? ⟨D3, 9, none⟩ = some (.int .i64 (f.rs 7)) := e3.cell rfl
  have y10 : V3.cell? ⟨D3, 10, none⟩ = some (.int .i64 f.dp) := e3.cell rfl
  have q0 : V3.cell? ⟨D3 + 1, 0, none⟩ = some (.int .i64 k0) := k3c.cell rfl
  have q1 : V3.cell? ⟨D3 + 1, 1, none⟩ = some (.int .i64 k1) := k3c.cell rfl
  have q2 : V3.cell? ⟨D3 + 1, 2, none⟩ = some (.int .i64 k2) := k3c.cell rfl
  have q3 : V3.cell? ⟨D3 + 1, 3, none⟩ = some (.int .i64 k3) := k3c.cell rfl
  go_wp2_with (go_at_call 9; (refine (HL V3 hB).mono ?_); rintro e U ⟨rfl, hb⟩)
  go_ret
  exact ⟨rfl, hB.trans (hb.mono hB.size)⟩

set_option maxRecDepth 100000 in
set_option maxHeartbeats 4000000 in
theorem parts_heavy {w : World} {xs : List Ins} {sa : Option Addr} {sc : Nat} {c : Cx} {x y : Int} 
    (HL : ∀ W : World, Below w.heap.size w W → Calls Tryd.prog 9 #[] W fun e w' => e = .returned (.bool true) ∧ Below W.heap.size W w')
    (HG : ∀ W : World, Calls Tryd.prog 8 #[.slice sa xs.length sc] W fun e w' => e = .returned (.bool false) ∧ w' = W)
    : Calls Tryd.prog 5 #[.slice sa xs.length sc, .agg #[.int .i64 c.pg, .int .i64 c.pc, .int .i64 (c.rs 0), .int .i64 (c.rs 1), .int .i64 (c.rs 2), .int .i64 (c.rs 3), .int .i64 (c.rs 4), .int .i64 (c.rs 5), .int .i64 (c.rs 6), .int .i64 (c.rs 7), .int .i64 c.dp], .agg #[.int .u8 x, .int .u8 y]] w fun e w' => e = .returned (.bool true) ∧ Below w.heap.size w w' := by
  have eW : ∀ W : World, W = (w.alloc (.cells #[.int .i64 c.pg, .int .i64 c.pc, .int .i64 (c.rs 0), .int .i64 (c.rs 1), .int .i64 (c.rs 2), .int .i64 (c.rs 3), .int .i64 (c.rs 4), .int .i64 (c.rs 5), .int .i64 (c.rs 6), .int .i64 (c.rs 7), .int .i64 c.dp] 26)).alloc (.cells #[.int .u8 x, .int .u8 y] 48) → Cel W w.heap.size #[.int .i64 c.pg, .int .i64 c.pc, .int .i64 (c.rs 0), .int .i64 (c.rs 1), .int .i64 (c.rs 2), .int .i64 (c.rs 3), .int .i64 (c.rs 4), .int .i64 (c.rs 5), .int .i64 (c.rs 6), .int .i64 (c.rs 7), .int .i64 c.dp] 26 ∧ Cel W (w.heap.size + 1) #[.int .u8 x, .int .u8 y] 48 ∧ Below w.heap.size w W := by
    rintro W rfl
    refine ⟨(Cel.new w _ 26).put (Below.heap_alloc _ _ _ (by simp)), ?_, ((Below.refl _ w).alloc (Nat.le_refl _) _).alloc (by simp) _⟩
    have h := Cel.new (w.alloc (.cells #[.int .i64 c.pg, .int .i64 c.pc, .int .i64 (c.rs 0), .int .i64 (c.rs 1), .int .i64 (c.rs 2), .int .i64 (c.rs 3), .int .i64 (c.rs 4), .int .i64 (c.rs 5), .int .i64 (c.rs 6), .int .i64 (c.rs 7), .int .i64 c.dp] 26)) #[.int .u8 x, .int .u8 y] 48
    rw [World.size_alloc] at h
    exact h
  obtain ⟨_, h1, hB⟩ := eW _ rfl
  clear eW
  go_enter Tryd.func5, Tryd.ntmps5
  go_upto_region 1 with fail
  generalize (w.alloc (.cells #[.int .i64 c.pg, .int .i64 c.pc, .int .i64 (c.rs 0), .int .i64 (c.rs 1), .int .i64 (c.rs 2), .int .i64 (c.rs 3), .int .i64 (c.rs 4), .int .i64 (c.rs 5), .int .i64 (c.rs 6), .int .i64 (c.rs 7), .int .i64 c.dp] 26)).alloc (.cells #[.int .u8 x, .int .u8 y] 48) = W at *
  have b0 : W.cell? ⟨w.heap.size + 1, 0, none⟩ = some (.int .u8 x) := h1.cell rfl
  have b1 : W.cell? ⟨w.heap.size + 1, 1, none⟩ = some (.int .u8 y) := h1.cell rfl
  go_quiet (fail)
  replace hB : Below w.heap.size w (W.drewN nq) := below_drewN hB nq
  go_wp2_with (first | (go_at_call 8; (refine (HG _).mono ?_); rintro e W0 ⟨rfl, rfl⟩) | (go_at_call 9; (refine (HL _ hB).mono ?_); rintro e U ⟨rfl, hb⟩))
  go_ret
  exact ⟨rfl, hB.trans (hb.mono hB.size)⟩

theorem parts_tail (xs : List Ins) (c : Cx) (x y : Int) (sa : Option Addr) (sc : Nat) (w : World) (hp : PV w sa xs) (hx : 0 ≤ x ∧ x < 256) (hy : 0 ≤ y ∧ y < 256) (hT : Tab w) :
    Calls Tryd.prog 5 #[.slice sa xs.length sc, .agg (cxA c), .agg #[.int .u8 x, .int .u8 y]] w fun e w' => e = .returned (.bool true) ∧ Below w.heap.size w w' := by
  have HL : ∀ W : World, Below w.heap.size w W → Calls Tryd.prog 9 #[] W fun e w' => e = .returned (.bool true) ∧ Below W.heap.size W w' := fun W hb => lives_any (hT.on hb)
  by_cases hl : xs.length ≤ 80
  · have HG : ∀ W : World, Calls Tryd.prog 8 #[.slice sa xs.length sc] W fun e w' => e = .returned (.bool true) ∧ w' = W := fun W => by
      have h := light_any (ps := xs) (a := sa) sc W
      rwa [decide_eq_true hl] at h
    have HR : ∀ (d : Cx) (m : Int) (W : World), m ≤ 600 → Below w.heap.size w W → Calls Tryd.prog 12 #[.slice sa xs.length sc, .agg (cxA d), .int .i64 m] W fun e w' => e = .returned (.tuple #[.agg (cxA (runC (codeL xs) m.toNat d).1), .agg (insC (runC (codeL xs) m.toNat d).2.1), .int .i64 ((runC (codeL xs) m.toNat d).2.2 : Int)]) ∧ Below W.heap.size W w' := fun d m W hm hb => run_any sc d m (by omega) (hp.below hb) (hT.on hb)
    have hxy : (x + y).toNat = x.toNat + y.toNat := by omega
    rcases run_split xs y.toNat x.toNat c with ⟨e1, e2, e3⟩ | ⟨e1, e2⟩
    · have H1 := fun W hb => HR c x W (by omega) hb
      have H2 := fun W hb => HR (runC (codeL xs) x.toNat c).1 y W (by omega) hb
      have H3 := fun W hb => HR c (x + y) W (by omega) hb
      have hle := run_le (codeL xs) y.toNat (runC (codeL xs) x.toNat c).1
      rw [hxy, e3] at H3
      rw [e1, e2] at H1
      generalize (runC (codeL xs) x.toNat c).1 = d at *
      generalize runC (codeL xs) y.toNat d = r at *
      obtain ⟨f, ⟨k0, k1, k2, k3⟩, m⟩ := r
      have ex : ((x.toNat : Nat) : Int) = x := by omega
      rw [ex] at H1
      have em : ((m + x.toNat : Nat) : Int) = x + (m : Int) := by omega
      have hm : m ≤ 255 := by
        have : m ≤ y.toNat := hle
        omega
      refine parts_none hm hx.1 hx.2 hy.1 hy.2 HL HG H1 H2 (fun W hb => ?_)
      have h := H3 W hb
      unfold shiftR at h
      rw [em] at h
      exact h
    · have H1 := fun W hb => HR c x W (by omega) hb
      have H3 := fun W hb => HR c (x + y) W (by omega) hb
      rw [hxy, e2] at H3
      generalize runC (codeL xs) x.toNat c = r at *
      obtain ⟨d, ⟨k0, k1, k2, k3⟩, m⟩ := r
      exact parts_call e1 hx.1 hx.2 hy.1 hy.2 HL HG H1 H3
  · have HG : ∀ W : World, Calls Tryd.prog 8 #[.slice sa xs.length sc] W fun e w' => e = .returned (.bool false) ∧ w' = W := fun W => by
      have h := light_any (ps := xs) (a := sa) sc W
      rwa [decide_eq_false hl] at h
    exact parts_heavy HL HG

end Go.Proofs.YtllnpkijojpccaaDoor
