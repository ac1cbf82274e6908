/- The reference's Step, operations by themselves (C). -/
import Derived.Test.YtllnpkijojpccaaDoorRSt
namespace Go.Proofs.YtllnpkijojpccaaDoor
open Go Go.RowKit Go.Shelf

set_option maxRecDepth 100000 in
set_option maxHeartbeats 4000000 in
theorem rs_5y {w : World} {pg dp : Int} {rs : Nat → Int} {b o n cap k : Nat} {xa xb xc : Int} {d : Cx} {ga gb : Int} (hc : ga < gb) (hk : k < n) (hn : n ≤ 64) (hq : At4 w b (o + k * 4) (5, xa, xb, xc))
    (HW : ∀ W : World, Below w.heap.size w W → Calls Tryd.prog 19 #[.slice (some ⟨b, o, none⟩) n cap] W fun e w' => e = .returned (.bool true) ∧ Below W.heap.size W w')
    (HA : ∀ W : World, Calls Tryd.prog 23 #[.agg #[.int .i64 pg, .int .i64 (k : Int), .int .i64 (rs 0), .int .i64 (rs 1), .int .i64 (rs 2), .int .i64 (rs 3), .int .i64 (rs 4), .int .i64 (rs 5), .int .i64 (rs 6), .int .i64 (rs 7), .int .i64 dp], .int .i64 xb] W fun e w' => e = .returned (.int .i64 ga) ∧ Below W.heap.size W w')
    (HB : ∀ W : World, Calls Tryd.prog 23 #[.agg #[.int .i64 pg, .int .i64 (k : Int), .int .i64 (rs 0), .int .i64 (rs 1), .int .i64 (rs 2), .int .i64 (rs 3), .int .i64 (rs 4), .int .i64 (rs 5), .int .i64 (rs 6), .int .i64 (rs 7), .int .i64 dp], .int .i64 xc] W fun e w' => e = .returned (.int .i64 gb) ∧ Below W.heap.size W w')
    (HP : ∀ W : World, Calls Tryd.prog 22 #[.agg #[.int .i64 pg, .int .i64 ((k : Int) + 1), .int .i64 (rs 0), .int .i64 (rs 1), .int .i64 (rs 2), .int .i64 (rs 3), .int .i64 (rs 4), .int .i64 (rs 5), .int .i64 (rs 6), .int .i64 (rs 7), .int .i64 dp], .int .i64 xa, .int .i64 1] W fun e w' => e = .returned (.agg #[.int .i64 d.pg, .int .i64 d.pc, .int .i64 (d.rs 0), .int .i64 (d.rs 1), .int .i64 (d.rs 2), .int .i64 (d.rs 3), .int .i64 (d.rs 4), .int .i64 (d.rs 5), .int .i64 (d.rs 6), .int .i64 (d.rs 7), .int .i64 d.dp]) ∧ Below W.heap.size W w')
    : Calls Tryd.prog 11 #[.slice (some ⟨b, o, none⟩) n cap, .agg #[.int .i64 pg, .int .i64 (k : Int), .int .i64 (rs 0), .int .i64 (rs 1), .int .i64 (rs 2), .int .i64 (rs 3), .int .i64 (rs 4), .int .i64 (rs 5), .int .i64 (rs 6), .int .i64 (rs 7), .int .i64 dp]] w fun e w' => e = .returned (.tuple #[.agg (cxA (d)), .agg (insC (z4))]) ∧ Below w.heap.size w w' := by
  have hmx := mixed
  have k0 : (0 : Int) ≤ (k : Int) := by omega
  have k1 : (k : Int) < (n : Int) := by omega
  have k2 : (k : Int) < 64 := by omega
  have eW : ∀ W : World, W = ((w.alloc (.cells #[.int .i64 pg, .int .i64 (k : Int), .int .i64 (rs 0), .int .i64 (rs 1), .int .i64 (rs 2), .int .i64 (rs 3), .int .i64 (rs 4), .int .i64 (rs 5), .int .i64 (rs 6), .int .i64 (rs 7), .int .i64 dp] 26)).alloc (.cells #[.int .i64 0, .int .i64 0, .int .i64 0, .int .i64 0, .int .i64 0, .int .i64 0, .int .i64 0, .int .i64 0, .int .i64 0, .int .i64 0, .int .i64 0] 26)).alloc (.cells #[.int .i64 0, .int .i64 0, .int .i64 0, .int .i64 0] 33) → Cel W (w.heap.size) #[.int .i64 pg, .int .i64 (k : Int), .int .i64 (rs 0), .int .i64 (rs 1), .int .i64 (rs 2), .int .i64 (rs 3), .int .i64 (rs 4), .int .i64 (rs 5), .int .i64 (rs 6), .int .i64 (rs 7), .int .i64 dp] 26 ∧ Cel W (w.heap.size + 1) #[.int .i64 0, .int .i64 0, .int .i64 0, .int .i64 0, .int .i64 0, .int .i64 0, .int .i64 0, .int .i64 0, .int .i64 0, .int .i64 0, .int .i64 0] 26 ∧ Cel W (w.heap.size + 1 + 1) #[.int .i64 0, .int .i64 0, .int .i64 0, .int .i64 0] 33 ∧ Below w.heap.size w W ∧ W.heap.size = w.heap.size + 1 + 1 + 1 := by
    rintro W rfl
    refine ⟨((Cel.new w _ 26).put (Below.heap_alloc _ _ _ (by simp))).put (Below.heap_alloc _ _ _ (by simp; omega)), ?_, ?_, (((Below.refl _ w).alloc (Nat.le_refl _) _).alloc (by simp) _).alloc (by simp; omega) _, by simp⟩
    · have h := Cel.new (w.alloc (.cells #[.int .i64 pg, .int .i64 (k : Int), .int .i64 (rs 0), .int .i64 (rs 1), .int .i64 (rs 2), .int .i64 (rs 3), .int .i64 (rs 4), .int .i64 (rs 5), .int .i64 (rs 6), .int .i64 (rs 7), .int .i64 dp] 26)) #[.int .i64 0, .int .i64 0, .int .i64 0, .int .i64 0, .int .i64 0, .int .i64 0, .int .i64 0, .int .i64 0, .int .i64 0, .int .i64 0, .int .i64 0] 26
      rw [World.size_alloc] at h
      exact h.put (Below.heap_alloc _ _ _ (by simp))
    · have h := Cel.new ((w.alloc (.cells #[.int .i64 pg, .int .i64 (k : Int), .int .i64 (rs 0), .int .i64 (rs 1), .int .i64 (rs 2), .int .i64 (rs 3), .int .i64 (rs 4), .int .i64 (rs 5), .int .i64 (rs 6), .int .i64 (rs 7), .int .i64 dp] 26)).alloc (.cells #[.int .i64 0, .int .i64 0, .int .i64 0, .int .i64 0, .int .i64 0, .int .i64 0, .int .i64 0, .int .i64 0, .int .i64 0, .int .i64 0, .int .i64 0] 26)) #[.int .i64 0, .int .i64 0, .int .i64 0, .int .i64 0] 33
      rw [World.size_alloc, World.size_alloc] at h
      exact h
  obtain ⟨hC, hZ, hQ, hB, hsz⟩ := eW _ rfl
  clear eW
  go_enter Tryd.func11, Tryd.ntmps11
  go_upto_region 1 with fail
  generalize ((w.alloc (.cells #[.int .i64 pg, .int .i64 (k : Int), .int .i64 (rs 0), .int .i64 (rs 1), .int .i64 (rs 2), .int .i64 (rs 3), .int .i64 (rs 4), .int .i64 (rs 5), .int .i64 (rs 6), .int .i64 (rs 7), .int .i64 dp] 26)).alloc (.cells #[.int .i64 0, .int .i64 0, .int .i64 0, .int .i64 0, .int .i64 0, .int .i64 0, .int .i64 0, .int .i64 0, .int .i64 0, .int .i64 0, .int .i64 0] 26)).alloc (.cells #[.int .i64 0, .int .i64 0, .int .i64 0, .int .i64 0] 33) = W at *
  have p1 : W.cell? ⟨w.heap.size, 1, none⟩ = some (.int .i64 (k : Int)) := hC.cell rfl
  go_upto_region 3 with (go_at_call 19; (refine (HW W hB).mono ?_); rintro e W1 ⟨rfl, hb1⟩)
  have hlt1 := hb1.size
  replace hC := hC.below hb1
  replace hZ := hZ.below hb1
  replace hQ := hQ.below hb1
  replace hB : Below w.heap.size w W1 := hB.trans (hb1.mono hB.size)
  replace hq := hq.below hB
  obtain ⟨i0, i1, i2, i3⟩ := hq
  clear p1 hb1 HW
  have p1 : W1.cell? ⟨w.heap.size, 1, none⟩ = some (.int .i64 (k : Int)) := hC.cell rfl
  go_upto_region 4 with fail
  have hb2 : Below W1.heap.size W1 (W1.alloc (.cells #[.int .i64 5, .int .i64 xa, .int .i64 xb, .int .i64 xc] 51)) := (Below.refl _ W1).alloc (Nat.le_refl _) _
  replace hC := hC.below hb2
  replace hZ := hZ.below hb2
  replace hQ := hQ.below hb2
  replace hB := hB.trans (hb2.mono hB.size)
  have hX := Cel.new W1 #[.int .i64 5, .int .i64 xa, .int .i64 xb, .int .i64 xc] 51
  have hsU : (W1.alloc (.cells #[.int .i64 5, .int .i64 xa, .int .i64 xb, .int .i64 xc] 51)).heap.size = W1.heap.size + 1 := by simp
  have hlD : w.heap.size + 1 + 1 < W1.heap.size := by omega
  clear hb2 hsz hlt1 i0 i1 i2 i3 p1
  generalize W1.alloc (.cells #[.int .i64 5, .int .i64 xa, .int .i64 xb, .int .i64 xc] 51) = U at *
  generalize W1.heap.size = D at *
  have cx0 : U.cell? ⟨w.heap.size, 0, none⟩ = some (.int .i64 pg) := hC.cell rfl
  have cx1 : U.cell? ⟨w.heap.size, 1, none⟩ = some (.int .i64 (k : Int)) := hC.cell rfl
  have cx2 : U.cell? ⟨w.heap.size, 2, none⟩ = some (.int .i64 (rs 0)) := hC.cell rfl
  have cx3 : U.cell? ⟨w.heap.size, 3, none⟩ = some (.int .i64 (rs 1)) := hC.cell rfl
  have cx4 : U.cell? ⟨w.heap.size, 4, none⟩ = some (.int .i64 (rs 2)) := hC.cell rfl
  have cx5 : U.cell? ⟨w.heap.size, 5, none⟩ = some (.int .i64 (rs 3)) := hC.cell rfl
  have cx6 : U.cell? ⟨w.heap.size, 6, none⟩ = some (.int .i64 (rs 4)) := hC.cell rfl
  have cx7 : U.cell? ⟨w.heap.size, 7, none⟩ = some (.int .i64 (rs 5)) := hC.cell rfl
  have cx8 : U.cell? ⟨w.heap.size, 8, none⟩ = some (.int .i64 (rs 6)) := hC.cell rfl
  have cx9 : U.cell? ⟨w.heap.size, 9, none⟩ = some (.int .i64 (rs 7)) := hC.cell rfl
  have cx10 : U.cell? ⟨w.heap.size, 10, none⟩ = some (.int .i64 dp) := hC.cell rfl
  go_upto_region 6 with fail
  have eV : ∀ V : World, V = U.alloc (.cells #[.int .i64 pg, .int .i64 ((k : Int) + 1), .int .i64 (rs 0), .int .i64 (rs 1), .int .i64 (rs 2), .int .i64 (rs 3), .int .i64 (rs 4), .int .i64 (rs 5), .int .i64 (rs 6), .int .i64 (rs 7), .int .i64 dp] 26) → RS w D (⟨pg, (k : Int), rs, dp⟩ : Cx) (⟨pg, (k : Int) + 1, rs, dp⟩ : Cx) (5, xa, xb, xc) V := by
    rintro V rfl
    have hb2 : Below U.heap.size U (U.alloc (.cells #[.int .i64 pg, .int .i64 ((k : Int) + 1), .int .i64 (rs 0), .int .i64 (rs 1), .int .i64 (rs 2), .int .i64 (rs 3), .int .i64 (rs 4), .int .i64 (rs 5), .int .i64 (rs 6), .int .i64 (rs 7), .int .i64 dp] 26)) := (Below.refl _ U).alloc (Nat.le_refl _) _
    refine ⟨hC.below hb2, hZ.below hb2, hQ.below hb2, hX.below hb2, ?_, hB.trans (hb2.mono hB.size), hlD⟩
    have h := Cel.new U #[.int .i64 pg, .int .i64 ((k : Int) + 1), .int .i64 (rs 0), .int .i64 (rs 1), .int .i64 (rs 2), .int .i64 (rs 3), .int .i64 (rs 4), .int .i64 (rs 5), .int .i64 (rs 6), .int .i64 (rs 7), .int .i64 dp] 26
    rw [hsU] at h
    exact h
  have hR := eV _ rfl
  clear eV hC hZ hQ hB hX cx0 cx1 cx2 cx3 cx4 cx5 cx6 cx7 cx8 cx9 cx10
  generalize U.alloc (.cells #[.int .i64 pg, .int .i64 ((k : Int) + 1), .int .i64 (rs 0), .int .i64 (rs 1), .int .i64 (rs 2), .int .i64 (rs 3), .int .i64 (rs 4), .int .i64 (rs 5), .int .i64 (rs 6), .int .i64 (rs 7), .int .i64 dp] 26) = V at *
  have x0 : V.cell? ⟨D, 0, none⟩ = some (.int .i64 5) := hR.x.cell rfl
  go_upto_region 19 with fail
  have x1 : ∀ z : Wd (RS w D (⟨pg, (k : Int), rs, dp⟩ : Cx) (⟨pg, (k : Int) + 1, rs, dp⟩ : Cx) (5, xa, xb, xc)), z.W.cell? ⟨D, 1, none⟩ = some (.int .i64 xa) := fun z => z.ok.x.cell rfl
  have x2 : ∀ z : Wd (RS w D (⟨pg, (k : Int), rs, dp⟩ : Cx) (⟨pg, (k : Int) + 1, rs, dp⟩ : Cx) (5, xa, xb, xc)), z.W.cell? ⟨D, 2, none⟩ = some (.int .i64 xb) := fun z => z.ok.x.cell rfl
  have x3 : ∀ z : Wd (RS w D (⟨pg, (k : Int), rs, dp⟩ : Cx) (⟨pg, (k : Int) + 1, rs, dp⟩ : Cx) (5, xa, xb, xc)), z.W.cell? ⟨D, 3, none⟩ = some (.int .i64 xc) := fun z => z.ok.x.cell rfl
  have o0 : ∀ z : Wd (RS w D (⟨pg, (k : Int), rs, dp⟩ : Cx) (⟨pg, (k : Int) + 1, rs, dp⟩ : Cx) (5, xa, xb, xc)), z.W.cell? ⟨D + 1, 0, none⟩ = some (.int .i64 pg) := fun z => z.ok.o.cell rfl
  have o1 : ∀ z : Wd (RS w D (⟨pg, (k : Int), rs, dp⟩ : Cx) (⟨pg, (k : Int) + 1, rs, dp⟩ : Cx) (5, xa, xb, xc)), z.W.cell? ⟨D + 1, 1, none⟩ = some (.int .i64 ((k : Int) + 1)) := fun z => z.ok.o.cell rfl
  have o2 : ∀ z : Wd (RS w D (⟨pg, (k : Int), rs, dp⟩ : Cx) (⟨pg, (k : Int) + 1, rs, dp⟩ : Cx) (5, xa, xb, xc)), z.W.cell? ⟨D + 1, 2, none⟩ = some (.int .i64 (rs 0)) := fun z => z.ok.o.cell rfl
  have o3 : ∀ z : Wd (RS w D (⟨pg, (k : Int), rs, dp⟩ : Cx) (⟨pg, (k : Int) + 1, rs, dp⟩ : Cx) (5, xa, xb, xc)), z.W.cell? ⟨D + 1, 3, none⟩ = some (.int .i64 (rs 1)) := fun z => z.ok.o.cell rfl
  have o4 : ∀ z : Wd (RS w D (⟨pg, (k : Int), rs, dp⟩ : Cx) (⟨pg, (k : Int) + 1, rs, dp⟩ : Cx) (5, xa, xb, xc)), z.W.cell? ⟨D + 1, 4, none⟩ = some (.int .i64 (rs 2)) := fun z => z.ok.o.cell rfl
  have o5 : ∀ z : Wd (RS w D (⟨pg, (k : Int), rs, dp⟩ : Cx) (⟨pg, (k : Int) + 1, rs, dp⟩ : Cx) (5, xa, xb, xc)), z.W.cell? ⟨D + 1, 5, none⟩ = some (.int .i64 (rs 3)) := fun z => z.ok.o.cell rfl
  have o6 : ∀ z : Wd (RS w D (⟨pg, (k : Int), rs, dp⟩ : Cx) (⟨pg, (k : Int) + 1, rs, dp⟩ : Cx) (5, xa, xb, xc)), z.W.cell? ⟨D + 1, 6, none⟩ = some (.int .i64 (rs 4)) := fun z => z.ok.o.cell rfl
  have o7 : ∀ z : Wd (RS w D (⟨pg, (k : Int), rs, dp⟩ : Cx) (⟨pg, (k : Int) + 1, rs, dp⟩ : Cx) (5, xa, xb, xc)), z.W.cell? ⟨D + 1, 7, none⟩ = some (.int .i64 (rs 5)) := fun z => z.ok.o.cell rfl
  have o8 : ∀ z : Wd (RS w D (⟨pg, (k : Int), rs, dp⟩ : Cx) (⟨pg, (k : Int) + 1, rs, dp⟩ : Cx) (5, xa, xb, xc)), z.W.cell? ⟨D + 1, 8, none⟩ = some (.int .i64 (rs 6)) := fun z => z.ok.o.cell rfl
  have o9 : ∀ z : Wd (RS w D (⟨pg, (k : Int), rs, dp⟩ : Cx) (⟨pg, (k : Int) + 1, rs, dp⟩ : Cx) (5, xa, xb, xc)), z.W.cell? ⟨D + 1, 9, none⟩ = some (.int .i64 (rs 7)) := fun z => z.ok.o.cell rfl
  have o10 : ∀ z : Wd (RS w D (⟨pg, (k : Int), rs, dp⟩ : Cx) (⟨pg, (k : Int) + 1, rs, dp⟩ : Cx) (5, xa, xb, xc)), z.W.cell? ⟨D + 1, 10, none⟩ = some (.int .i64 dp) := fun z => z.ok.o.cell rfl
  have g0 : ∀ z : Wd (RS w D (⟨pg, (k : Int), rs, dp⟩ : Cx) (⟨pg, (k : Int) + 1, rs, dp⟩ : Cx) (5, xa, xb, xc)), z.W.frozen? ⟨D + 1, 0, none⟩ = false := fun z => z.ok.o.fz 0
  have g1 : ∀ z : Wd (RS w D (⟨pg, (k : Int), rs, dp⟩ : Cx) (⟨pg, (k : Int) + 1, rs, dp⟩ : Cx) (5, xa, xb, xc)), z.W.frozen? ⟨D + 1, 1, none⟩ = false := fun z => z.ok.o.fz 1
  have g2 : ∀ z : Wd (RS w D (⟨pg, (k : Int), rs, dp⟩ : Cx) (⟨pg, (k : Int) + 1, rs, dp⟩ : Cx) (5, xa, xb, xc)), z.W.frozen? ⟨D + 1, 2, none⟩ = false := fun z => z.ok.o.fz 2
  have g3 : ∀ z : Wd (RS w D (⟨pg, (k : Int), rs, dp⟩ : Cx) (⟨pg, (k : Int) + 1, rs, dp⟩ : Cx) (5, xa, xb, xc)), z.W.frozen? ⟨D + 1, 3, none⟩ = false := fun z => z.ok.o.fz 3
  have g4 : ∀ z : Wd (RS w D (⟨pg, (k : Int), rs, dp⟩ : Cx) (⟨pg, (k : Int) + 1, rs, dp⟩ : Cx) (5, xa, xb, xc)), z.W.frozen? ⟨D + 1, 4, none⟩ = false := fun z => z.ok.o.fz 4
  have g5 : ∀ z : Wd (RS w D (⟨pg, (k : Int), rs, dp⟩ : Cx) (⟨pg, (k : Int) + 1, rs, dp⟩ : Cx) (5, xa, xb, xc)), z.W.frozen? ⟨D + 1, 5, none⟩ = false := fun z => z.ok.o.fz 5
  have g6 : ∀ z : Wd (RS w D (⟨pg, (k : Int), rs, dp⟩ : Cx) (⟨pg, (k : Int) + 1, rs, dp⟩ : Cx) (5, xa, xb, xc)), z.W.frozen? ⟨D + 1, 6, none⟩ = false := fun z => z.ok.o.fz 6
  have g7 : ∀ z : Wd (RS w D (⟨pg, (k : Int), rs, dp⟩ : Cx) (⟨pg, (k : Int) + 1, rs, dp⟩ : Cx) (5, xa, xb, xc)), z.W.frozen? ⟨D + 1, 7, none⟩ = false := fun z => z.ok.o.fz 7
  have g8 : ∀ z : Wd (RS w D (⟨pg, (k : Int), rs, dp⟩ : Cx) (⟨pg, (k : Int) + 1, rs, dp⟩ : Cx) (5, xa, xb, xc)), z.W.frozen? ⟨D + 1, 8, none⟩ = false := fun z => z.ok.o.fz 8
  have g9 : ∀ z : Wd (RS w D (⟨pg, (k : Int), rs, dp⟩ : Cx) (⟨pg, (k : Int) + 1, rs, dp⟩ : Cx) (5, xa, xb, xc)), z.W.frozen? ⟨D + 1, 9, none⟩ = false := fun z => z.ok.o.fz 9
  have g10 : ∀ z : Wd (RS w D (⟨pg, (k : Int), rs, dp⟩ : Cx) (⟨pg, (k : Int) + 1, rs, dp⟩ : Cx) (5, xa, xb, xc)), z.W.frozen? ⟨D + 1, 10, none⟩ = false := fun z => z.ok.o.fz 10
  have c0 : ∀ z : Wd (RS w D (⟨pg, (k : Int), rs, dp⟩ : Cx) (⟨pg, (k : Int) + 1, rs, dp⟩ : Cx) (5, xa, xb, xc)), z.W.cell? ⟨w.heap.size, 0, none⟩ = some (.int .i64 pg) := fun z => z.ok.c.cell rfl
  have c1 : ∀ z : Wd (RS w D (⟨pg, (k : Int), rs, dp⟩ : Cx) (⟨pg, (k : Int) + 1, rs, dp⟩ : Cx) (5, xa, xb, xc)), z.W.cell? ⟨w.heap.size, 1, none⟩ = some (.int .i64 (k : Int)) := fun z => z.ok.c.cell rfl
  have c2 : ∀ z : Wd (RS w D (⟨pg, (k : Int), rs, dp⟩ : Cx) (⟨pg, (k : Int) + 1, rs, dp⟩ : Cx) (5, xa, xb, xc)), z.W.cell? ⟨w.heap.size, 2, none⟩ = some (.int .i64 (rs 0)) := fun z => z.ok.c.cell rfl
  have c3 : ∀ z : Wd (RS w D (⟨pg, (k : Int), rs, dp⟩ : Cx) (⟨pg, (k : Int) + 1, rs, dp⟩ : Cx) (5, xa, xb, xc)), z.W.cell? ⟨w.heap.size, 3, none⟩ = some (.int .i64 (rs 1)) := fun z => z.ok.c.cell rfl
  have c4 : ∀ z : Wd (RS w D (⟨pg, (k : Int), rs, dp⟩ : Cx) (⟨pg, (k : Int) + 1, rs, dp⟩ : Cx) (5, xa, xb, xc)), z.W.cell? ⟨w.heap.size, 4, none⟩ = some (.int .i64 (rs 2)) := fun z => z.ok.c.cell rfl
  have c5 : ∀ z : Wd (RS w D (⟨pg, (k : Int), rs, dp⟩ : Cx) (⟨pg, (k : Int) + 1, rs, dp⟩ : Cx) (5, xa, xb, xc)), z.W.cell? ⟨w.heap.size, 5, none⟩ = some (.int .i64 (rs 3)) := fun z => z.ok.c.cell rfl
  have c6 : ∀ z : Wd (RS w D (⟨pg, (k : Int), rs, dp⟩ : Cx) (⟨pg, (k : Int) + 1, rs, dp⟩ : Cx) (5, xa, xb, xc)), z.W.cell? ⟨w.heap.size, 6, none⟩ = some (.int .i64 (rs 4)) := fun z => z.ok.c.cell rfl
  have c7 : ∀ z : Wd (RS w D (⟨pg, (k : Int), rs, dp⟩ : Cx) (⟨pg, (k : Int) + 1, rs, dp⟩ : Cx) (5, xa, xb, xc)), z.W.cell? ⟨w.heap.size, 7, none⟩ = some (.int .i64 (rs 5)) := fun z => z.ok.c.cell rfl
  have c8 : ∀ z : Wd (RS w D (⟨pg, (k : Int), rs, dp⟩ : Cx) (⟨pg, (k : Int) + 1, rs, dp⟩ : Cx) (5, xa, xb, xc)), z.W.cell? ⟨w.heap.size, 8, none⟩ = some (.int .i64 (rs 6)) := fun z => z.ok.c.cell rfl
  have c9 : ∀ z : Wd (RS w D (⟨pg, (k : Int), rs, dp⟩ : Cx) (⟨pg, (k : Int) + 1, rs, dp⟩ : Cx) (5, xa, xb, xc)), z.W.cell? ⟨w.heap.size, 9, none⟩ = some (.int .i64 (rs 7)) := fun z => z.ok.c.cell rfl
  have c10 : ∀ z : Wd (RS w D (⟨pg, (k : Int), rs, dp⟩ : Cx) (⟨pg, (k : Int) + 1, rs, dp⟩ : Cx) (5, xa, xb, xc)), z.W.cell? ⟨w.heap.size, 10, none⟩ = some (.int .i64 dp) := fun z => z.ok.c.cell rfl
  have JA := fun z : Wd (RS w D (⟨pg, (k : Int), rs, dp⟩ : Cx) (⟨pg, (k : Int) + 1, rs, dp⟩ : Cx) (5, xa, xb, xc)) => RS.call z (HA z.W)
  have JB := fun z : Wd (RS w D (⟨pg, (k : Int), rs, dp⟩ : Cx) (⟨pg, (k : Int) + 1, rs, dp⟩ : Cx) (5, xa, xb, xc)) => RS.call z (HB z.W)
  clear HA HB
  haveI : Nonempty (Wd (RS w D (⟨pg, (k : Int), rs, dp⟩ : Cx) (⟨pg, (k : Int) + 1, rs, dp⟩ : Cx) (5, xa, xb, xc))) := ⟨⟨V, hR⟩⟩
  refine wp_region_tail (fun w' => ∃ z : Wd (RS w D (⟨pg, (k : Int), rs, dp⟩ : Cx) (⟨pg, (k : Int) + 1, rs, dp⟩ : Cx) (5, xa, xb, xc)), w' = z.W) hmx (by kernel_rfl) (by kernel_rfl) rfl ⟨⟨V.drew, hR.on (Below.refl _ V).drew⟩, rfl⟩ ?_
  show wpQuiet _ _ _ _ (_ :: _ :: _ :: _ :: _ :: _ :: _ :: _ :: []) _
  repeat (go_big_quiet_step (first | (go_at_call 23; with_reducible exact JA _) | (go_at_call 23; with_reducible exact JB _)))
  refine wpQuiet_nil ?_
  rintro _ ⟨z, rfl⟩
  go_upto_region 21 with fail
  have hR := z.ok
  clear o0 o1 o2 o3 o4 o5 o6 o7 o8 o9 o10 g0 g1 g2 g3 g4 g5 g6 g7 g8 g9 g10 x0 x1 x2 x3 c0 c1 c2 c3 c4 c5 c6 c7 c8 c9 c10
  generalize z.W = V3 at *
  have o0 : V3.cell? ⟨D + 1, 0, none⟩ = some (.int .i64 pg) := hR.o.cell rfl
  have o1 : V3.cell? ⟨D + 1, 1, none⟩ = some (.int .i64 ((k : Int) + 1)) := hR.o.cell rfl
  have o2 : V3.cell? ⟨D + 1, 2, none⟩ = some (.int .i64 (rs 0)) := hR.o.cell rfl
  have o3 : V3.cell? ⟨D + 1, 3, none⟩ = some (.int .i64 (rs 1)) := hR.o.cell rfl
  have o4 : V3.cell? ⟨D + 1, 4, none⟩ = some (.int .i64 (rs 2)) := hR.o.cell rfl
  have o5 : V3.cell? ⟨D + 1, 5, none⟩ = some (.int .i64 (rs 3)) := hR.o.cell rfl
  have o6 : V3.cell? ⟨D + 1, 6, none⟩ = some (.int .i64 (rs 4)) := hR.o.cell rfl
  have o7 : V3.cell? ⟨D + 1, 7, none⟩ = some (.int .i64 (rs 5)) := hR.o.cell rfl
  have o8 : V3.cell? ⟨D + 1, 8, none⟩ = some (.int .i64 (rs 6)) := hR.o.cell rfl
  have o9 : V3.cell? ⟨D + 1, 9, none⟩ = some (.int .i64 (rs 7)) := hR.o.cell rfl
  have o10 : V3.cell? ⟨D + 1, 10, none⟩ = some (.int .i64 dp) := hR.o.cell rfl
  have x1 : V3.cell? ⟨D, 1, none⟩ = some (.int .i64 xa) := hR.x.cell rfl
  go_upto_region 40 with (go_at_call 22; (refine (HP V3).mono ?_); rintro e W2 ⟨rfl, hb2⟩; have hR2 := hR.on hb2; have o0 : W2.cell? ⟨D + 1, 0, none⟩ = some (.int .i64 pg) := hR2.o.cell rfl; have o1 : W2.cell? ⟨D + 1, 1, none⟩ = some (.int .i64 ((k : Int) + 1)) := hR2.o.cell rfl; have o2 : W2.cell? ⟨D + 1, 2, none⟩ = some (.int .i64 (rs 0)) := hR2.o.cell rfl; have o3 : W2.cell? ⟨D + 1, 3, none⟩ = some (.int .i64 (rs 1)) := hR2.o.cell rfl; have o4 : W2.cell? ⟨D + 1, 4, none⟩ = some (.int .i64 (rs 2)) := hR2.o.cell rfl; have o5 : W2.cell? ⟨D + 1, 5, none⟩ = some (.int .i64 (rs 3)) := hR2.o.cell rfl; have o6 : W2.cell? ⟨D + 1, 6, none⟩ = some (.int .i64 (rs 4)) := hR2.o.cell rfl; have o7 : W2.cell? ⟨D + 1, 7, none⟩ = some (.int .i64 (rs 5)) := hR2.o.cell rfl; have o8 : W2.cell? ⟨D + 1, 8, none⟩ = some (.int .i64 (rs 6)) := hR2.o.cell rfl; have o9 : W2.cell? ⟨D + 1, 9, none⟩ = some (.int .i64 (rs 7)) := hR2.o.cell rfl; have o10 : W2.cell? ⟨D + 1, 10, none⟩ = some (.int .i64 dp) := hR2.o.cell rfl; have g0 : W2.frozen? ⟨D + 1, 0, none⟩ = false := hR2.o.fz 0; have g1 : W2.frozen? ⟨D + 1, 1, none⟩ = false := hR2.o.fz 1; have g2 : W2.frozen? ⟨D + 1, 2, none⟩ = false := hR2.o.fz 2; have g3 : W2.frozen? ⟨D + 1, 3, none⟩ = false := hR2.o.fz 3; have g4 : W2.frozen? ⟨D + 1, 4, none⟩ = false := hR2.o.fz 4; have g5 : W2.frozen? ⟨D + 1, 5, none⟩ = false := hR2.o.fz 5; have g6 : W2.frozen? ⟨D + 1, 6, none⟩ = false := hR2.o.fz 6; have g7 : W2.frozen? ⟨D + 1, 7, none⟩ = false := hR2.o.fz 7; have g8 : W2.frozen? ⟨D + 1, 8, none⟩ = false := hR2.o.fz 8; have g9 : W2.frozen? ⟨D + 1, 9, none⟩ = false := hR2.o.fz 9; have g10 : W2.frozen? ⟨D + 1, 10, none⟩ = false := hR2.o.fz 10)
  have hS := hR2.store d
  clear hR hR2 hb2 HP
  clear o0 o1 o2 o3 o4 o5 o6 o7 o8 o9 o10 g0 g1 g2 g3 g4 g5 g6 g7 g8 g9 g10 x1
  generalize (((((((((((W2.setCell ⟨D + 1, 0, none⟩ (.int .i64 d.pg)).setCell ⟨D + 1, 1, none⟩ (.int .i64 d.pc)).setCell ⟨D + 1, 2, none⟩ (.int .i64 (d.rs 0))).setCell ⟨D + 1, 3, none⟩ (.int .i64 (d.rs 1))).setCell ⟨D + 1, 4, none⟩ (.int .i64 (d.rs 2))).setCell ⟨D + 1, 5, none⟩ (.int .i64 (d.rs 3))).setCell ⟨D + 1, 6, none⟩ (.int .i64 (d.rs 4))).setCell ⟨D + 1, 7, none⟩ (.int .i64 (d.rs 5))).setCell ⟨D + 1, 8, none⟩ (.int .i64 (d.rs 6))).setCell ⟨D + 1, 9, none⟩ (.int .i64 (d.rs 7))).setCell ⟨D + 1, 10, none⟩ (.int .i64 d.dp)) = V2 at *
  have o0 : V2.cell? ⟨D + 1, 0, none⟩ = some (.int .i64 d.pg) := hS.o.cell rfl
  have o1 : V2.cell? ⟨D + 1, 1, none⟩ = some (.int .i64 d.pc) := hS.o.cell rfl
  have o2 : V2.cell? ⟨D + 1, 2, none⟩ = some (.int .i64 (d.rs 0)) := hS.o.cell rfl
  have o3 : V2.cell? ⟨D + 1, 3, none⟩ = some (.int .i64 (d.rs 1)) := hS.o.cell rfl
  have o4 : V2.cell? ⟨D + 1, 4, none⟩ = some (.int .i64 (d.rs 2)) := hS.o.cell rfl
  have o5 : V2.cell? ⟨D + 1, 5, none⟩ = some (.int .i64 (d.rs 3)) := hS.o.cell rfl
  have o6 : V2.cell? ⟨D + 1, 6, none⟩ = some (.int .i64 (d.rs 4)) := hS.o.cell rfl
  have o7 : V2.cell? ⟨D + 1, 7, none⟩ = some (.int .i64 (d.rs 5)) := hS.o.cell rfl
  have o8 : V2.cell? ⟨D + 1, 8, none⟩ = some (.int .i64 (d.rs 6)) := hS.o.cell rfl
  have o9 : V2.cell? ⟨D + 1, 9, none⟩ = some (.int .i64 (d.rs 7)) := hS.o.cell rfl
  have o10 : V2.cell? ⟨D + 1, 10, none⟩ = some (.int .i64 d.dp) := hS.o.cell rfl
  have zz0 : V2.cell? ⟨w.heap.size + 1, 0, none⟩ = some (.int .i64 0) := hS.r.cell rfl
  have zz1 : V2.cell? ⟨w.heap.size + 1, 1, none⟩ = some (.int .i64 0) := hS.r.cell rfl
  have zz2 : V2.cell? ⟨w.heap.size + 1, 2, none⟩ = some (.int .i64 0) := hS.r.cell rfl
  have zz3 : V2.cell? ⟨w.heap.size + 1, 3, none⟩ = some (.int .i64 0) := hS.r.cell rfl
  have zz4 : V2.cell? ⟨w.heap.size + 1, 4, none⟩ = some (.int .i64 0) := hS.r.cell rfl
  have zz5 : V2.cell? ⟨w.heap.size + 1, 5, none⟩ = some (.int .i64 0) := hS.r.cell rfl
  have zz6 : V2.cell? ⟨w.heap.size + 1, 6, none⟩ = some (.int .i64 0) := hS.r.cell rfl
  have zz7 : V2.cell? ⟨w.heap.size + 1, 7, none⟩ = some (.int .i64 0) := hS.r.cell rfl
  have zz8 : V2.cell? ⟨w.heap.size + 1, 8, none⟩ = some (.int .i64 0) := hS.r.cell rfl
  have zz9 : V2.cell? ⟨w.heap.size + 1, 9, none⟩ = some (.int .i64 0) := hS.r.cell rfl
  have zz10 : V2.cell? ⟨w.heap.size + 1, 10, none⟩ = some (.int .i64 0) := hS.r.cell rfl
  have f0 : V2.frozen? ⟨w.heap.size + 1, 0, none⟩ = false := hS.r.fz 0
  have f1 : V2.frozen? ⟨w.heap.size + 1, 1, none⟩ = false := hS.r.fz 1
  have f2 : V2.frozen? ⟨w.heap.size + 1, 2, none⟩ = false := hS.r.fz 2
  have f3 : V2.frozen? ⟨w.heap.size + 1, 3, none⟩ = false := hS.r.fz 3
  have f4 : V2.frozen? ⟨w.heap.size + 1, 4, none⟩ = false := hS.r.fz 4
  have f5 : V2.frozen? ⟨w.heap.size + 1, 5, none⟩ = false := hS.r.fz 5
  have f6 : V2.frozen? ⟨w.heap.size + 1, 6, none⟩ = false := hS.r.fz 6
  have f7 : V2.frozen? ⟨w.heap.size + 1, 7, none⟩ = false := hS.r.fz 7
  have f8 : V2.frozen? ⟨w.heap.size + 1, 8, none⟩ = false := hS.r.fz 8
  have f9 : V2.frozen? ⟨w.heap.size + 1, 9, none⟩ = false := hS.r.fz 9
  have f10 : V2.frozen? ⟨w.heap.size + 1, 10, none⟩ = false := hS.r.fz 10
  have u0 : V2.cell? ⟨w.heap.size + 1 + 1, 0, none⟩ = some (.int .i64 0) := hS.q.cell rfl
  have u1 : V2.cell? ⟨w.heap.size + 1 + 1, 1, none⟩ = some (.int .i64 0) := hS.q.cell rfl
  have u2 : V2.cell? ⟨w.heap.size + 1 + 1, 2, none⟩ = some (.int .i64 0) := hS.q.cell rfl
  have u3 : V2.cell? ⟨w.heap.size + 1 + 1, 3, none⟩ = some (.int .i64 0) := hS.q.cell rfl
  have e0 : V2.frozen? ⟨w.heap.size + 1 + 1, 0, none⟩ = false := hS.q.fz 0
  have e1 : V2.frozen? ⟨w.heap.size + 1 + 1, 1, none⟩ = false := hS.q.fz 1
  have e2 : V2.frozen? ⟨w.heap.size + 1 + 1, 2, none⟩ = false := hS.q.fz 2
  have e3 : V2.frozen? ⟨w.heap.size + 1 + 1, 3, none⟩ = false := hS.q.fz 3
  go_wp2_with fail
  have nS : w.heap.size + 1 ≠ w.heap.size + 1 + 1 := by omega
  refine bodyPost_ret (results_XR rfl _ _ (w.heap.size + 1) (w.heap.size + 1 + 1) (d) (z4) rfl rfl ?_ ?_) rfl ⟨rfl, ?_⟩
  · exact (Cel.over4 _ _ _ _ (Cel.fill11 _ _ _ _ _ _ _ _ _ _ _ hS.r) nS)
  · exact (Cel.fill4 _ _ _ _ (Cel.over11 _ _ _ _ _ _ _ _ _ _ _ hS.q nS.symm))
  · exact (below_fill4 _ _ _ _ (below_fill11 _ _ _ _ _ _ _ _ _ _ _ hS.b (Nat.le_refl _) (by omega)) (Nat.le_refl _) (by omega))

set_option maxRecDepth 100000 in
set_option maxHeartbeats 4000000 in
theorem rs_5n {w : World} {pg dp : Int} {rs : Nat → Int} {b o n cap k : Nat} {xa xb xc : Int} {d : Cx} {ga gb : Int} (hc : ¬ ga < gb) (hk : k < n) (hn : n ≤ 64) (hq : At4 w b (o + k * 4) (5, xa, xb, xc))
    (HW : ∀ W : World, Below w.heap.size w W → Calls Tryd.prog 19 #[.slice (some ⟨b, o, none⟩) n cap] W fun e w' => e = .returned (.bool true) ∧ Below W.heap.size W w')
    (HA : ∀ W : World, Calls Tryd.prog 23 #[.agg #[.int .i64 pg, .int .i64 (k : Int), .int .i64 (rs 0), .int .i64 (rs 1), .int .i64 (rs 2), .int .i64 (rs 3), .int .i64 (rs 4), .int .i64 (rs 5), .int .i64 (rs 6), .int .i64 (rs 7), .int .i64 dp], .int .i64 xb] W fun e w' => e = .returned (.int .i64 ga) ∧ Below W.heap.size W w')
    (HB : ∀ W : World, Calls Tryd.prog 23 #[.agg #[.int .i64 pg, .int .i64 (k : Int), .int .i64 (rs 0), .int .i64 (rs 1), .int .i64 (rs 2), .int .i64 (rs 3), .int .i64 (rs 4), .int .i64 (rs 5), .int .i64 (rs 6), .int .i64 (rs 7), .int .i64 dp], .int .i64 xc] W fun e w' => e = .returned (.int .i64 gb) ∧ Below W.heap.size W w')
    (HP : ∀ W : World, Calls Tryd.prog 22 #[.agg #[.int .i64 pg, .int .i64 ((k : Int) + 1), .int .i64 (rs 0), .int .i64 (rs 1), .int .i64 (rs 2), .int .i64 (rs 3), .int .i64 (rs 4), .int .i64 (rs 5), .int .i64 (rs 6), .int .i64 (rs 7), .int .i64 dp], .int .i64 xa, .int .i64 0] W fun e w' => e = .returned (.agg #[.int .i64 d.pg, .int .i64 d.pc, .int .i64 (d.rs 0), .int .i64 (d.rs 1), .int .i64 (d.rs 2), .int .i64 (d.rs 3), .int .i64 (d.rs 4), .int .i64 (d.rs 5), .int .i64 (d.rs 6), .int .i64 (d.rs 7), .int .i64 d.dp]) ∧ Below W.heap.size W w')
    : Calls Tryd.prog 11 #[.slice (some ⟨b, o, none⟩) n cap, .agg #[.int .i64 pg, .int .i64 (k : Int), .int .i64 (rs 0), .int .i64 (rs 1), .int .i64 (rs 2), .int .i64 (rs 3), .int .i64 (rs 4), .int .i64 (rs 5), .int .i64 (rs 6), .int .i64 (rs 7), .int .i64 dp]] w fun e w' => e = .returned (.tuple #[.agg (cxA (d)), .agg (insC (z4))]) ∧ Below w.heap.size w w' := by
  have hmx := mixed
  have k0 : (0 : Int) ≤ (k : Int) := by omega
  have k1 : (k : Int) < (n : Int) := by omega
  have k2 : (k : Int) < 64 := by omega
  have eW : ∀ W : World, W = ((w.alloc (.cells #[.int .i64 pg, .int .i64 (k : Int), .int .i64 (rs 0), .int .i64 (rs 1), .int .i64 (rs 2), .int .i64 (rs 3), .int .i64 (rs 4), .int .i64 (rs 5), .int .i64 (rs 6), .int .i64 (rs 7), .int .i64 dp] 26)).alloc (.cells #[.int .i64 0, .int .i64 0, .int .i64 0, .int .i64 0, .int .i64 0, .int .i64 0, .int .i64 0, .int .i64 0, .int .i64 0, .int .i64 0, .int .i64 0] 26)).alloc (.cells #[.int .i64 0, .int .i64 0, .int .i64 0, .int .i64 0] 33) → Cel W (w.heap.size) #[.int .i64 pg, .int .i64 (k : Int), .int .i64 (rs 0), .int .i64 (rs 1), .int .i64 (rs 2), .int .i64 (rs 3), .int .i64 (rs 4), .int .i64 (rs 5), .int .i64 (rs 6), .int .i64 (rs 7), .int .i64 dp] 26 ∧ Cel W (w.heap.size + 1) #[.int .i64 0, .int .i64 0, .int .i64 0, .int .i64 0, .int .i64 0, .int .i64 0, .int .i64 0, .int .i64 0, .int .i64 0, .int .i64 0, .int .i64 0] 26 ∧ Cel W (w.heap.size + 1 + 1) #[.int .i64 0, .int .i64 0, .int .i64 0, .int .i64 0] 33 ∧ Below w.heap.size w W ∧ W.heap.size = w.heap.size + 1 + 1 + 1 := by
    rintro W rfl
    refine ⟨((Cel.new w _ 26).put (Below.heap_alloc _ _ _ (by simp))).put (Below.heap_alloc _ _ _ (by simp; omega)), ?_, ?_, (((Below.refl _ w).alloc (Nat.le_refl _) _).alloc (by simp) _).alloc (by simp; omega) _, by simp⟩
    · have h := Cel.new (w.alloc (.cells #[.int .i64 pg, .int .i64 (k : Int), .int .i64 (rs 0), .int .i64 (rs 1), .int .i64 (rs 2), .int .i64 (rs 3), .int .i64 (rs 4), .int .i64 (rs 5), .int .i64 (rs 6), .int .i64 (rs 7), .int .i64 dp] 26)) #[.int .i64 0, .int .i64 0, .int .i64 0, .int .i64 0, .int .i64 0, .int .i64 0, .int .i64 0, .int .i64 0, .int .i64 0, .int .i64 0, .int .i64 0] 26
      rw [World.size_alloc] at h
      exact h.put (Below.heap_alloc _ _ _ (by simp))
    · have h := Cel.new ((w.alloc (.cells #[.int .i64 pg, .int .i64 (k : Int), .int .i64 (rs 0), .int .i64 (rs 1), .int .i64 (rs 2), .int .i64 (rs 3), .int .i64 (rs 4), .int .i64 (rs 5), .int .i64 (rs 6), .int .i64 (rs 7), .int .i64 dp] 26)).alloc (.cells #[.int .i64 0, .int .i64 0, .int .i64 0, .int .i64 0, .int .i64 0, .int .i64 0, .int .i64 0, .int .i64 0, .int .i64 0, .int .i64 0, .int .i64 0] 26)) #[.int .i64 0, .int .i64 0, .int .i64 0, .int .i64 0] 33
      rw [World.size_alloc, World.size_alloc] at h
      exact h
  obtain ⟨hC, hZ, hQ, hB, hsz⟩ := eW _ rfl
  clear eW
  go_enter Tryd.func11, Tryd.ntmps11
  go_upto_region 1 with fail
  generalize ((w.alloc (.cells #[.int .i64 pg, .int .i64 (k : Int), .int .i64 (rs 0), .int .i64 (rs 1), .int .i64 (rs 2), .int .i64 (rs 3), .int .i64 (rs 4), .int .i64 (rs 5), .int .i64 (rs 6), .int .i64 (rs 7), .int .i64 dp] 26)).alloc (.cells #[.int .i64 0, .int .i64 0, .int .i64 0, .int .i64 0, .int .i64 0, .int .i64 0, .int .i64 0, .int .i64 0, .int .i64 0, .int .i64 0, .int .i64 0] 26)).alloc (.cells #[.int .i64 0, .int .i64 0, .int .i64 0, .int .i64 0] 33) = W at *
  have p1 : W.cell? ⟨w.heap.size, 1, none⟩ = some (.int .i64 (k : Int)) := hC.cell rfl
  go_upto_region 3 with (go_at_call 19; (refine (HW W hB).mono ?_); rintro e W1 ⟨rfl, hb1⟩)
  have hlt1 := hb1.size
  replace hC := hC.below hb1
  replace hZ := hZ.below hb1
  replace hQ := hQ.below hb1
  replace hB : Below w.heap.size w W1 := hB.trans (hb1.mono hB.size)
  replace hq := hq.below hB
  obtain ⟨i0, i1, i2, i3⟩ := hq
  clear p1 hb1 HW
  have p1 : W1.cell? ⟨w.heap.size, 1, none⟩ = some (.int .i64 (k : Int)) := hC.cell rfl
  go_upto_region 4 with fail
  have hb2 : Below W1.heap.size W1 (W1.alloc (.cells #[.int .i64 5, .int .i64 xa, .int .i64 xb, .int .i64 xc] 51)) := (Below.refl _ W1).alloc (Nat.le_refl _) _
  replace hC := hC.below hb2
  replace hZ := hZ.below hb2
  replace hQ := hQ.below hb2
  replace hB := hB.trans (hb2.mono hB.size)
  have hX := Cel.new W1 #[.int .i64 5, .int .i64 xa, .int .i64 xb, .int .i64 xc] 51
  have hsU : (W1.alloc (.cells #[.int .i64 5, .int .i64 xa, .int .i64 xb, .int .i64 xc] 51)).heap.size = W1.heap.size + 1 := by simp
  have hlD : w.heap.size + 1 + 1 < W1.heap.size := by omega
  clear hb2 hsz hlt1 i0 i1 i2 i3 p1
  generalize W1.alloc (.cells #[.int .i64 5, .int .i64 xa, .int .i64 xb, .int .i64 xc] 51) = U at *
  generalize W1.heap.size = D at *
  have cx0 : U.cell? ⟨w.heap.size, 0, none⟩ = some (.int .i64 pg) := hC.cell rfl
  have cx1 : U.cell? ⟨w.heap.size, 1, none⟩ = some (.int .i64 (k : Int)) := hC.cell rfl
  have cx2 : U.cell? ⟨w.heap.size, 2, none⟩ = some (.int .i64 (rs 0)) := hC.cell rfl
  have cx3 : U.cell? ⟨w.heap.size, 3, none⟩ = some (.int .i64 (rs 1)) := hC.cell rfl
  have cx4 : U.cell? ⟨w.heap.size, 4, none⟩ = some (.int .i64 (rs 2)) := hC.cell rfl
  have cx5 : U.cell? ⟨w.heap.size, 5, none⟩ = some (.int .i64 (rs 3)) := hC.cell rfl
  have cx6 : U.cell? ⟨w.heap.size, 6, none⟩ = some (.int .i64 (rs 4)) := hC.cell rfl
  have cx7 : U.cell? ⟨w.heap.size, 7, none⟩ = some (.int .i64 (rs 5)) := hC.cell rfl
  have cx8 : U.cell? ⟨w.heap.size, 8, none⟩ = some (.int .i64 (rs 6)) := hC.cell rfl
  have cx9 : U.cell? ⟨w.heap.size, 9, none⟩ = some (.int .i64 (rs 7)) := hC.cell rfl
  have cx10 : U.cell? ⟨w.heap.size, 10, none⟩ = some (.int .i64 dp) := hC.cell rfl
  go_upto_region 6 with fail
  have eV : ∀ V : World, V = U.alloc (.cells #[.int .i64 pg, .int .i64 ((k : Int) + 1), .int .i64 (rs 0), .int .i64 (rs 1), .int .i64 (rs 2), .int .i64 (rs 3), .int .i64 (rs 4), .int .i64 (rs 5), .int .i64 (rs 6), .int .i64 (rs 7), .int .i64 dp] 26) → RS w D (⟨pg, (k : Int), rs, dp⟩ : Cx) (⟨pg, (k : Int) + 1, rs, dp⟩ : Cx) (5, xa, xb, xc) V := by
    rintro V rfl
    have hb2 : Below U.heap.size U (U.alloc (.cells #[.int .i64 pg, .int .i64 ((k : Int) + 1), .int .i64 (rs 0), .int .i64 (rs 1), .int .i64 (rs 2), .int .i64 (rs 3), .int .i64 (rs 4), .int .i64 (rs 5), .int .i64 (rs 6), .int .i64 (rs 7), .int .i64 dp] 26)) := (Below.refl _ U).alloc (Nat.le_refl _) _
    refine ⟨hC.below hb2, hZ.below hb2, hQ.below hb2, hX.below hb2, ?_, hB.trans (hb2.mono hB.size), hlD⟩
    have h := Cel.new U #[.int .i64 pg, .int .i64 ((k : Int) + 1), .int .i64 (rs 0), .int .i64 (rs 1), .int .i64 (rs 2), .int .i64 (rs 3), .int .i64 (rs 4), .int .i64 (rs 5), .int .i64 (rs 6), .int .i64 (rs 7), .int .i64 dp] 26
    rw [hsU] at h
    exact h
  have hR := eV _ rfl
  clear eV hC hZ hQ hB hX cx0 cx1 cx2 cx3 cx4 cx5 cx6 cx7 cx8 cx9 cx10
  generalize U.alloc (.cells #[.int .i64 pg, .int .i64 ((k : Int) + 1), .int .i64 (rs 0), .int .i64 (rs 1), .int .i64 (rs 2), .int .i64 (rs 3), .int .i64 (rs 4), .int .i64 (rs 5), .int .i64 (rs 6), .int .i64 (rs 7), .int .i64 dp] 26) = V at *
  have x0 : V.cell? ⟨D, 0, none⟩ = some (.int .i64 5) := hR.x.cell rfl
  go_upto_region 19 with fail
  have x1 : ∀ z : Wd (RS w D (⟨pg, (k : Int), rs, dp⟩ : Cx) (⟨pg, (k : Int) + 1, rs, dp⟩ : Cx) (5, xa, xb, xc)), z.W.cell? ⟨D, 1, none⟩ = some (.int .i64 xa) := fun z => z.ok.x.cell rfl
  have x2 : ∀ z : Wd (RS w D (⟨pg, (k : Int), rs, dp⟩ : Cx) (⟨pg, (k : Int) + 1, rs, dp⟩ : Cx) (5, xa, xb, xc)), z.W.cell? ⟨D, 2, none⟩ = some (.int .i64 xb) := fun z => z.ok.x.cell rfl
  have x3 : ∀ z : Wd (RS w D (⟨pg, (k : Int), rs, dp⟩ : Cx) (⟨pg, (k : Int) + 1, rs, dp⟩ : Cx) (5, xa, xb, xc)), z.W.cell? ⟨D, 3, none⟩ = some (.int .i64 xc) := fun z => z.ok.x.cell rfl
  have o0 : ∀ z : Wd (RS w D (⟨pg, (k : Int), rs, dp⟩ : Cx) (⟨pg, (k : Int) + 1, rs, dp⟩ : Cx) (5, xa, xb, xc)), z.W.cell? ⟨D + 1, 0, none⟩ = some (.int .i64 pg) := fun z => z.ok.o.cell rfl
  have o1 : ∀ z : Wd (RS w D (⟨pg, (k : Int), rs, dp⟩ : Cx) (⟨pg, (k : Int) + 1, rs, dp⟩ : Cx) (5, xa, xb, xc)), z.W.cell? ⟨D + 1, 1, none⟩ = some (.int .i64 ((k : Int) + 1)) := fun z => z.ok.o.cell rfl
  have o2 : ∀ z : Wd (RS w D (⟨pg, (k : Int), rs, dp⟩ : Cx) (⟨pg, (k : Int) + 1, rs, dp⟩ : Cx) (5, xa, xb, xc)), z.W.cell? ⟨D + 1, 2, none⟩ = some (.int .i64 (rs 0)) := fun z => z.ok.o.cell rfl
  have o3 : ∀ z : Wd (RS w D (⟨pg, (k : Int), rs, dp⟩ : Cx) (⟨pg, (k : Int) + 1, rs, dp⟩ : Cx) (5, xa, xb, xc)), z.W.cell? ⟨D + 1, 3, none⟩ = some (.int .i64 (rs 1)) := fun z => z.ok.o.cell rfl
  have o4 : ∀ z : Wd (RS w D (⟨pg, (k : Int), rs, dp⟩ : Cx) (⟨pg, (k : Int) + 1, rs, dp⟩ : Cx) (5, xa, xb, xc)), z.W.cell? ⟨D + 1, 4, none⟩ = some (.int .i64 (rs 2)) := fun z => z.ok.o.cell rfl
  have o5 : ∀ z : Wd (RS w D (⟨pg, (k : Int), rs, dp⟩ : Cx) (⟨pg, (k : Int) + 1, rs, dp⟩ : Cx) (5, xa, xb, xc)), z.W.cell? ⟨D + 1, 5, none⟩ = some (.int .i64 (rs 3)) := fun z => z.ok.o.cell rfl
  have o6 : ∀ z : Wd (RS w D (⟨pg, (k : Int), rs, dp⟩ : Cx) (⟨pg, (k : Int) + 1, rs, dp⟩ : Cx) (5, xa, xb, xc)), z.W.cell? ⟨D + 1, 6, none⟩ = some (.int .i64 (rs 4)) := fun z => z.ok.o.cell rfl
  have o7 : ∀ z : Wd (RS w D (⟨pg, (k : Int), rs, dp⟩ : Cx) (⟨pg, (k : Int) + 1, rs, dp⟩ : Cx) (5, xa, xb, xc)), z.W.cell? ⟨D + 1, 7, none⟩ = some (.int .i64 (rs 5)) := fun z => z.ok.o.cell rfl
  have o8 : ∀ z : Wd (RS w D (⟨pg, (k : Int), rs, dp⟩ : Cx) (⟨pg, (k : Int) + 1, rs, dp⟩ : Cx) (5, xa, xb, xc)), z.W.cell? ⟨D + 1, 8, none⟩ = some (.int .i64 (rs 6)) := fun z => z.ok.o.cell rfl
  have o9 : ∀ z : Wd (RS w D (⟨pg, (k : Int), rs, dp⟩ : Cx) (⟨pg, (k : Int) + 1, rs, dp⟩ : Cx) (5, xa, xb, xc)), z.W.cell? ⟨D + 1, 9, none⟩ = some (.int .i64 (rs 7)) := fun z => z.ok.o.cell rfl
  have o10 : ∀ z : Wd (RS w D (⟨pg, (k : Int), rs, dp⟩ : Cx) (⟨pg, (k : Int) + 1, rs, dp⟩ : Cx) (5, xa, xb, xc)), z.W.cell? ⟨D + 1, 10, none⟩ = some (.int .i64 dp) := fun z => z.ok.o.cell rfl
  have g0 : ∀ z : Wd (RS w D (⟨pg, (k : Int), rs, dp⟩ : Cx) (⟨pg, (k : Int) + 1, rs, dp⟩ : Cx) (5, xa, xb, xc)), z.W.frozen? ⟨D + 1, 0, none⟩ = false := fun z => z.ok.o.fz 0
  have g1 : ∀ z : Wd (RS w D (⟨pg, (k : Int), rs, dp⟩ : Cx) (⟨pg, (k : Int) + 1, rs, dp⟩ : Cx) (5, xa, xb, xc)), z.W.frozen? ⟨D + 1, 1, none⟩ = false := fun z => z.ok.o.fz 1
  have g2 : ∀ z : Wd (RS w D (⟨pg, (k : Int), rs, dp⟩ : Cx) (⟨pg, (k : Int) + 1, rs, dp⟩ : Cx) (5, xa, xb, xc)), z.W.frozen? ⟨D + 1, 2, none⟩ = false := fun z => z.ok.o.fz 2
  have g3 : ∀ z : Wd (RS w D (⟨pg, (k : Int), rs, dp⟩ : Cx) (⟨pg, (k : Int) + 1, rs, dp⟩ : Cx) (5, xa, xb, xc)), z.W.frozen? ⟨D + 1, 3, none⟩ = false := fun z => z.ok.o.fz 3
  have g4 : ∀ z : Wd (RS w D (⟨pg, (k : Int), rs, dp⟩ : Cx) (⟨pg, (k : Int) + 1, rs, dp⟩ : Cx) (5, xa, xb, xc)), z.W.frozen? ⟨D + 1, 4, none⟩ = false := fun z => z.ok.o.fz 4
  have g5 : ∀ z : Wd (RS w D (⟨pg, (k : Int), rs, dp⟩ : Cx) (⟨pg, (k : Int) + 1, rs, dp⟩ : Cx) (5, xa, xb, xc)), z.W.frozen? ⟨D + 1, 5, none⟩ = false := fun z => z.ok.o.fz 5
  have g6 : ∀ z : Wd (RS w D (⟨pg, (k : Int), rs, dp⟩ : Cx) (⟨pg, (k : Int) + 1, rs, dp⟩ : Cx) (5, xa, xb, xc)), z.W.frozen? ⟨D + 1, 6, none⟩ = false := fun z => z.ok.o.fz 6
  have g7 : ∀ z : Wd (RS w D (⟨pg, (k : Int), rs, dp⟩ : Cx) (⟨pg, (k : Int) + 1, rs, dp⟩ : Cx) (5, xa, xb, xc)), z.W.frozen? ⟨D + 1, 7, none⟩ = false := fun z => z.ok.o.fz 7
  have g8 : ∀ z : Wd (RS w D (⟨pg, (k : Int), rs, dp⟩ : Cx) (⟨pg, (k : Int) + 1, rs, dp⟩ : Cx) (5, xa, xb, xc)), z.W.frozen? ⟨D + 1, 8, none⟩ = false := fun z => z.ok.o.fz 8
  have g9 : ∀ z : Wd (RS w D (⟨pg, (k : Int), rs, dp⟩ : Cx) (⟨pg, (k : Int) + 1, rs, dp⟩ : Cx) (5, xa, xb, xc)), z.W.frozen? ⟨D + 1, 9, none⟩ = false := fun z => z.ok.o.fz 9
  have g10 : ∀ z : Wd (RS w D (⟨pg, (k : Int), rs, dp⟩ : Cx) (⟨pg, (k : Int) + 1, rs, dp⟩ : Cx) (5, xa, xb, xc)), z.W.frozen? ⟨D + 1, 10, none⟩ = false := fun z => z.ok.o.fz 10
  have c0 : ∀ z : Wd (RS w D (⟨pg, (k : Int), rs, dp⟩ : Cx) (⟨pg, (k : Int) + 1, rs, dp⟩ : Cx) (5, xa, xb, xc)), z.W.cell? ⟨w.heap.size, 0, none⟩ = some (.int .i64 pg) := fun z => z.ok.c.cell rfl
  have c1 : ∀ z : Wd (RS w D (⟨pg, (k : Int), rs, dp⟩ : Cx) (⟨pg, (k : Int) + 1, rs, dp⟩ : Cx) (5, xa, xb, xc)), z.W.cell? ⟨w.heap.size, 1, none⟩ = some (.int .i64 (k : Int)) := fun z => z.ok.c.cell rfl
  have c2 : ∀ z : Wd (RS w D (⟨pg, (k : Int), rs, dp⟩ : Cx) (⟨pg, (k : Int) + 1, rs, dp⟩ : Cx) (5, xa, xb, xc)), z.W.cell? ⟨w.heap.size, 2, none⟩ = some (.int .i64 (rs 0)) := fun z => z.ok.c.cell rfl
  have c3 : ∀ z : Wd (RS w D (⟨pg, (k : Int), rs, dp⟩ : Cx) (⟨pg, (k : Int) + 1, rs, dp⟩ : Cx) (5, xa, xb, xc)), z.W.cell? ⟨w.heap.size, 3, none⟩ = some (.int .i64 (rs 1)) := fun z => z.ok.c.cell rfl
  have c4 : ∀ z : Wd (RS w D (⟨pg, (k : Int), rs, dp⟩ : Cx) (⟨pg, (k : Int) + 1, rs, dp⟩ : Cx) (5, xa, xb, xc)), z.W.cell? ⟨w.heap.size, 4, none⟩ = some (.int .i64 (rs 2)) := fun z => z.ok.c.cell rfl
  have c5 : ∀ z : Wd (RS w D (⟨pg, (k : Int), rs, dp⟩ : Cx) (⟨pg, (k : Int) + 1, rs, dp⟩ : Cx) (5, xa, xb, xc)), z.W.cell? ⟨w.heap.size, 5, none⟩ = some (.int .i64 (rs 3)) := fun z => z.ok.c.cell rfl
  have c6 : ∀ z : Wd (RS w D (⟨pg, (k : Int), rs, dp⟩ : Cx) (⟨pg, (k : Int) + 1, rs, dp⟩ : Cx) (5, xa, xb, xc)), z.W.cell? ⟨w.heap.size, 6, none⟩ = some (.int .i64 (rs 4)) := fun z => z.ok.c.cell rfl
  have c7 : ∀ z : Wd (RS w D (⟨pg, (k : Int), rs, dp⟩ : Cx) (⟨pg, (k : Int) + 1, rs, dp⟩ : Cx) (5, xa, xb, xc)), z.W.cell? ⟨w.heap.size, 7, none⟩ = some (.int .i64 (rs 5)) := fun z => z.ok.c.cell rfl
  have c8 : ∀ z : Wd (RS w D (⟨pg, (k : Int), rs, dp⟩ : Cx) (⟨pg, (k : Int) + 1, rs, dp⟩ : Cx) (5, xa, xb, xc)), z.W.cell? ⟨w.heap.size, 8, none⟩ = some (.int .i64 (rs 6)) := fun z => z.ok.c.cell rfl
  have c9 : ∀ z : Wd (RS w D (⟨pg, (k : Int), rs, dp⟩ : Cx) (⟨pg, (k : Int) + 1, rs, dp⟩ : Cx) (5, xa, xb, xc)), z.W.cell? ⟨w.heap.size, 9, none⟩ = some (.int .i64 (rs 7)) := fun z => z.ok.c.cell rfl
  have c10 : ∀ z : Wd (RS w D (⟨pg, (k : Int), rs, dp⟩ : Cx) (⟨pg, (k : Int) + 1, rs, dp⟩ : Cx) (5, xa, xb, xc)), z.W.cell? ⟨w.heap.size, 10, none⟩ = some (.int .i64 dp) := fun z => z.ok.c.cell rfl
  have JA := fun z : Wd (RS w D (⟨pg, (k : Int), rs, dp⟩ : Cx) (⟨pg, (k : Int) + 1, rs, dp⟩ : Cx) (5, xa, xb, xc)) => RS.call z (HA z.W)
  have JB := fun z : Wd (RS w D (⟨pg, (k : Int), rs, dp⟩ : Cx) (⟨pg, (k : Int) + 1, rs, dp⟩ : Cx) (5, xa, xb, xc)) => RS.call z (HB z.W)
  clear HA HB
  haveI : Nonempty (Wd (RS w D (⟨pg, (k : Int), rs, dp⟩ : Cx) (⟨pg, (k : Int) + 1, rs, dp⟩ : Cx) (5, xa, xb, xc))) := ⟨⟨V, hR⟩⟩
  refine wp_region_tail (fun w' => ∃ z : Wd (RS w D (⟨pg, (k : Int), rs, dp⟩ : Cx) (⟨pg, (k : Int) + 1, rs, dp⟩ : Cx) (5, xa, xb, xc)), w' = z.W) hmx (by kernel_rfl) (by kernel_rfl) rfl ⟨⟨V.drew, hR.on (Below.refl _ V).drew⟩, rfl⟩ ?_
  show wpQuiet _ _ _ _ (_ :: _ :: _ :: _ :: _ :: _ :: _ :: _ :: []) _
  repeat (go_big_quiet_step (first | (go_at_call 23; with_reducible exact JA _) | (go_at_call 23; with_reducible exact JB _)))
  refine wpQuiet_nil ?_
  rintro _ ⟨z, rfl⟩
  go_upto_region 21 with fail
  have hR := z.ok
  clear o0 o1 o2 o3 o4 o5 o6 o7 o8 o9 o10 g0 g1 g2 g3 g4 g5 g6 g7 g8 g9 g10 x0 x1 x2 x3 c0 c1 c2 c3 c4 c5 c6 c7 c8 c9 c10
  generalize z.W = V3 at *
  have o0 : V3.cell? ⟨D + 1, 0, none⟩ = some (.int .i64 pg) := hR.o.cell rfl
  have o1 : V3.cell? ⟨D + 1, 1, none⟩ = some (.int .i64 ((k : Int) + 1)) := hR.o.cell rfl
  have o2 : V3.cell? ⟨D + 1, 2, none⟩ = some (.int .i64 (rs 0)) := hR.o.cell rfl
  have o3 : V3.cell? ⟨D + 1, 3, none⟩ = some (.int .i64 (rs 1)) := hR.o.cell rfl
  have o4 : V3.cell? ⟨D + 1, 4, none⟩ = some (.int .i64 (rs 2)) := hR.o.cell rfl
  have o5 : V3.cell? ⟨D + 1, 5, none⟩ = some (.int .i64 (rs 3)) := hR.o.cell rfl
  have o6 : V3.cell? ⟨D + 1, 6, none⟩ = some (.int .i64 (rs 4)) := hR.o.cell rfl
  have o7 : V3.cell? ⟨D + 1, 7, none⟩ = some (.int .i64 (rs 5)) := hR.o.cell rfl
  have o8 : V3.cell? ⟨D + 1, 8, none⟩ = some (.int .i64 (rs 6)) := hR.o.cell rfl
  have o9 : V3.cell? ⟨D + 1, 9, none⟩ = some (.int .i64 (rs 7)) := hR.o.cell rfl
  have o10 : V3.cell? ⟨D + 1, 10, none⟩ = some (.int .i64 dp) := hR.o.cell rfl
  have x1 : V3.cell? ⟨D, 1, none⟩ = some (.int .i64 xa) := hR.x.cell rfl
  go_upto_region 40 with (go_at_call 22; (refine (HP V3).mono ?_); rintro e W2 ⟨rfl, hb2⟩; have hR2 := hR.on hb2; have o0 : W2.cell? ⟨D + 1, 0, none⟩ = some (.int .i64 pg) := hR2.o.cell rfl; have o1 : W2.cell? ⟨D + 1, 1, none⟩ = some (.int .i64 ((k : Int) + 1)) := hR2.o.cell rfl; have o2 : W2.cell? ⟨D + 1, 2, none⟩ = some (.int .i64 (rs 0)) := hR2.o.cell rfl; have o3 : W2.cell? ⟨D + 1, 3, none⟩ = some (.int .i64 (rs 1)) := hR2.o.cell rfl; have o4 : W2.cell? ⟨D + 1, 4, none⟩ = some (.int .i64 (rs 2)) := hR2.o.cell rfl; have o5 : W2.cell? ⟨D + 1, 5, none⟩ = some (.int .i64 (rs 3)) := hR2.o.cell rfl; have o6 : W2.cell? ⟨D + 1, 6, none⟩ = some (.int .i64 (rs 4)) := hR2.o.cell rfl; have o7 : W2.cell? ⟨D + 1, 7, none⟩ = some (.int .i64 (rs 5)) := hR2.o.cell rfl; have o8 : W2.cell? ⟨D + 1, 8, none⟩ = some (.int .i64 (rs 6)) := hR2.o.cell rfl; have o9 : W2.cell? ⟨D + 1, 9, none⟩ = some (.int .i64 (rs 7)) := hR2.o.cell rfl; have o10 : W2.cell? ⟨D + 1, 10, none⟩ = some (.int .i64 dp) := hR2.o.cell rfl; have g0 : W2.frozen? ⟨D + 1, 0, none⟩ = false := hR2.o.fz 0; have g1 : W2.frozen? ⟨D + 1, 1, none⟩ = false := hR2.o.fz 1; have g2 : W2.frozen? ⟨D + 1, 2, none⟩ = false := hR2.o.fz 2; have g3 : W2.frozen? ⟨D + 1, 3, none⟩ = false := hR2.o.fz 3; have g4 : W2.frozen? ⟨D + 1, 4, none⟩ = false := hR2.o.fz 4; have g5 : W2.frozen? ⟨D + 1, 5, none⟩ = false := hR2.o.fz 5; have g6 : W2.frozen? ⟨D + 1, 6, none⟩ = false := hR2.o.fz 6; have g7 : W2.frozen? ⟨D + 1, 7, none⟩ = false := hR2.o.fz 7; have g8 : W2.frozen? ⟨D + 1, 8, none⟩ = false := hR2.o.fz 8; have g9 : W2.frozen? ⟨D + 1, 9, none⟩ = false := hR2.o.fz 9; have g10 : W2.frozen? ⟨D + 1, 10, none⟩ = false := hR2.o.fz 10)
  have hS := hR2.store d
  clear hR hR2 hb2 HP
  clear o0 o1 o2 o3 o4 o5 o6 o7 o8 o9 o10 g0 g1 g2 g3 g4 g5 g6 g7 g8 g9 g10 x1
  generalize (((((((((((W2.setCell ⟨D + 1, 0, none⟩ (.int .i64 d.pg)).setCell ⟨D + 1, 1, none⟩ (.int .i64 d.pc)).setCell ⟨D + 1, 2, none⟩ (.int .i64 (d.rs 0))).setCell ⟨D + 1, 3, none⟩ (.int .i64 (d.rs 1))).setCell ⟨D + 1, 4, none⟩ (.int .i64 (d.rs 2))).setCell ⟨D + 1, 5, none⟩ (.int .i64 (d.rs 3))).setCell ⟨D + 1, 6, none⟩ (.int .i64 (d.rs 4))).setCell ⟨D + 1, 7, none⟩ (.int .i64 (d.rs 5))).setCell ⟨D + 1, 8, none⟩ (.int .i64 (d.rs 6))).setCell ⟨D + 1, 9, none⟩ (.int .i64 (d.rs 7))).setCell ⟨D + 1, 10, none⟩ (.int .i64 d.dp)) = V2 at *
  have o0 : V2.cell? ⟨D + 1, 0, none⟩ = some (.int .i64 d.pg) := hS.o.cell rfl
  have o1 : V2.cell? ⟨D + 1, 1, none⟩ = some (.int .i64 d.pc) := hS.o.cell rfl
  have o2 : V2.cell? ⟨D + 1, 2, none⟩ = some (.int .i64 (d.rs 0)) := hS.o.cell rfl
  have o3 : V2.cell? ⟨D + 1, 3, none⟩ = some (.int .i64 (d.rs 1)) := hS.o.cell rfl
  have o4 : V2.cell? ⟨D + 1, 4, none⟩ = some (.int .i64 (d.rs 2)) := hS.o.cell rfl
  have o5 : V2.cell? ⟨D + 1, 5, none⟩ = some (.int .i64 (d.rs 3)) := hS.o.cell rfl
  have o6 : V2.cell? ⟨D + 1, 6, none⟩ = some (.int .i64 (d.rs 4)) := hS.o.cell rfl
  have o7 : V2.cell? ⟨D + 1, 7, none⟩ = some (.int .i64 (d.rs 5)) := hS.o.cell rfl
  have o8 : V2.cell? ⟨D + 1, 8, none⟩ = some (.int .i64 (d.rs 6)) := hS.o.cell rfl
  have o9 : V2.cell? ⟨D + 1, 9, none⟩ = some (.int .i64 (d.rs 7)) := hS.o.cell rfl
  have o10 : V2.cell? ⟨D + 1, 10, none⟩ = some (.int .i64 d.dp) := hS.o.cell rfl
  have zz0 : V2.cell? ⟨w.heap.size + 1, 0, none⟩ = some (.int .i64 0) := hS.r.cell rfl
  have zz1 : V2.cell? ⟨w.heap.size + 1, 1, none⟩ = some (.int .i64 0) := hS.r.cell rfl
  have zz2 : V2.cell? ⟨w.heap.size + 1, 2, none⟩ = some (.int .i64 0) := hS.r.cell rfl
  have zz3 : V2.cell? ⟨w.heap.size + 1, 3, none⟩ = some (.int .i64 0) := hS.r.cell rfl
  have zz4 : V2.cell? ⟨w.heap.size + 1, 4, none⟩ = some (.int .i64 0) := hS.r.cell rfl
  have zz5 : V2.cell? ⟨w.heap.size + 1, 5, none⟩ = some (.int .i64 0) := hS.r.cell rfl
  have zz6 : V2.cell? ⟨w.heap.size + 1, 6, none⟩ = some (.int .i64 0) := hS.r.cell rfl
  have zz7 : V2.cell? ⟨w.heap.size + 1, 7, none⟩ = some (.int .i64 0) := hS.r.cell rfl
  have zz8 : V2.cell? ⟨w.heap.size + 1, 8, none⟩ = some (.int .i64 0) := hS.r.cell rfl
  have zz9 : V2.cell? ⟨w.heap.size + 1, 9, none⟩ = some (.int .i64 0) := hS.r.cell rfl
  have zz10 : V2.cell? ⟨w.heap.size + 1, 10, none⟩ = some (.int .i64 0) := hS.r.cell rfl
  have f0 : V2.frozen? ⟨w.heap.size + 1, 0, none⟩ = false := hS.r.fz 0
  have f1 : V2.frozen? ⟨w.heap.size + 1, 1, none⟩ = false := hS.r.fz 1
  have f2 : V2.frozen? ⟨w.heap.size + 1, 2, none⟩ = false := hS.r.fz 2
  have f3 : V2.frozen? ⟨w.heap.size + 1, 3, none⟩ = false := hS.r.fz 3
  have f4 : V2.frozen? ⟨w.heap.size + 1, 4, none⟩ = false := hS.r.fz 4
  have f5 : V2.frozen? ⟨w.heap.size + 1, 5, none⟩ = false := hS.r.fz 5
  have f6 : V2.frozen? ⟨w.heap.size + 1, 6, none⟩ = false := hS.r.fz 6
  have f7 : V2.frozen? ⟨w.heap.size + 1, 7, none⟩ = false := hS.r.fz 7
  have f8 : V2.frozen? ⟨w.heap.size + 1, 8, none⟩ = false := hS.r.fz 8
  have f9 : V2.frozen? ⟨w.heap.size + 1, 9, none⟩ = false := hS.r.fz 9
  have f10 : V2.frozen? ⟨w.heap.size + 1, 10, none⟩ = false := hS.r.fz 10
  have u0 : V2.cell? ⟨w.heap.size + 1 + 1, 0, none⟩ = some (.int .i64 0) := hS.q.cell rfl
  have u1 : V2.cell? ⟨w.heap.size + 1 + 1, 1, none⟩ = some (.int .i64 0) := hS.q.cell rfl
  have u2 : V2.cell? ⟨w.heap.size + 1 + 1, 2, none⟩ = some (.int .i64 0) := hS.q.cell rfl
  have u3 : V2.cell? ⟨w.heap.size + 1 + 1, 3, none⟩ = some (.int .i64 0) := hS.q.cell rfl
  have e0 : V2.frozen? ⟨w.heap.size + 1 + 1, 0, none⟩ = false := hS.q.fz 0
  have e1 : V2.frozen? ⟨w.heap.size + 1 + 1, 1, none⟩ = false := hS.q.fz 1
  have e2 : V2.frozen? ⟨w.heap.size + 1 + 1, 2, none⟩ = false := hS.q.fz 2
  have e3 : V2.frozen? ⟨w.heap.size + 1 + 1, 3, none⟩ = false := hS.q.fz 3
  go_wp2_with fail
  have nS : w.heap.size + 1 ≠ w.heap.size + 1 + 1 := by omega
  refine bodyPost_ret (results_XR rfl _ _ (w.heap.size + 1) (w.heap.size + 1 + 1) (d) (z4) rfl rfl ?_ ?_) rfl ⟨rfl, ?_⟩
  · exact (Cel.over4 _ _ _ _ (Cel.fill11 _ _ _ _ _ _ _ _ _ _ _ hS.r) nS)
  · exact (Cel.fill4 _ _ _ _ (Cel.over11 _ _ _ _ _ _ _ _ _ _ _ hS.q nS.symm))
  · exact (below_fill4 _ _ _ _ (below_fill11 _ _ _ _ _ _ _ _ _ _ _ hS.b (Nat.le_refl _) (by omega)) (Nat.le_refl _) (by omega))

end Go.Proofs.YtllnpkijojpccaaDoor
