/- The reference's Step, operations by themselves (D). -/
import Derived.Test.YtllnpkijojpccaaDoorRSt
namespace Go.Proofs.YtllnpkijojpccaaDoor
open Go Go.RowKit Go.Shelf

set_option maxRecDepth 100000 in
set_option maxHeartbeats 4000000 in
theorem rs_6 {w : World} {pg dp : Int} {rs : Nat → Int} {b o n cap k : Nat} {xa xb xc : Int} (hk : k < n) (hn : n ≤ 64) (hq : At4 w b (o + k * 4) (6, xa, xb, xc))
    (HW : ∀ W : World, Below w.heap.size w W → Calls Tryd.prog 19 #[.slice (some ⟨b, o, none⟩) n cap] W fun e w' => e = .returned (.bool true) ∧ Below W.heap.size W w')
    : Calls Tryd.prog 11 #[.slice (some ⟨b, o, none⟩) n cap, .agg #[.int .i64 pg, .int .i64 (k : Int), .int .i64 (rs 0), .int .i64 (rs 1), .int .i64 (rs 2), .int .i64 (rs 3), .int .i64 (rs 4), .int .i64 (rs 5), .int .i64 (rs 6), .int .i64 (rs 7), .int .i64 dp]] w fun e w' => e = .returned (.tuple #[.agg (cxA (toPC (⟨pg, (k : Int) + 1, rs, dp⟩ : Cx) xa)), .agg (insC (z4))]) ∧ Below w.heap.size w w' := by
  have hmx := mixed
  have k0 : (0 : Int) ≤ (k : Int) := by omega
  have k1 : (k : Int) < (n : Int) := by omega
  have k2 : (k : Int) < 64 := by omega
  have eW : ∀ W : World, W = ((w.alloc (.cells #[.int .i64 pg, .int .i64 (k : Int), .int .i64 (rs 0), .int .i64 (rs 1), .int .i64 (rs 2), .int .i64 (rs 3), .int .i64 (rs 4), .int .i64 (rs 5), .int .i64 (rs 6), .int .i64 (rs 7), .int .i64 dp] 26)).alloc (.cells #[.int .i64 0, .int .i64 0, .int .i64 0, .int .i64 0, .int .i64 0, .int .i64 0, .int .i64 0, .int .i64 0, .int .i64 0, .int .i64 0, .int .i64 0] 26)).alloc (.cells #[.int .i64 0, .int .i64 0, .int .i64 0, .int .i64 0] 33) → Cel W (w.heap.size) #[.int .i64 pg, .int .i64 (k : Int), .int .i64 (rs 0), .int .i64 (rs 1), .int .i64 (rs 2), .int .i64 (rs 3), .int .i64 (rs 4), .int .i64 (rs 5), .int .i64 (rs 6), .int .i64 (rs 7), .int .i64 dp] 26 ∧ Cel W (w.heap.size + 1) #[.int .i64 0, .int .i64 0, .int .i64 0, .int .i64 0, .int .i64 0, .int .i64 0, .int .i64 0, .int .i64 0, .int .i64 0, .int .i64 0, .int .i64 0] 26 ∧ Cel W (w.heap.size + 1 + 1) #[.int .i64 0, .int .i64 0, .int .i64 0, .int .i64 0] 33 ∧ Below w.heap.size w W ∧ W.heap.size = w.heap.size + 1 + 1 + 1 := by
    rintro W rfl
    refine ⟨((Cel.new w _ 26).put (Below.heap_alloc _ _ _ (by simp))).put (Below.heap_alloc _ _ _ (by simp; omega)), ?_, ?_, (((Below.refl _ w).alloc (Nat.le_refl _) _).alloc (by simp) _).alloc (by simp; omega) _, by simp⟩
    · have h := Cel.new (w.alloc (.cells #[.int .i64 pg, .int .i64 (k : Int), .int .i64 (rs 0), .int .i64 (rs 1), .int .i64 (rs 2), .int .i64 (rs 3), .int .i64 (rs 4), .int .i64 (rs 5), .int .i64 (rs 6), .int .i64 (rs 7), .int .i64 dp] 26)) #[.int .i64 0, .int .i64 0, .int .i64 0, .int .i64 0, .int .i64 0, .int .i64 0, .int .i64 0, .int .i64 0, .int .i64 0, .int .i64 0, .int .i64 0] 26
      rw [World.size_alloc] at h
      exact h.put (Below.heap_alloc _ _ _ (by simp))
    · have h := Cel.new ((w.alloc (.cells #[.int .i64 pg, .int .i64 (k : Int), .int .i64 (rs 0), .int .i64 (rs 1), .int .i64 (rs 2), .int .i64 (rs 3), .int .i64 (rs 4), .int .i64 (rs 5), .int .i64 (rs 6), .int .i64 (rs 7), .int .i64 dp] 26)).alloc (.cells #[.int .i64 0, .int .i64 0, .int .i64 0, .int .i64 0, .int .i64 0, .int .i64 0, .int .i64 0, .int .i64 0, .int .i64 0, .int .i64 0, .int .i64 0] 26)) #[.int .i64 0, .int .i64 0, .int .i64 0, .int .i64 0] 33
      rw [World.size_alloc, World.size_alloc] at h
      exact h
  obtain ⟨hC, hZ, hQ, hB, hsz⟩ := eW _ rfl
  clear eW
  go_enter Tryd.func11, Tryd.ntmps11
  go_upto_region 1 with fail
  generalize ((w.alloc (.cells #[.int .i64 pg, .int .i64 (k : Int), .int .i64 (rs 0), .int .i64 (rs 1), .int .i64 (rs 2), .int .i64 (rs 3), .int .i64 (rs 4), .int .i64 (rs 5), .int .i64 (rs 6), .int .i64 (rs 7), .int .i64 dp] 26)).alloc (.cells #[.int .i64 0, .int .i64 0, .int .i64 0, .int .i64 0, .int .i64 0, .int .i64 0, .int .i64 0, .int .i64 0, .int .i64 0, .int .i64 0, .int .i64 0] 26)).alloc (.cells #[.int .i64 0, .int .i64 0, .int .i64 0, .int .i64 0] 33) = W at *
  have p1 : W.cell? ⟨w.heap.size, 1, none⟩ = some (.int .i64 (k : Int)) := hC.cell rfl
  go_upto_region 3 with (go_at_call 19; (refine (HW W hB).mono ?_); rintro e W1 ⟨rfl, hb1⟩)
  have hlt1 := hb1.size
  replace hC := hC.below hb1
  replace hZ := hZ.below hb1
  replace hQ := hQ.below hb1
  replace hB : Below w.heap.size w W1 := hB.trans (hb1.mono hB.size)
  replace hq := hq.below hB
  obtain ⟨i0, i1, i2, i3⟩ := hq
  clear p1 hb1 HW
  have p1 : W1.cell? ⟨w.heap.size, 1, none⟩ = some (.int .i64 (k : Int)) := hC.cell rfl
  go_upto_region 4 with fail
  have hb2 : Below W1.heap.size W1 (W1.alloc (.cells #[.int .i64 6, .int .i64 xa, .int .i64 xb, .int .i64 xc] 51)) := (Below.refl _ W1).alloc (Nat.le_refl _) _
  replace hC := hC.below hb2
  replace hZ := hZ.below hb2
  replace hQ := hQ.below hb2
  replace hB := hB.trans (hb2.mono hB.size)
  have hX := Cel.new W1 #[.int .i64 6, .int .i64 xa, .int .i64 xb, .int .i64 xc] 51
  have hsU : (W1.alloc (.cells #[.int .i64 6, .int .i64 xa, .int .i64 xb, .int .i64 xc] 51)).heap.size = W1.heap.size + 1 := by simp
  have hlD : w.heap.size + 1 + 1 < W1.heap.size := by omega
  clear hb2 hsz hlt1 i0 i1 i2 i3 p1
  generalize W1.alloc (.cells #[.int .i64 6, .int .i64 xa, .int .i64 xb, .int .i64 xc] 51) = U at *
  generalize W1.heap.size = D at *
  have cx0 : U.cell? ⟨w.heap.size, 0, none⟩ = some (.int .i64 pg) := hC.cell rfl
  have cx1 : U.cell? ⟨w.heap.size, 1, none⟩ = some (.int .i64 (k : Int)) := hC.cell rfl
  have cx2 : U.cell? ⟨w.heap.size, 2, none⟩ = some (.int .i64 (rs 0)) := hC.cell rfl
  have cx3 : U.cell? ⟨w.heap.size, 3, none⟩ = some (.int .i64 (rs 1)) := hC.cell rfl
  have cx4 : U.cell? ⟨w.heap.size, 4, none⟩ = some (.int .i64 (rs 2)) := hC.cell rfl
  have cx5 : U.cell? ⟨w.heap.size, 5, none⟩ = some (.int .i64 (rs 3)) := hC.cell rfl
  have cx6 : U.cell? ⟨w.heap.size, 6, none⟩ = some (.int .i64 (rs 4)) := hC.cell rfl
  have cx7 : U.cell? ⟨w.heap.size, 7, none⟩ = some (.int .i64 (rs 5)) := hC.cell rfl
  have cx8 : U.cell? ⟨w.heap.size, 8, none⟩ = some (.int .i64 (rs 6)) := hC.cell rfl
  have cx9 : U.cell? ⟨w.heap.size, 9, none⟩ = some (.int .i64 (rs 7)) := hC.cell rfl
  have cx10 : U.cell? ⟨w.heap.size, 10, none⟩ = some (.int .i64 dp) := hC.cell rfl
  go_upto_region 6 with fail
  have eV : ∀ V : World, V = U.alloc (.cells #[.int .i64 pg, .int .i64 ((k : Int) + 1), .int .i64 (rs 0), .int .i64 (rs 1), .int .i64 (rs 2), .int .i64 (rs 3), .int .i64 (rs 4), .int .i64 (rs 5), .int .i64 (rs 6), .int .i64 (rs 7), .int .i64 dp] 26) → RS w D (⟨pg, (k : Int), rs, dp⟩ : Cx) (⟨pg, (k : Int) + 1, rs, dp⟩ : Cx) (6, xa, xb, xc) V := by
    rintro V rfl
    have hb2 : Below U.heap.size U (U.alloc (.cells #[.int .i64 pg, .int .i64 ((k : Int) + 1), .int .i64 (rs 0), .int .i64 (rs 1), .int .i64 (rs 2), .int .i64 (rs 3), .int .i64 (rs 4), .int .i64 (rs 5), .int .i64 (rs 6), .int .i64 (rs 7), .int .i64 dp] 26)) := (Below.refl _ U).alloc (Nat.le_refl _) _
    refine ⟨hC.below hb2, hZ.below hb2, hQ.below hb2, hX.below hb2, ?_, hB.trans (hb2.mono hB.size), hlD⟩
    have h := Cel.new U #[.int .i64 pg, .int .i64 ((k : Int) + 1), .int .i64 (rs 0), .int .i64 (rs 1), .int .i64 (rs 2), .int .i64 (rs 3), .int .i64 (rs 4), .int .i64 (rs 5), .int .i64 (rs 6), .int .i64 (rs 7), .int .i64 dp] 26
    rw [hsU] at h
    exact h
  have hR := eV _ rfl
  clear eV hC hZ hQ hB hX cx0 cx1 cx2 cx3 cx4 cx5 cx6 cx7 cx8 cx9 cx10
  generalize U.alloc (.cells #[.int .i64 pg, .int .i64 ((k : Int) + 1), .int .i64 (rs 0), .int .i64 (rs 1), .int .i64 (rs 2), .int .i64 (rs 3), .int .i64 (rs 4), .int .i64 (rs 5), .int .i64 (rs 6), .int .i64 (rs 7), .int .i64 dp] 26) = V at *
  have x0 : V.cell? ⟨D, 0, none⟩ = some (.int .i64 6) := hR.x.cell rfl
  go_upto_region 23 with fail
  have o0 : V.cell? ⟨D + 1, 0, none⟩ = some (.int .i64 pg) := hR.o.cell rfl
  have o1 : V.cell? ⟨D + 1, 1, none⟩ = some (.int .i64 ((k : Int) + 1)) := hR.o.cell rfl
  have o2 : V.cell? ⟨D + 1, 2, none⟩ = some (.int .i64 (rs 0)) := hR.o.cell rfl
  have o3 : V.cell? ⟨D + 1, 3, none⟩ = some (.int .i64 (rs 1)) := hR.o.cell rfl
  have o4 : V.cell? ⟨D + 1, 4, none⟩ = some (.int .i64 (rs 2)) := hR.o.cell rfl
  have o5 : V.cell? ⟨D + 1, 5, none⟩ = some (.int .i64 (rs 3)) := hR.o.cell rfl
  have o6 : V.cell? ⟨D + 1, 6, none⟩ = some (.int .i64 (rs 4)) := hR.o.cell rfl
  have o7 : V.cell? ⟨D + 1, 7, none⟩ = some (.int .i64 (rs 5)) := hR.o.cell rfl
  have o8 : V.cell? ⟨D + 1, 8, none⟩ = some (.int .i64 (rs 6)) := hR.o.cell rfl
  have o9 : V.cell? ⟨D + 1, 9, none⟩ = some (.int .i64 (rs 7)) := hR.o.cell rfl
  have o10 : V.cell? ⟨D + 1, 10, none⟩ = some (.int .i64 dp) := hR.o.cell rfl
  have g0 : V.frozen? ⟨D + 1, 0, none⟩ = false := hR.o.fz 0
  have g1 : V.frozen? ⟨D + 1, 1, none⟩ = false := hR.o.fz 1
  have g2 : V.frozen? ⟨D + 1, 2, none⟩ = false := hR.o.fz 2
  have g3 : V.frozen? ⟨D + 1, 3, none⟩ = false := hR.o.fz 3
  have g4 : V.frozen? ⟨D + 1, 4, none⟩ = false := hR.o.fz 4
  have g5 : V.frozen? ⟨D + 1, 5, none⟩ = false := hR.o.fz 5
  have g6 : V.frozen? ⟨D + 1, 6, none⟩ = false := hR.o.fz 6
  have g7 : V.frozen? ⟨D + 1, 7, none⟩ = false := hR.o.fz 7
  have g8 : V.frozen? ⟨D + 1, 8, none⟩ = false := hR.o.fz 8
  have g9 : V.frozen? ⟨D + 1, 9, none⟩ = false := hR.o.fz 9
  have g10 : V.frozen? ⟨D + 1, 10, none⟩ = false := hR.o.fz 10
  have x1 : V.cell? ⟨D, 1, none⟩ = some (.int .i64 xa) := hR.x.cell rfl
  go_upto_region 40 with fail
  have hS := hR.pc xa
  clear o0 o1 o2 o3 o4 o5 o6 o7 o8 o9 o10 g0 g1 g2 g3 g4 g5 g6 g7 g8 g9 g10 x0 x1
  generalize V.setCell ⟨D + 1, 1, none⟩ (.int .i64 xa) = V2 at *
  have o0 : V2.cell? ⟨D + 1, 0, none⟩ = some (.int .i64 pg) := hS.o.cell rfl
  have o1 : V2.cell? ⟨D + 1, 1, none⟩ = some (.int .i64 xa) := hS.o.cell rfl
  have o2 : V2.cell? ⟨D + 1, 2, none⟩ = some (.int .i64 (rs 0)) := hS.o.cell rfl
  have o3 : V2.cell? ⟨D + 1, 3, none⟩ = some (.int .i64 (rs 1)) := hS.o.cell rfl
  have o4 : V2.cell? ⟨D + 1, 4, none⟩ = some (.int .i64 (rs 2)) := hS.o.cell rfl
  have o5 : V2.cell? ⟨D + 1, 5, none⟩ = some (.int .i64 (rs 3)) := hS.o.cell rfl
  have o6 : V2.cell? ⟨D + 1, 6, none⟩ = some (.int .i64 (rs 4)) := hS.o.cell rfl
  have o7 : V2.cell? ⟨D + 1, 7, none⟩ = some (.int .i64 (rs 5)) := hS.o.cell rfl
  have o8 : V2.cell? ⟨D + 1, 8, none⟩ = some (.int .i64 (rs 6)) := hS.o.cell rfl
  have o9 : V2.cell? ⟨D + 1, 9, none⟩ = some (.int .i64 (rs 7)) := hS.o.cell rfl
  have o10 : V2.cell? ⟨D + 1, 10, none⟩ = some (.int .i64 dp) := hS.o.cell rfl
  have zz0 : V2.cell? ⟨w.heap.size + 1, 0, none⟩ = some (.int .i64 0) := hS.r.cell rfl
  have zz1 : V2.cell? ⟨w.heap.size + 1, 1, none⟩ = some (.int .i64 0) := hS.r.cell rfl
  have zz2 : V2.cell? ⟨w.heap.size + 1, 2, none⟩ = some (.int .i64 0) := hS.r.cell rfl
  have zz3 : V2.cell? ⟨w.heap.size + 1, 3, none⟩ = some (.int .i64 0) := hS.r.cell rfl
  have zz4 : V2.cell? ⟨w.heap.size + 1, 4, none⟩ = some (.int .i64 0) := hS.r.cell rfl
  have zz5 : V2.cell? ⟨w.heap.size + 1, 5, none⟩ = some (.int .i64 0) := hS.r.cell rfl
  have zz6 : V2.cell? ⟨w.heap.size + 1, 6, none⟩ = some (.int .i64 0) := hS.r.cell rfl
  have zz7 : V2.cell? ⟨w.heap.size + 1, 7, none⟩ = some (.int .i64 0) := hS.r.cell rfl
  have zz8 : V2.cell? ⟨w.heap.size + 1, 8, none⟩ = some (.int .i64 0) := hS.r.cell rfl
  have zz9 : V2.cell? ⟨w.heap.size + 1, 9, none⟩ = some (.int .i64 0) := hS.r.cell rfl
  have zz10 : V2.cell? ⟨w.heap.size + 1, 10, none⟩ = some (.int .i64 0) := hS.r.cell rfl
  have f0 : V2.frozen? ⟨w.heap.size + 1, 0, none⟩ = false := hS.r.fz 0
  have f1 : V2.frozen? ⟨w.heap.size + 1, 1, none⟩ = false := hS.r.fz 1
  have f2 : V2.frozen? ⟨w.heap.size + 1, 2, none⟩ = false := hS.r.fz 2
  have f3 : V2.frozen? ⟨w.heap.size + 1, 3, none⟩ = false := hS.r.fz 3
  have f4 : V2.frozen? ⟨w.heap.size + 1, 4, none⟩ = false := hS.r.fz 4
  have f5 : V2.frozen? ⟨w.heap.size + 1, 5, none⟩ = false := hS.r.fz 5
  have f6 : V2.frozen? ⟨w.heap.size + 1, 6, none⟩ = false := hS.r.fz 6
  have f7 : V2.frozen? ⟨w.heap.size + 1, 7, none⟩ = false := hS.r.fz 7
  have f8 : V2.frozen? ⟨w.heap.size + 1, 8, none⟩ = false := hS.r.fz 8
  have f9 : V2.frozen? ⟨w.heap.size + 1, 9, none⟩ = false := hS.r.fz 9
  have f10 : V2.frozen? ⟨w.heap.size + 1, 10, none⟩ = false := hS.r.fz 10
  have u0 : V2.cell? ⟨w.heap.size + 1 + 1, 0, none⟩ = some (.int .i64 0) := hS.q.cell rfl
  have u1 : V2.cell? ⟨w.heap.size + 1 + 1, 1, none⟩ = some (.int .i64 0) := hS.q.cell rfl
  have u2 : V2.cell? ⟨w.heap.size + 1 + 1, 2, none⟩ = some (.int .i64 0) := hS.q.cell rfl
  have u3 : V2.cell? ⟨w.heap.size + 1 + 1, 3, none⟩ = some (.int .i64 0) := hS.q.cell rfl
  have e0 : V2.frozen? ⟨w.heap.size + 1 + 1, 0, none⟩ = false := hS.q.fz 0
  have e1 : V2.frozen? ⟨w.heap.size + 1 + 1, 1, none⟩ = false := hS.q.fz 1
  have e2 : V2.frozen? ⟨w.heap.size + 1 + 1, 2, none⟩ = false := hS.q.fz 2
  have e3 : V2.frozen? ⟨w.heap.size + 1 + 1, 3, none⟩ = false := hS.q.fz 3
  go_wp2_with fail
  have nS : w.heap.size + 1 ≠ w.heap.size + 1 + 1 := by omega
  refine bodyPost_ret (results_XR rfl _ _ (w.heap.size + 1) (w.heap.size + 1 + 1) (toPC (⟨pg, (k : Int) + 1, rs, dp⟩ : Cx) xa) (z4) rfl rfl ?_ ?_) rfl ⟨rfl, ?_⟩
  · exact (Cel.over4 _ _ _ _ (Cel.fill11 _ _ _ _ _ _ _ _ _ _ _ hS.r) nS)
  · exact (Cel.fill4 _ _ _ _ (Cel.over11 _ _ _ _ _ _ _ _ _ _ _ hS.q nS.symm))
  · exact (below_fill4 _ _ _ _ (below_fill11 _ _ _ _ _ _ _ _ _ _ _ hS.b (Nat.le_refl _) (by omega)) (Nat.le_refl _) (by omega))

set_option maxRecDepth 100000 in
set_option maxHeartbeats 4000000 in
theorem rs_7y {w : World} {pg dp : Int} {rs : Nat → Int} {b o n cap k : Nat} {xa xb xc : Int} (hk : k < n) (hn : n ≤ 64) (hq : At4 w b (o + k * 4) (7, xa, xb, xc))
    (HW : ∀ W : World, Below w.heap.size w W → Calls Tryd.prog 19 #[.slice (some ⟨b, o, none⟩) n cap] W fun e w' => e = .returned (.bool true) ∧ Below W.heap.size W w')
    (HA : ∀ W : World, Calls Tryd.prog 23 #[.agg #[.int .i64 pg, .int .i64 (k : Int), .int .i64 (rs 0), .int .i64 (rs 1), .int .i64 (rs 2), .int .i64 (rs 3), .int .i64 (rs 4), .int .i64 (rs 5), .int .i64 (rs 6), .int .i64 (rs 7), .int .i64 dp], .int .i64 xa] W fun e w' => e = .returned (.int .i64 0) ∧ Below W.heap.size W w')
    : Calls Tryd.prog 11 #[.slice (some ⟨b, o, none⟩) n cap, .agg #[.int .i64 pg, .int .i64 (k : Int), .int .i64 (rs 0), .int .i64 (rs 1), .int .i64 (rs 2), .int .i64 (rs 3), .int .i64 (rs 4), .int .i64 (rs 5), .int .i64 (rs 6), .int .i64 (rs 7), .int .i64 dp]] w fun e w' => e = .returned (.tuple #[.agg (cxA (toPC (⟨pg, (k : Int) + 1, rs, dp⟩ : Cx) xb)), .agg (insC (z4))]) ∧ Below w.heap.size w w' := by
  have hmx := mixed
  have k0 : (0 : Int) ≤ (k : Int) := by omega
  have k1 : (k : Int) < (n : Int) := by omega
  have k2 : (k : Int) < 64 := by omega
  have eW : ∀ W : World, W = ((w.alloc (.cells #[.int .i64 pg, .int .i64 (k : Int), .int .i64 (rs 0), .int .i64 (rs 1), .int .i64 (rs 2), .int .i64 (rs 3), .int .i64 (rs 4), .int .i64 (rs 5), .int .i64 (rs 6), .int .i64 (rs 7), .int .i64 dp] 26)).alloc (.cells #[.int .i64 0, .int .i64 0, .int .i64 0, .int .i64 0, .int .i64 0, .int .i64 0, .int .i64 0, .int .i64 0, .int .i64 0, .int .i64 0, .int .i64 0] 26)).alloc (.cells #[.int .i64 0, .int .i64 0, .int .i64 0, .int .i64 0] 33) → Cel W (w.heap.size) #[.int .i64 pg, .int .i64 (k : Int), .int .i64 (rs 0), .int .i64 (rs 1), .int .i64 (rs 2), .int .i64 (rs 3), .int .i64 (rs 4), .int .i64 (rs 5), .int .i64 (rs 6), .int .i64 (rs 7), .int .i64 dp] 26 ∧ Cel W (w.heap.size + 1) #[.int .i64 0, .int .i64 0, .int .i64 0, .int .i64 0, .int .i64 0, .int .i64 0, .int .i64 0, .int .i64 0, .int .i64 0, .int .i64 0, .int .i64 0] 26 ∧ Cel W (w.heap.size + 1 + 1) #[.int .i64 0, .int .i64 0, .int .i64 0, .int .i64 0] 33 ∧ Below w.heap.size w W ∧ W.heap.size = w.heap.size + 1 + 1 + 1 := by
    rintro W rfl
    refine ⟨((Cel.new w _ 26).put (Below.heap_alloc _ _ _ (by simp))).put (Below.heap_alloc _ _ _ (by simp; omega)), ?_, ?_, (((Below.refl _ w).alloc (Nat.le_refl _) _).alloc (by simp) _).alloc (by simp; omega) _, by simp⟩
    · have h := Cel.new (w.alloc (.cells #[.int .i64 pg, .int .i64 (k : Int), .int .i64 (rs 0), .int .i64 (rs 1), .int .i64 (rs 2), .int .i64 (rs 3), .int .i64 (rs 4), .int .i64 (rs 5), .int .i64 (rs 6), .int .i64 (rs 7), .int .i64 dp] 26)) #[.int .i64 0, .int .i64 0, .int .i64 0, .int .i64 0, .int .i64 0, .int .i64 0, .int .i64 0, .int .i64 0, .int .i64 0, .int .i64 0, .int .i64 0] 26
      rw [World.size_alloc] at h
      exact h.put (Below.heap_alloc _ _ _ (by simp))
    · have h := Cel.new ((w.alloc (.cells #[.int .i64 pg, .int .i64 (k : Int), .int .i64 (rs 0), .int .i64 (rs 1), .int .i64 (rs 2), .int .i64 (rs 3), .int .i64 (rs 4), .int .i64 (rs 5), .int .i64 (rs 6), .int .i64 (rs 7), .int .i64 dp] 26)).alloc (.cells #[.int .i64 0, .int .i64 0, .int .i64 0, .int .i64 0, .int .i64 0, .int .i64 0, .int .i64 0, .int .i64 0, .int .i64 0, .int .i64 0, .int .i64 0] 26)) #[.int .i64 0, .int .i64 0, .int .i64 0, .int .i64 0] 33
      rw [World.size_alloc, World.size_alloc] at h
      exact h
  obtain ⟨hC, hZ, hQ, hB, hsz⟩ := eW _ rfl
  clear eW
  go_enter Tryd.func11, Tryd.ntmps11
  go_upto_region 1 with fail
  generalize ((w.alloc (.cells #[.int .i64 pg, .int .i64 (k : Int), .int .i64 (rs 0), .int .i64 (rs 1), .int .i64 (rs 2), .int .i64 (rs 3), .int .i64 (rs 4), .int .i64 (rs 5), .int .i64 (rs 6), .int .i64 (rs 7), .int .i64 dp] 26)).alloc (.cells #[.int .i64 0, .int .i64 0, .int .i64 0, .int .i64 0, .int .i64 0, .int .i64 0, .int .i64 0, .int .i64 0, .int .i64 0, .int .i64 0, .int .i64 0] 26)).alloc (.cells #[.int .i64 0, .int .i64 0, .int .i64 0, .int .i64 0] 33) = W at *
  have p1 : W.cell? ⟨w.heap.size, 1, none⟩ = some (.int .i64 (k : Int)) := hC.cell rfl
  go_upto_region 3 with (go_at_call 19; (refine (HW W hB).mono ?_); rintro e W1 ⟨rfl, hb1⟩)
  have hlt1 := hb1.size
  replace hC := hC.below hb1
  replace hZ := hZ.below hb1
  replace hQ := hQ.below hb1
  replace hB : Below w.heap.size w W1 := hB.trans (hb1.mono hB.size)
  replace hq := hq.below hB
  obtain ⟨i0, i1, i2, i3⟩ := hq
  clear p1 hb1 HW
  have p1 : W1.cell? ⟨w.heap.size, 1, none⟩ = some (.int .i64 (k : Int)) := hC.cell rfl
  go_upto_region 4 with fail
  have hb2 : Below W1.heap.size W1 (W1.alloc (.cells #[.int .i64 7, .int .i64 xa, .int .i64 xb, .int .i64 xc] 51)) := (Below.refl _ W1).alloc (Nat.le_refl _) _
  replace hC := hC.below hb2
  replace hZ := hZ.below hb2
  replace hQ := hQ.below hb2
  replace hB := hB.trans (hb2.mono hB.size)
  have hX := Cel.new W1 #[.int .i64 7, .int .i64 xa, .int .i64 xb, .int .i64 xc] 51
  have hsU : (W1.alloc (.cells #[.int .i64 7, .int .i64 xa, .int .i64 xb, .int .i64 xc] 51)).heap.size = W1.heap.size + 1 := by simp
  have hlD : w.heap.size + 1 + 1 < W1.heap.size := by omega
  clear hb2 hsz hlt1 i0 i1 i2 i3 p1
  generalize W1.alloc (.cells #[.int .i64 7, .int .i64 xa, .int .i64 xb, .int .i64 xc] 51) = U at *
  generalize W1.heap.size = D at *
  have cx0 : U.cell? ⟨w.heap.size, 0, none⟩ = some (.int .i64 pg) := hC.cell rfl
  have cx1 : U.cell? ⟨w.heap.size, 1, none⟩ = some (.int .i64 (k : Int)) := hC.cell rfl
  have cx2 : U.cell? ⟨w.heap.size, 2, none⟩ = some (.int .i64 (rs 0)) := hC.cell rfl
  have cx3 : U.cell? ⟨w.heap.size, 3, none⟩ = some (.int .i64 (rs 1)) := hC.cell rfl
  have cx4 : U.cell? ⟨w.heap.size, 4, none⟩ = some (.int .i64 (rs 2)) := hC.cell rfl
  have cx5 : U.cell? ⟨w.heap.size, 5, none⟩ = some (.int .i64 (rs 3)) := hC.cell rfl
  have cx6 : U.cell? ⟨w.heap.size, 6, none⟩ = some (.int .i64 (rs 4)) := hC.cell rfl
  have cx7 : U.cell? ⟨w.heap.size, 7, none⟩ = some (.int .i64 (rs 5)) := hC.cell rfl
  have cx8 : U.cell? ⟨w.heap.size, 8, none⟩ = some (.int .i64 (rs 6)) := hC.cell rfl
  have cx9 : U.cell? ⟨w.heap.size, 9, none⟩ = some (.int .i64 (rs 7)) := hC.cell rfl
  have cx10 : U.cell? ⟨w.heap.size, 10, none⟩ = some (.int .i64 dp) := hC.cell rfl
  go_upto_region 6 with fail
  have eV : ∀ V : World, V = U.alloc (.cells #[.int .i64 pg, .int .i64 ((k : Int) + 1), .int .i64 (rs 0), .int .i64 (rs 1), .int .i64 (rs 2), .int .i64 (rs 3), .int .i64 (rs 4), .int .i64 (rs 5), .int .i64 (rs 6), .int .i64 (rs 7), .int .i64 dp] 26) → RS w D (⟨pg, (k : Int), rs, dp⟩ : Cx) (⟨pg, (k : Int) + 1, rs, dp⟩ : Cx) (7, xa, xb, xc) V := by
    rintro V rfl
    have hb2 : Below U.heap.size U (U.alloc (.cells #[.int .i64 pg, .int .i64 ((k : Int) + 1), .int .i64 (rs 0), .int .i64 (rs 1), .int .i64 (rs 2), .int .i64 (rs 3), .int .i64 (rs 4), .int .i64 (rs 5), .int .i64 (rs 6), .int .i64 (rs 7), .int .i64 dp] 26)) := (Below.refl _ U).alloc (Nat.le_refl _) _
    refine ⟨hC.below hb2, hZ.below hb2, hQ.below hb2, hX.below hb2, ?_, hB.trans (hb2.mono hB.size), hlD⟩
    have h := Cel.new U #[.int .i64 pg, .int .i64 ((k : Int) + 1), .int .i64 (rs 0), .int .i64 (rs 1), .int .i64 (rs 2), .int .i64 (rs 3), .int .i64 (rs 4), .int .i64 (rs 5), .int .i64 (rs 6), .int .i64 (rs 7), .int .i64 dp] 26
    rw [hsU] at h
    exact h
  have hR := eV _ rfl
  clear eV hC hZ hQ hB hX cx0 cx1 cx2 cx3 cx4 cx5 cx6 cx7 cx8 cx9 cx10
  generalize U.alloc (.cells #[.int .i64 pg, .int .i64 ((k : Int) + 1), .int .i64 (rs 0), .int .i64 (rs 1), .int .i64 (rs 2), .int .i64 (rs 3), .int .i64 (rs 4), .int .i64 (rs 5), .int .i64 (rs 6), .int .i64 (rs 7), .int .i64 dp] 26) = V at *
  have x0 : V.cell? ⟨D, 0, none⟩ = some (.int .i64 7) := hR.x.cell rfl
  go_upto_region 25 with fail
  have c0 : V.cell? ⟨w.heap.size, 0, none⟩ = some (.int .i64 pg) := hR.c.cell rfl
  have c1 : V.cell? ⟨w.heap.size, 1, none⟩ = some (.int .i64 (k : Int)) := hR.c.cell rfl
  have c2 : V.cell? ⟨w.heap.size, 2, none⟩ = some (.int .i64 (rs 0)) := hR.c.cell rfl
  have c3 : V.cell? ⟨w.heap.size, 3, none⟩ = some (.int .i64 (rs 1)) := hR.c.cell rfl
  have c4 : V.cell? ⟨w.heap.size, 4, none⟩ = some (.int .i64 (rs 2)) := hR.c.cell rfl
  have c5 : V.cell? ⟨w.heap.size, 5, none⟩ = some (.int .i64 (rs 3)) := hR.c.cell rfl
  have c6 : V.cell? ⟨w.heap.size, 6, none⟩ = some (.int .i64 (rs 4)) := hR.c.cell rfl
  have c7 : V.cell? ⟨w.heap.size, 7, none⟩ = some (.int .i64 (rs 5)) := hR.c.cell rfl
  have c8 : V.cell? ⟨w.heap.size, 8, none⟩ = some (.int .i64 (rs 6)) := hR.c.cell rfl
  have c9 : V.cell? ⟨w.heap.size, 9, none⟩ = some (.int .i64 (rs 7)) := hR.c.cell rfl
  have c10 : V.cell? ⟨w.heap.size, 10, none⟩ = some (.int .i64 dp) := hR.c.cell rfl
  have x1 : V.cell? ⟨D, 1, none⟩ = some (.int .i64 xa) := hR.x.cell rfl
  go_upto_region 26 with (go_at_call 23; (refine (HA V).mono ?_); rintro e W2 ⟨rfl, hb2⟩)
  replace hR := hR.on hb2
  clear hb2 HA
  clear c0 c1 c2 c3 c4 c5 c6 c7 c8 c9 c10 x0 x1
  have o0 : W2.cell? ⟨D + 1, 0, none⟩ = some (.int .i64 pg) := hR.o.cell rfl
  have o1 : W2.cell? ⟨D + 1, 1, none⟩ = some (.int .i64 ((k : Int) + 1)) := hR.o.cell rfl
  have o2 : W2.cell? ⟨D + 1, 2, none⟩ = some (.int .i64 (rs 0)) := hR.o.cell rfl
  have o3 : W2.cell? ⟨D + 1, 3, none⟩ = some (.int .i64 (rs 1)) := hR.o.cell rfl
  have o4 : W2.cell? ⟨D + 1, 4, none⟩ = some (.int .i64 (rs 2)) := hR.o.cell rfl
  have o5 : W2.cell? ⟨D + 1, 5, none⟩ = some (.int .i64 (rs 3)) := hR.o.cell rfl
  have o6 : W2.cell? ⟨D + 1, 6, none⟩ = some (.int .i64 (rs 4)) := hR.o.cell rfl
  have o7 : W2.cell? ⟨D + 1, 7, none⟩ = some (.int .i64 (rs 5)) := hR.o.cell rfl
  have o8 : W2.cell? ⟨D + 1, 8, none⟩ = some (.int .i64 (rs 6)) := hR.o.cell rfl
  have o9 : W2.cell? ⟨D + 1, 9, none⟩ = some (.int .i64 (rs 7)) := hR.o.cell rfl
  have o10 : W2.cell? ⟨D + 1, 10, none⟩ = some (.int .i64 dp) := hR.o.cell rfl
  have g0 : W2.frozen? ⟨D + 1, 0, none⟩ = false := hR.o.fz 0
  have g1 : W2.frozen? ⟨D + 1, 1, none⟩ = false := hR.o.fz 1
  have g2 : W2.frozen? ⟨D + 1, 2, none⟩ = false := hR.o.fz 2
  have g3 : W2.frozen? ⟨D + 1, 3, none⟩ = false := hR.o.fz 3
  have g4 : W2.frozen? ⟨D + 1, 4, none⟩ = false := hR.o.fz 4
  have g5 : W2.frozen? ⟨D + 1, 5, none⟩ = false := hR.o.fz 5
  have g6 : W2.frozen? ⟨D + 1, 6, none⟩ = false := hR.o.fz 6
  have g7 : W2.frozen? ⟨D + 1, 7, none⟩ = false := hR.o.fz 7
  have g8 : W2.frozen? ⟨D + 1, 8, none⟩ = false := hR.o.fz 8
  have g9 : W2.frozen? ⟨D + 1, 9, none⟩ = false := hR.o.fz 9
  have g10 : W2.frozen? ⟨D + 1, 10, none⟩ = false := hR.o.fz 10
  have x2 : W2.cell? ⟨D, 2, none⟩ = some (.int .i64 xb) := hR.x.cell rfl
  go_upto_region 40 with fail
  have hS := hR.pc xb
  clear o0 o1 o2 o3 o4 o5 o6 o7 o8 o9 o10 g0 g1 g2 g3 g4 g5 g6 g7 g8 g9 g10 x2
  generalize W2.setCell ⟨D + 1, 1, none⟩ (.int .i64 xb) = V2 at *
  have o0 : V2.cell? ⟨D + 1, 0, none⟩ = some (.int .i64 pg) := hS.o.cell rfl
  have o1 : V2.cell? ⟨D + 1, 1, none⟩ = some (.int .i64 xb) := hS.o.cell rfl
  have o2 : V2.cell? ⟨D + 1, 2, none⟩ = some (.int .i64 (rs 0)) := hS.o.cell rfl
  have o3 : V2.cell? ⟨D + 1, 3, none⟩ = some (.int .i64 (rs 1)) := hS.o.cell rfl
  have o4 : V2.cell? ⟨D + 1, 4, none⟩ = some (.int .i64 (rs 2)) := hS.o.cell rfl
  have o5 : V2.cell? ⟨D + 1, 5, none⟩ = some (.int .i64 (rs 3)) := hS.o.cell rfl
  have o6 : V2.cell? ⟨D + 1, 6, none⟩ = some (.int .i64 (rs 4)) := hS.o.cell rfl
  have o7 : V2.cell? ⟨D + 1, 7, none⟩ = some (.int .i64 (rs 5)) := hS.o.cell rfl
  have o8 : V2.cell? ⟨D + 1, 8, none⟩ = some (.int .i64 (rs 6)) := hS.o.cell rfl
  have o9 : V2.cell? ⟨D + 1, 9, none⟩ = some (.int .i64 (rs 7)) := hS.o.cell rfl
  have o10 : V2.cell? ⟨D + 1, 10, none⟩ = some (.int .i64 dp) := hS.o.cell rfl
  have zz0 : V2.cell? ⟨w.heap.size + 1, 0, none⟩ = some (.int .i64 0) := hS.r.cell rfl
  have zz1 : V2.cell? ⟨w.heap.size + 1, 1, none⟩ = some (.int .i64 0) := hS.r.cell rfl
  have zz2 : V2.cell? ⟨w.heap.size + 1, 2, none⟩ = some (.int .i64 0) := hS.r.cell rfl
  have zz3 : V2.cell? ⟨w.heap.size + 1, 3, none⟩ = some (.int .i64 0) := hS.r.cell rfl
  have zz4 : V2.cell? ⟨w.heap.size + 1, 4, none⟩ = some (.int .i64 0) := hS.r.cell rfl
  have zz5 : V2.cell? ⟨w.heap.size + 1, 5, none⟩ = some (.int .i64 0) := hS.r.cell rfl
  have zz6 : V2.cell? ⟨w.heap.size + 1, 6, none⟩ = some (.int .i64 0) := hS.r.cell rfl
  have zz7 : V2.cell? ⟨w.heap.size + 1, 7, none⟩ = some (.int .i64 0) := hS.r.cell rfl
  have zz8 : V2.cell? ⟨w.heap.size + 1, 8, none⟩ = some (.int .i64 0) := hS.r.cell rfl
  have zz9 : V2.cell? ⟨w.heap.size + 1, 9, none⟩ = some (.int .i64 0) := hS.r.cell rfl
  have zz10 : V2.cell? ⟨w.heap.size + 1, 10, none⟩ = some (.int .i64 0) := hS.r.cell rfl
  have f0 : V2.frozen? ⟨w.heap.size + 1, 0, none⟩ = false := hS.r.fz 0
  have f1 : V2.frozen? ⟨w.heap.size + 1, 1, none⟩ = false := hS.r.fz 1
  have f2 : V2.frozen? ⟨w.heap.size + 1, 2, none⟩ = false := hS.r.fz 2
  have f3 : V2.frozen? ⟨w.heap.size + 1, 3, none⟩ = false := hS.r.fz 3
  have f4 : V2.frozen? ⟨w.heap.size + 1, 4, none⟩ = false := hS.r.fz 4
  have f5 : V2.frozen? ⟨w.heap.size + 1, 5, none⟩ = false := hS.r.fz 5
  have f6 : V2.frozen? ⟨w.heap.size + 1, 6, none⟩ = false := hS.r.fz 6
  have f7 : V2.frozen? ⟨w.heap.size + 1, 7, none⟩ = false := hS.r.fz 7
  have f8 : V2.frozen? ⟨w.heap.size + 1, 8, none⟩ = false := hS.r.fz 8
  have f9 : V2.frozen? ⟨w.heap.size + 1, 9, none⟩ = false := hS.r.fz 9
  have f10 : V2.frozen? ⟨w.heap.size + 1, 10, none⟩ = false := hS.r.fz 10
  have u0 : V2.cell? ⟨w.heap.size + 1 + 1, 0, none⟩ = some (.int .i64 0) := hS.q.cell rfl
  have u1 : V2.cell? ⟨w.heap.size + 1 + 1, 1, none⟩ = some (.int .i64 0) := hS.q.cell rfl
  have u2 : V2.cell? ⟨w.heap.size + 1 + 1, 2, none⟩ = some (.int .i64 0) := hS.q.cell rfl
  have u3 : V2.cell? ⟨w.heap.size + 1 + 1, 3, none⟩ = some (.int .i64 0) := hS.q.cell rfl
  have e0 : V2.frozen? ⟨w.heap.size + 1 + 1, 0, none⟩ = false := hS.q.fz 0
  have e1 : V2.frozen? ⟨w.heap.size + 1 + 1, 1, none⟩ = false := hS.q.fz 1
  have e2 : V2.frozen? ⟨w.heap.size + 1 + 1, 2, none⟩ = false := hS.q.fz 2
  have e3 : V2.frozen? ⟨w.heap.size + 1 + 1, 3, none⟩ = false := hS.q.fz 3
  go_wp2_with fail
  have nS : w.heap.size + 1 ≠ w.heap.size + 1 + 1 := by omega
  refine bodyPost_ret (results_XR rfl _ _ (w.heap.size + 1) (w.heap.size + 1 + 1) (toPC (⟨pg, (k : Int) + 1, rs, dp⟩ : Cx) xb) (z4) rfl rfl ?_ ?_) rfl ⟨rfl, ?_⟩
  · exact (Cel.over4 _ _ _ _ (Cel.fill11 _ _ _ _ _ _ _ _ _ _ _ hS.r) nS)
  · exact (Cel.fill4 _ _ _ _ (Cel.over11 _ _ _ _ _ _ _ _ _ _ _ hS.q nS.symm))
  · exact (below_fill4 _ _ _ _ (below_fill11 _ _ _ _ _ _ _ _ _ _ _ hS.b (Nat.le_refl _) (by omega)) (Nat.le_refl _) (by omega))

set_option maxRecDepth 100000 in
set_option maxHeartbeats 4000000 in
theorem rs_7n {w : World} {pg dp : Int} {rs : Nat → Int} {b o n cap k : Nat} {xa xb xc : Int} {ga : Int} (hc : ga ≠ 0) (hk : k < n) (hn : n ≤ 64) (hq : At4 w b (o + k * 4) (7, xa, xb, xc))
    (HW : ∀ W : World, Below w.heap.size w W → Calls Tryd.prog 19 #[.slice (some ⟨b, o, none⟩) n cap] W fun e w' => e = .returned (.bool true) ∧ Below W.heap.size W w')
    (HA : ∀ W : World, Calls Tryd.prog 23 #[.agg #[.int .i64 pg, .int .i64 (k : Int), .int .i64 (rs 0), .int .i64 (rs 1), .int .i64 (rs 2), .int .i64 (rs 3), .int .i64 (rs 4), .int .i64 (rs 5), .int .i64 (rs 6), .int .i64 (rs 7), .int .i64 dp], .int .i64 xa] W fun e w' => e = .returned (.int .i64 ga) ∧ Below W.heap.size W w')
    : Calls Tryd.prog 11 #[.slice (some ⟨b, o, none⟩) n cap, .agg #[.int .i64 pg, .int .i64 (k : Int), .int .i64 (rs 0), .int .i64 (rs 1), .int .i64 (rs 2), .int .i64 (rs 3), .int .i64 (rs 4), .int .i64 (rs 5), .int .i64 (rs 6), .int .i64 (rs 7), .int .i64 dp]] w fun e w' => e = .returned (.tuple #[.agg (cxA ((⟨pg, (k : Int) + 1, rs, dp⟩ : Cx))), .agg (insC (z4))]) ∧ Below w.heap.size w w' := by
  have hmx := mixed
  have k0 : (0 : Int) ≤ (k : Int) := by omega
  have k1 : (k : Int) < (n : Int) := by omega
  have k2 : (k : Int) < 64 := by omega
  have eW : ∀ W : World, W = ((w.alloc (.cells #[.int .i64 pg, .int .i64 (k : Int), .int .i64 (rs 0), .int .i64 (rs 1), .int .i64 (rs 2), .int .i64 (rs 3), .int .i64 (rs 4), .int .i64 (rs 5), .int .i64 (rs 6), .int .i64 (rs 7), .int .i64 dp] 26)).alloc (.cells #[.int .i64 0, .int .i64 0, .int .i64 0, .int .i64 0, .int .i64 0, .int .i64 0, .int .i64 0, .int .i64 0, .int .i64 0, .int .i64 0, .int .i64 0] 26)).alloc (.cells #[.int .i64 0, .int .i64 0, .int .i64 0, .int .i64 0] 33) → Cel W (w.heap.size) #[.int .i64 pg, .int .i64 (k : Int), .int .i64 (rs 0), .int .i64 (rs 1), .int .i64 (rs 2), .int .i64 (rs 3), .int .i64 (rs 4), .int .i64 (rs 5), .int .i64 (rs 6), .int .i64 (rs 7), .int .i64 dp] 26 ∧ Cel W (w.heap.size + 1) #[.int .i64 0, .int .i64 0, .int .i64 0, .int .i64 0, .int .i64 0, .int .i64 0, .int .i64 0, .int .i64 0, .int .i64 0, .int .i64 0, .int .i64 0] 26 ∧ Cel W (w.heap.size + 1 + 1) #[.int .i64 0, .int .i64 0, .int .i64 0, .int .i64 0] 33 ∧ Below w.heap.size w W ∧ W.heap.size = w.heap.size + 1 + 1 + 1 := by
    rintro W rfl
    refine ⟨((Cel.new w _ 26).put (Below.heap_alloc _ _ _ (by simp))).put (Below.heap_alloc _ _ _ (by simp; omega)), ?_, ?_, (((Below.refl _ w).alloc (Nat.le_refl _) _).alloc (by simp) _).alloc (by simp; omega) _, by simp⟩
    · have h := Cel.new (w.alloc (.cells #[.int .i64 pg, .int .i64 (k : Int), .int .i64 (rs 0), .int .i64 (rs 1), .int .i64 (rs 2), .int .i64 (rs 3), .int .i64 (rs 4), .int .i64 (rs 5), .int .i64 (rs 6), .int .i64 (rs 7), .int .i64 dp] 26)) #[.int .i64 0, .int .i64 0, .int .i64 0, .int .i64 0, .int .i64 0, .int .i64 0, .int .i64 0, .int .i64 0, .int .i64 0, .int .i64 0, .int .i64 0] 26
      rw [World.size_alloc] at h
      exact h.put (Below.heap_alloc _ _ _ (by simp))
    · have h := Cel.new ((w.alloc (.cells #[.int .i64 pg, .int .i64 (k : Int), .int .i64 (rs 0), .int .i64 (rs 1), .int .i64 (rs 2), .int .i64 (rs 3), .int .i64 (rs 4), .int .i64 (rs 5), .int .i64 (rs 6), .int .i64 (rs 7), .int .i64 dp] 26)).alloc (.cells #[.int .i64 0, .int .i64 0, .int .i64 0, .int .i64 0, .int .i64 0, .int .i64 0, .int .i64 0, .int .i64 0, .int .i64 0, .int .i64 0, .int .i64 0] 26)) #[.int .i64 0, .int .i64 0, .int .i64 0, .int .i64 0] 33
      rw [World.size_alloc, World.size_alloc] at h
      exact h
  obtain ⟨hC, hZ, hQ, hB, hsz⟩ := eW _ rfl
  clear eW
  go_enter Tryd.func11, Tryd.ntmps11
  go_upto_region 1 with fail
  generalize ((w.alloc (.cells #[.int .i64 pg, .int .i64 (k : Int), .int .i64 (rs 0), .int .i64 (rs 1), .int .i64 (rs 2), .int .i64 (rs 3), .int .i64 (rs 4), .int .i64 (rs 5), .int .i64 (rs 6), .int .i64 (rs 7), .int .i64 dp] 26)).alloc (.cells #[.int .i64 0, .int .i64 0, .int .i64 0, .int .i64 0, .int .i64 0, .int .i64 0, .int .i64 0, .int .i64 0, .int .i64 0, .int .i64 0, .int .i64 0] 26)).alloc (.cells #[.int .i64 0, .int .i64 0, .int .i64 0, .int .i64 0] 33) = W at *
  have p1 : W.cell? ⟨w.heap.size, 1, none⟩ = some (.int .i64 (k : Int)) := hC.cell rfl
  go_upto_region 3 with (go_at_call 19; (refine (HW W hB).mono ?_); rintro e W1 ⟨rfl, hb1⟩)
  have hlt1 := hb1.size
  replace hC := hC.below hb1
  replace hZ := hZ.below hb1
  replace hQ := hQ.below hb1
  replace hB : Below w.heap.size w W1 := hB.trans (hb1.mono hB.size)
  replace hq := hq.below hB
  obtain ⟨i0, i1, i2, i3⟩ := hq
  clear p1 hb1 HW
  have p1 : W1.cell? ⟨w.heap.size, 1, none⟩ = some (.int .i64 (k : Int)) := hC.cell rfl
  go_upto_region 4 with fail
  have hb2 : Below W1.heap.size W1 (W1.alloc (.cells #[.int .i64 7, .int .i64 xa, .int .i64 xb, .int .i64 xc] 51)) := (Below.refl _ W1).alloc (Nat.le_refl _) _
  replace hC := hC.below hb2
  replace hZ := hZ.below hb2
  replace hQ := hQ.below hb2
  replace hB := hB.trans (hb2.mono hB.size)
  have hX := Cel.new W1 #[.int .i64 7, .int .i64 xa, .int .i64 xb, .int .i64 xc] 51
  have hsU : (W1.alloc (.cells #[.int .i64 7, .int .i64 xa, .int .i64 xb, .int .i64 xc] 51)).heap.size = W1.heap.size + 1 := by simp
  have hlD : w.heap.size + 1 + 1 < W1.heap.size := by omega
  clear hb2 hsz hlt1 i0 i1 i2 i3 p1
  generalize W1.alloc (.cells #[.int .i64 7, .int .i64 xa, .int .i64 xb, .int .i64 xc] 51) = U at *
  generalize W1.heap.size = D at *
  have cx0 : U.cell? ⟨w.heap.size, 0, none⟩ = some (.int .i64 pg) := hC.cell rfl
  have cx1 : U.cell? ⟨w.heap.size, 1, none⟩ = some (.int .i64 (k : Int)) := hC.cell rfl
  have cx2 : U.cell? ⟨w.heap.size, 2, none⟩ = some (.int .i64 (rs 0)) := hC.cell rfl
  have cx3 : U.cell? ⟨w.heap.size, 3, none⟩ = some (.int .i64 (rs 1)) := hC.cell rfl
  have cx4 : U.cell? ⟨w.heap.size, 4, none⟩ = some (.int .i64 (rs 2)) := hC.cell rfl
  have cx5 : U.cell? ⟨w.heap.size, 5, none⟩ = some (.int .i64 (rs 3)) := hC.cell rfl
  have cx6 : U.cell? ⟨w.heap.size, 6, none⟩ = some (.int .i64 (rs 4)) := hC.cell rfl
  have cx7 : U.cell? ⟨w.heap.size, 7, none⟩ = some (.int .i64 (rs 5)) := hC.cell rfl
  have cx8 : U.cell? ⟨w.heap.size, 8, none⟩ = some (.int .i64 (rs 6)) := hC.cell rfl
  have cx9 : U.cell? ⟨w.heap.size, 9, none⟩ = some (.int .i64 (rs 7)) := hC.cell rfl
  have cx10 : U.cell? ⟨w.heap.size, 10, none⟩ = some (.int .i64 dp) := hC.cell rfl
  go_upto_region 6 with fail
  have eV : ∀ V : World, V = U.alloc (.cells #[.int .i64 pg, .int .i64 ((k : Int) + 1), .int .i64 (rs 0), .int .i64 (rs 1), .int .i64 (rs 2), .int .i64 (rs 3), .int .i64 (rs 4), .int .i64 (rs 5), .int .i64 (rs 6), .int .i64 (rs 7), .int .i64 dp] 26) → RS w D (⟨pg, (k : Int), rs, dp⟩ : Cx) (⟨pg, (k : Int) + 1, rs, dp⟩ : Cx) (7, xa, xb, xc) V := by
    rintro V rfl
    have hb2 : Below U.heap.size U (U.alloc (.cells #[.int .i64 pg, .int .i64 ((k : Int) + 1), .int .i64 (rs 0), .int .i64 (rs 1), .int .i64 (rs 2), .int .i64 (rs 3), .int .i64 (rs 4), .int .i64 (rs 5), .int .i64 (rs 6), .int .i64 (rs 7), .int .i64 dp] 26)) := (Below.refl _ U).alloc (Nat.le_refl _) _
    refine ⟨hC.below hb2, hZ.below hb2, hQ.below hb2, hX.below hb2, ?_, hB.trans (hb2.mono hB.size), hlD⟩
    have h := Cel.new U #[.int .i64 pg, .int .i64 ((k : Int) + 1), .int .i64 (rs 0), .int .i64 (rs 1), .int .i64 (rs 2), .int .i64 (rs 3), .int .i64 (rs 4), .int .i64 (rs 5), .int .i64 (rs 6), .int .i64 (rs 7), .int .i64 dp] 26
    rw [hsU] at h
    exact h
  have hR := eV _ rfl
  clear eV hC hZ hQ hB hX cx0 cx1 cx2 cx3 cx4 cx5 cx6 cx7 cx8 cx9 cx10
  generalize U.alloc (.cells #[.int .i64 pg, .int .i64 ((k : Int) + 1), .int .i64 (rs 0), .int .i64 (rs 1), .int .i64 (rs 2), .int .i64 (rs 3), .int .i64 (rs 4), .int .i64 (rs 5), .int .i64 (rs 6), .int .i64 (rs 7), .int .i64 dp] 26) = V at *
  have x0 : V.cell? ⟨D, 0, none⟩ = some (.int .i64 7) := hR.x.cell rfl
  go_upto_region 25 with fail
  have c0 : V.cell? ⟨w.heap.size, 0, none⟩ = some (.int .i64 pg) := hR.c.cell rfl
  have c1 : V.cell? ⟨w.heap.size, 1, none⟩ = some (.int .i64 (k : Int)) := hR.c.cell rfl
  have c2 : V.cell? ⟨w.heap.size, 2, none⟩ = some (.int .i64 (rs 0)) := hR.c.cell rfl
  have c3 : V.cell? ⟨w.heap.size, 3, none⟩ = some (.int .i64 (rs 1)) := hR.c.cell rfl
  have c4 : V.cell? ⟨w.heap.size, 4, none⟩ = some (.int .i64 (rs 2)) := hR.c.cell rfl
  have c5 : V.cell? ⟨w.heap.size, 5, none⟩ = some (.int .i64 (rs 3)) := hR.c.cell rfl
  have c6 : V.cell? ⟨w.heap.size, 6, none⟩ = some (.int .i64 (rs 4)) := hR.c.cell rfl
  have c7 : V.cell? ⟨w.heap.size, 7, none⟩ = some (.int .i64 (rs 5)) := hR.c.cell rfl
  have c8 : V.cell? ⟨w.heap.size, 8, none⟩ = some (.int .i64 (rs 6)) := hR.c.cell rfl
  have c9 : V.cell? ⟨w.heap.size, 9, none⟩ = some (.int .i64 (rs 7)) := hR.c.cell rfl
  have c10 : V.cell? ⟨w.heap.size, 10, none⟩ = some (.int .i64 dp) := hR.c.cell rfl
  have x1 : V.cell? ⟨D, 1, none⟩ = some (.int .i64 xa) := hR.x.cell rfl
  go_upto_region 40 with (go_at_call 23; (refine (HA V).mono ?_); rintro e W2 ⟨rfl, hb2⟩)
  replace hR := hR.on hb2
  clear hb2 HA
  clear c0 c1 c2 c3 c4 c5 c6 c7 c8 c9 c10 x0 x1
  have o0 : W2.cell? ⟨D + 1, 0, none⟩ = some (.int .i64 pg) := hR.o.cell rfl
  have o1 : W2.cell? ⟨D + 1, 1, none⟩ = some (.int .i64 ((k : Int) + 1)) := hR.o.cell rfl
  have o2 : W2.cell? ⟨D + 1, 2, none⟩ = some (.int .i64 (rs 0)) := hR.o.cell rfl
  have o3 : W2.cell? ⟨D + 1, 3, none⟩ = some (.int .i64 (rs 1)) := hR.o.cell rfl
  have o4 : W2.cell? ⟨D + 1, 4, none⟩ = some (.int .i64 (rs 2)) := hR.o.cell rfl
  have o5 : W2.cell? ⟨D + 1, 5, none⟩ = some (.int .i64 (rs 3)) := hR.o.cell rfl
  have o6 : W2.cell? ⟨D + 1, 6, none⟩ = some (.int .i64 (rs 4)) := hR.o.cell rfl
  have o7 : W2.cell? ⟨D + 1, 7, none⟩ = some (.int .i64 (rs 5)) := hR.o.cell rfl
  have o8 : W2.cell? ⟨D + 1, 8, none⟩ = some (.int .i64 (rs 6)) := hR.o.cell rfl
  have o9 : W2.cell? ⟨D + 1, 9, none⟩ = some (.int .i64 (rs 7)) := hR.o.cell rfl
  have o10 : W2.cell? ⟨D + 1, 10, none⟩ = some (.int .i64 dp) := hR.o.cell rfl
  have zz0 : W2.cell? ⟨w.heap.size + 1, 0, none⟩ = some (.int .i64 0) := hR.r.cell rfl
  have zz1 : W2.cell? ⟨w.heap.size + 1, 1, none⟩ = some (.int .i64 0) := hR.r.cell rfl
  have zz2 : W2.cell? ⟨w.heap.size + 1, 2, none⟩ = some (.int .i64 0) := hR.r.cell rfl
  have zz3 : W2.cell? ⟨w.heap.size + 1, 3, none⟩ = some (.int .i64 0) := hR.r.cell rfl
  have zz4 : W2.cell? ⟨w.heap.size + 1, 4, none⟩ = some (.int .i64 0) := hR.r.cell rfl
  have zz5 : W2.cell? ⟨w.heap.size + 1, 5, none⟩ = some (.int .i64 0) := hR.r.cell rfl
  have zz6 : W2.cell? ⟨w.heap.size + 1, 6, none⟩ = some (.int .i64 0) := hR.r.cell rfl
  have zz7 : W2.cell? ⟨w.heap.size + 1, 7, none⟩ = some (.int .i64 0) := hR.r.cell rfl
  have zz8 : W2.cell? ⟨w.heap.size + 1, 8, none⟩ = some (.int .i64 0) := hR.r.cell rfl
  have zz9 : W2.cell? ⟨w.heap.size + 1, 9, none⟩ = some (.int .i64 0) := hR.r.cell rfl
  have zz10 : W2.cell? ⟨w.heap.size + 1, 10, none⟩ = some (.int .i64 0) := hR.r.cell rfl
  have f0 : W2.frozen? ⟨w.heap.size + 1, 0, none⟩ = false := hR.r.fz 0
  have f1 : W2.frozen? ⟨w.heap.size + 1, 1, none⟩ = false := hR.r.fz 1
  have f2 : W2.frozen? ⟨w.heap.size + 1, 2, none⟩ = false := hR.r.fz 2
  have f3 : W2.frozen? ⟨w.heap.size + 1, 3, none⟩ = false := hR.r.fz 3
  have f4 : W2.frozen? ⟨w.heap.size + 1, 4, none⟩ = false := hR.r.fz 4
  have f5 : W2.frozen? ⟨w.heap.size + 1, 5, none⟩ = false := hR.r.fz 5
  have f6 : W2.frozen? ⟨w.heap.size + 1, 6, none⟩ = false := hR.r.fz 6
  have f7 : W2.frozen? ⟨w.heap.size + 1, 7, none⟩ = false := hR.r.fz 7
  have f8 : W2.frozen? ⟨w.heap.size + 1, 8, none⟩ = false := hR.r.fz 8
  have f9 : W2.frozen? ⟨w.heap.size + 1, 9, none⟩ = false := hR.r.fz 9
  have f10 : W2.frozen? ⟨w.heap.size + 1, 10, none⟩ = false := hR.r.fz 10
  have u0 : W2.cell? ⟨w.heap.size + 1 + 1, 0, none⟩ = some (.int .i64 0) := hR.q.cell rfl
  have u1 : W2.cell? ⟨w.heap.size + 1 + 1, 1, none⟩ = some (.int .i64 0) := hR.q.cell rfl
  have u2 : W2.cell? ⟨w.heap.size + 1 + 1, 2, none⟩ = some (.int .i64 0) := hR.q.cell rfl
  have u3 : W2.cell? ⟨w.heap.size + 1 + 1, 3, none⟩ = some (.int .i64 0) := hR.q.cell rfl
  have e0 : W2.frozen? ⟨w.heap.size + 1 + 1, 0, none⟩ = false := hR.q.fz 0
  have e1 : W2.frozen? ⟨w.heap.size + 1 + 1, 1, none⟩ = false := hR.q.fz 1
  have e2 : W2.frozen? ⟨w.heap.size + 1 + 1, 2, none⟩ = false := hR.q.fz 2
  have e3 : W2.frozen? ⟨w.heap.size + 1 + 1, 3, none⟩ = false := hR.q.fz 3
  go_wp2_with fail
  have nS : w.heap.size + 1 ≠ w.heap.size + 1 + 1 := by omega
  refine bodyPost_ret (results_XR rfl _ _ (w.heap.size + 1) (w.heap.size + 1 + 1) ((⟨pg, (k : Int) + 1, rs, dp⟩ : Cx)) (z4) rfl rfl ?_ ?_) rfl ⟨rfl, ?_⟩
  · exact (Cel.over4 _ _ _ _ (Cel.fill11 _ _ _ _ _ _ _ _ _ _ _ hR.r) nS)
  · exact (Cel.fill4 _ _ _ _ (Cel.over11 _ _ _ _ _ _ _ _ _ _ _ hR.q nS.symm))
  · exact (below_fill4 _ _ _ _ (below_fill11 _ _ _ _ _ _ _ _ _ _ _ hR.b (Nat.le_refl _) (by omega)) (Nat.le_refl _) (by omega))

end Go.Proofs.YtllnpkijojpccaaDoor
