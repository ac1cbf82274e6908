/- The reference's Step, operations by themselves (G). -/
import Derived.Test.YtllnpkijojpccaaDoorRSt
namespace Go.Proofs.YtllnpkijojpccaaDoor
open Go Go.RowKit Go.Shelf

set_option maxRecDepth 100000 in
set_option maxHeartbeats 4000000 in
theorem rs_oth {w : World} {pg dp : Int} {rs : Nat → Int} {b o n cap k : Nat} {xa xb xc op : Int} (hk : k < n) (hn : n ≤ 64) (hq : At4 w b (o + k * 4) (op, xa, xb, xc)) (ho : Oth op)
    (HW : ∀ W : World, Below w.heap.size w W → Calls Tryd.prog 19 #[.slice (some ⟨b, o, none⟩) n cap] W fun e w' => e = .returned (.bool true) ∧ Below W.heap.size W w')
    : Calls Tryd.prog 11 #[.slice (some ⟨b, o, none⟩) n cap, .agg #[.int .i64 pg, .int .i64 (k : Int), .int .i64 (rs 0), .int .i64 (rs 1), .int .i64 (rs 2), .int .i64 (rs 3), .int .i64 (rs 4), .int .i64 (rs 5), .int .i64 (rs 6), .int .i64 (rs 7), .int .i64 dp]] w fun e w' => e = .returned (.tuple #[.agg (cxA ((⟨pg, (k : Int) + 1, rs, dp⟩ : Cx))), .agg (insC ((op, xa, xb, xc)))]) ∧ Below w.heap.size w w' := by
  have n0 : op ≠ 0 := by unfold Oth at ho; omega
  have n1 : op ≠ 1 := by unfold Oth at ho; omega
  have n2 : op ≠ 2 := by unfold Oth at ho; omega
  have n3 : op ≠ 3 := by unfold Oth at ho; omega
  have n4 : op ≠ 4 := by unfold Oth at ho; omega
  have n5 : op ≠ 5 := by unfold Oth at ho; omega
  have n6 : op ≠ 6 := by unfold Oth at ho; omega
  have n7 : op ≠ 7 := by unfold Oth at ho; omega
  have n8 : op ≠ 8 := by unfold Oth at ho; omega
  have n9 : op ≠ 9 := by unfold Oth at ho; omega
  have n10 : op ≠ 10 := by unfold Oth at ho; omega
  have n11 : op ≠ 11 := by unfold Oth at ho; omega
  have n14 : op ≠ 14 := by unfold Oth at ho; omega
  clear ho
  have hmx := mixed
  have k0 : (0 : Int) ≤ (k : Int) := by omega
  have k1 : (k : Int) < (n : Int) := by omega
  have k2 : (k : Int) < 64 := by omega
  have eW : ∀ W : World, W = ((w.alloc (.cells #[.int .i64 pg, .int .i64 (k : Int), .int .i64 (rs 0), .int .i64 (rs 1), .int .i64 (rs 2), .int .i64 (rs 3), .int .i64 (rs 4), .int .i64 (rs 5), .int .i64 (rs 6), .int .i64 (rs 7), .int .i64 dp] 26)).alloc (.cells #[.int .i64 0, .int .i64 0, .int .i64 0, .int .i64 0, .int .i64 0, .int .i64 0, .int .i64 0, .int .i64 0, .int .i64 0, .int .i64 0, .int .i64 0] 26)).alloc (.cells #[.int .i64 0, .int .i64 0, .int .i64 0, .int .i64 0] 33) → Cel W (w.heap.size) #[.int .i64 pg, .int .i64 (k : Int), .int .i64 (rs 0), .int .i64 (rs 1), .int .i64 (rs 2), .int .i64 (rs 3), .int .i64 (rs 4), .int .i64 (rs 5), .int .i64 (rs 6), .int .i64 (rs 7), .int .i64 dp] 26 ∧ Cel W (w.heap.size + 1) #[.int .i64 0, .int .i64 0, .int .i64 0, .int .i64 0, .int .i64 0, .int .i64 0, .int .i64 0, .int .i64 0, .int .i64 0, .int .i64 0, .int .i64 0] 26 ∧ Cel W (w.heap.size + 1 + 1) #[.int .i64 0, .int .i64 0, .int .i64 0, .int .i64 0] 33 ∧ Below w.heap.size w W ∧ W.heap.size = w.heap.size + 1 + 1 + 1 := by
    rintro W rfl
    refine ⟨((Cel.new w _ 26).put (Below.heap_alloc _ _ _ (by simp))).put (Below.heap_alloc _ _ _ (by simp; omega)), ?_, ?_, (((Below.refl _ w).alloc (Nat.le_refl _) _).alloc (by simp) _).alloc (by simp; omega) _, by simp⟩
    · have h := Cel.new (w.alloc (.cells #[.int .i64 pg, .int .i64 (k : Int), .int .i64 (rs 0), .int .i64 (rs 1), .int .i64 (rs 2), .int .i64 (rs 3), .int .i64 (rs 4), .int .i64 (rs 5), .int .i64 (rs 6), .int .i64 (rs 7), .int .i64 dp] 26)) #[.int .i64 0, .int .i64 0, .int .i64 0, .int .i64 0, .int .i64 0, .int .i64 0, .int .i64 0, .int .i64 0, .int .i64 0, .int .i64 0, .int .i64 0] 26
      rw [World.size_alloc] at h
      exact h.put (Below.heap_alloc _ _ _ (by simp))
    · have h := Cel.new ((w.alloc (.cells #[.int .i64 pg, .int .i64 (k : Int), .int .i64 (rs 0), .int .i64 (rs 1), .int .i64 (rs 2), .int .i64 (rs 3), .int .i64 (rs 4), .int .i64 (rs 5), .int .i64 (rs 6), .int .i64 (rs 7), .int .i64 dp] 26)).alloc (.cells #[.int .i64 0, .int .i64 0, .int .i64 0, .int .i64 0, .int .i64 0, .int .i64 0, .int .i64 0, .int .i64 0, .int .i64 0, .int .i64 0, .int .i64 0] 26)) #[.int .i64 0, .int .i64 0, .int .i64 0, .int .i64 0] 33
      rw [World.size_alloc, World.size_alloc] at h
      exact h
  obtain ⟨hC, hZ, hQ, hB, hsz⟩ := eW _ rfl
  clear eW
  go_enter Tryd.func11, Tryd.ntmps11
  go_upto_region 1 with fail
  generalize ((w.alloc (.cells #[.int .i64 pg, .int .i64 (k : Int), .int .i64 (rs 0), .int .i64 (rs 1), .int .i64 (rs 2), .int .i64 (rs 3), .int .i64 (rs 4), .int .i64 (rs 5), .int .i64 (rs 6), .int .i64 (rs 7), .int .i64 dp] 26)).alloc (.cells #[.int .i64 0, .int .i64 0, .int .i64 0, .int .i64 0, .int .i64 0, .int .i64 0, .int .i64 0, .int .i64 0, .int .i64 0, .int .i64 0, .int .i64 0] 26)).alloc (.cells #[.int .i64 0, .int .i64 0, .int .i64 0, .int .i64 0] 33) = W at *
  have p1 : W.cell? ⟨w.heap.size, 1, none⟩ = some (.int .i64 (k : Int)) := hC.cell rfl
  go_upto_region 3 with (go_at_call 19; (refine (HW W hB).mono ?_); rintro e W1 ⟨rfl, hb1⟩)
  have hlt1 := hb1.size
  replace hC := hC.below hb1
  replace hZ := hZ.below hb1
  replace hQ := hQ.below hb1
  replace hB : Below w.heap.size w W1 := hB.trans (hb1.mono hB.size)
  replace hq := hq.below hB
  obtain ⟨i0, i1, i2, i3⟩ := hq
  clear p1 hb1 HW
  have p1 : W1.cell? ⟨w.heap.size, 1, none⟩ = some (.int .i64 (k : Int)) := hC.cell rfl
  go_upto_region 4 with fail
  have hb2 : Below W1.heap.size W1 (W1.alloc (.cells #[.int .i64 op, .int .i64 xa, .int .i64 xb, .int .i64 xc] 51)) := (Below.refl _ W1).alloc (Nat.le_refl _) _
  replace hC := hC.below hb2
  replace hZ := hZ.below hb2
  replace hQ := hQ.below hb2
  replace hB := hB.trans (hb2.mono hB.size)
  have hX := Cel.new W1 #[.int .i64 op, .int .i64 xa, .int .i64 xb, .int .i64 xc] 51
  have hsU : (W1.alloc (.cells #[.int .i64 op, .int .i64 xa, .int .i64 xb, .int .i64 xc] 51)).heap.size = W1.heap.size + 1 := by simp
  have hlD : w.heap.size + 1 + 1 < W1.heap.size := by omega
  clear hb2 hsz hlt1 i0 i1 i2 i3 p1
  generalize W1.alloc (.cells #[.int .i64 op, .int .i64 xa, .int .i64 xb, .int .i64 xc] 51) = U at *
  generalize W1.heap.size = D at *
  have cx0 : U.cell? ⟨w.heap.size, 0, none⟩ = some (.int .i64 pg) := hC.cell rfl
  have cx1 : U.cell? ⟨w.heap.size, 1, none⟩ = some (.int .i64 (k : Int)) := hC.cell rfl
  have cx2 : U.cell? ⟨w.heap.size, 2, none⟩ = some (.int .i64 (rs 0)) := hC.cell rfl
  have cx3 : U.cell? ⟨w.heap.size, 3, none⟩ = some (.int .i64 (rs 1)) := hC.cell rfl
  have cx4 : U.cell? ⟨w.heap.size, 4, none⟩ = some (.int .i64 (rs 2)) := hC.cell rfl
  have cx5 : U.cell? ⟨w.heap.size, 5, none⟩ = some (.int .i64 (rs 3)) := hC.cell rfl
  have cx6 : U.cell? ⟨w.heap.size, 6, none⟩ = some (.int .i64 (rs 4)) := hC.cell rfl
  have cx7 : U.cell? ⟨w.heap.size, 7, none⟩ = some (.int .i64 (rs 5)) := hC.cell rfl
  have cx8 : U.cell? ⟨w.heap.size, 8, none⟩ = some (.int .i64 (rs 6)) := hC.cell rfl
  have cx9 : U.cell? ⟨w.heap.size, 9, none⟩ = some (.int .i64 (rs 7)) := hC.cell rfl
  have cx10 : U.cell? ⟨w.heap.size, 10, none⟩ = some (.int .i64 dp) := hC.cell rfl
  go_upto_region 6 with fail
  have eV : ∀ V : World, V = U.alloc (.cells #[.int .i64 pg, .int .i64 ((k : Int) + 1), .int .i64 (rs 0), .int .i64 (rs 1), .int .i64 (rs 2), .int .i64 (rs 3), .int .i64 (rs 4), .int .i64 (rs 5), .int .i64 (rs 6), .int .i64 (rs 7), .int .i64 dp] 26) → RS w D (⟨pg, (k : Int), rs, dp⟩ : Cx) (⟨pg, (k : Int) + 1, rs, dp⟩ : Cx) (op, xa, xb, xc) V := by
    rintro V rfl
    have hb2 : Below U.heap.size U (U.alloc (.cells #[.int .i64 pg, .int .i64 ((k : Int) + 1), .int .i64 (rs 0), .int .i64 (rs 1), .int .i64 (rs 2), .int .i64 (rs 3), .int .i64 (rs 4), .int .i64 (rs 5), .int .i64 (rs 6), .int .i64 (rs 7), .int .i64 dp] 26)) := (Below.refl _ U).alloc (Nat.le_refl _) _
    refine ⟨hC.below hb2, hZ.below hb2, hQ.below hb2, hX.below hb2, ?_, hB.trans (hb2.mono hB.size), hlD⟩
    have h := Cel.new U #[.int .i64 pg, .int .i64 ((k : Int) + 1), .int .i64 (rs 0), .int .i64 (rs 1), .int .i64 (rs 2), .int .i64 (rs 3), .int .i64 (rs 4), .int .i64 (rs 5), .int .i64 (rs 6), .int .i64 (rs 7), .int .i64 dp] 26
    rw [hsU] at h
    exact h
  have hR := eV _ rfl
  clear eV hC hZ hQ hB hX cx0 cx1 cx2 cx3 cx4 cx5 cx6 cx7 cx8 cx9 cx10
  generalize U.alloc (.cells #[.int .i64 pg, .int .i64 ((k : Int) + 1), .int .i64 (rs 0), .int .i64 (rs 1), .int .i64 (rs 2), .int .i64 (rs 3), .int .i64 (rs 4), .int .i64 (rs 5), .int .i64 (rs 6), .int .i64 (rs 7), .int .i64 dp] 26) = V at *
  have x0 : V.cell? ⟨D, 0, none⟩ = some (.int .i64 op) := hR.x.cell rfl
  go_upto_region 7 with fail
  have x1 : V.cell? ⟨D, 1, none⟩ = some (.int .i64 xa) := hR.x.cell rfl
  have x2 : V.cell? ⟨D, 2, none⟩ = some (.int .i64 xb) := hR.x.cell rfl
  have x3 : V.cell? ⟨D, 3, none⟩ = some (.int .i64 xc) := hR.x.cell rfl
  have o0 : V.cell? ⟨D + 1, 0, none⟩ = some (.int .i64 pg) := hR.o.cell rfl
  have o1 : V.cell? ⟨D + 1, 1, none⟩ = some (.int .i64 ((k : Int) + 1)) := hR.o.cell rfl
  have o2 : V.cell? ⟨D + 1, 2, none⟩ = some (.int .i64 (rs 0)) := hR.o.cell rfl
  have o3 : V.cell? ⟨D + 1, 3, none⟩ = some (.int .i64 (rs 1)) := hR.o.cell rfl
  have o4 : V.cell? ⟨D + 1, 4, none⟩ = some (.int .i64 (rs 2)) := hR.o.cell rfl
  have o5 : V.cell? ⟨D + 1, 5, none⟩ = some (.int .i64 (rs 3)) := hR.o.cell rfl
  have o6 : V.cell? ⟨D + 1, 6, none⟩ = some (.int .i64 (rs 4)) := hR.o.cell rfl
  have o7 : V.cell? ⟨D + 1, 7, none⟩ = some (.int .i64 (rs 5)) := hR.o.cell rfl
  have o8 : V.cell? ⟨D + 1, 8, none⟩ = some (.int .i64 (rs 6)) := hR.o.cell rfl
  have o9 : V.cell? ⟨D + 1, 9, none⟩ = some (.int .i64 (rs 7)) := hR.o.cell rfl
  have o10 : V.cell? ⟨D + 1, 10, none⟩ = some (.int .i64 dp) := hR.o.cell rfl
  have zz0 : V.cell? ⟨w.heap.size + 1, 0, none⟩ = some (.int .i64 0) := hR.r.cell rfl
  have zz1 : V.cell? ⟨w.heap.size + 1, 1, none⟩ = some (.int .i64 0) := hR.r.cell rfl
  have zz2 : V.cell? ⟨w.heap.size + 1, 2, none⟩ = some (.int .i64 0) := hR.r.cell rfl
  have zz3 : V.cell? ⟨w.heap.size + 1, 3, none⟩ = some (.int .i64 0) := hR.r.cell rfl
  have zz4 : V.cell? ⟨w.heap.size + 1, 4, none⟩ = some (.int .i64 0) := hR.r.cell rfl
  have zz5 : V.cell? ⟨w.heap.size + 1, 5, none⟩ = some (.int .i64 0) := hR.r.cell rfl
  have zz6 : V.cell? ⟨w.heap.size + 1, 6, none⟩ = some (.int .i64 0) := hR.r.cell rfl
  have zz7 : V.cell? ⟨w.heap.size + 1, 7, none⟩ = some (.int .i64 0) := hR.r.cell rfl
  have zz8 : V.cell? ⟨w.heap.size + 1, 8, none⟩ = some (.int .i64 0) := hR.r.cell rfl
  have zz9 : V.cell? ⟨w.heap.size + 1, 9, none⟩ = some (.int .i64 0) := hR.r.cell rfl
  have zz10 : V.cell? ⟨w.heap.size + 1, 10, none⟩ = some (.int .i64 0) := hR.r.cell rfl
  have f0 : V.frozen? ⟨w.heap.size + 1, 0, none⟩ = false := hR.r.fz 0
  have f1 : V.frozen? ⟨w.heap.size + 1, 1, none⟩ = false := hR.r.fz 1
  have f2 : V.frozen? ⟨w.heap.size + 1, 2, none⟩ = false := hR.r.fz 2
  have f3 : V.frozen? ⟨w.heap.size + 1, 3, none⟩ = false := hR.r.fz 3
  have f4 : V.frozen? ⟨w.heap.size + 1, 4, none⟩ = false := hR.r.fz 4
  have f5 : V.frozen? ⟨w.heap.size + 1, 5, none⟩ = false := hR.r.fz 5
  have f6 : V.frozen? ⟨w.heap.size + 1, 6, none⟩ = false := hR.r.fz 6
  have f7 : V.frozen? ⟨w.heap.size + 1, 7, none⟩ = false := hR.r.fz 7
  have f8 : V.frozen? ⟨w.heap.size + 1, 8, none⟩ = false := hR.r.fz 8
  have f9 : V.frozen? ⟨w.heap.size + 1, 9, none⟩ = false := hR.r.fz 9
  have f10 : V.frozen? ⟨w.heap.size + 1, 10, none⟩ = false := hR.r.fz 10
  have u0 : V.cell? ⟨w.heap.size + 1 + 1, 0, none⟩ = some (.int .i64 0) := hR.q.cell rfl
  have u1 : V.cell? ⟨w.heap.size + 1 + 1, 1, none⟩ = some (.int .i64 0) := hR.q.cell rfl
  have u2 : V.cell? ⟨w.heap.size + 1 + 1, 2, none⟩ = some (.int .i64 0) := hR.q.cell rfl
  have u3 : V.cell? ⟨w.heap.size + 1 + 1, 3, none⟩ = some (.int .i64 0) := hR.q.cell rfl
  have e0 : V.frozen? ⟨w.heap.size + 1 + 1, 0, none⟩ = false := hR.q.fz 0
  have e1 : V.frozen? ⟨w.heap.size + 1 + 1, 1, none⟩ = false := hR.q.fz 1
  have e2 : V.frozen? ⟨w.heap.size + 1 + 1, 2, none⟩ = false := hR.q.fz 2
  have e3 : V.frozen? ⟨w.heap.size + 1 + 1, 3, none⟩ = false := hR.q.fz 3
  have nD : w.heap.size + 1 ≠ D := by omega
  have nD2 : w.heap.size + 1 + 1 ≠ D := by omega
  have nO : w.heap.size + 1 ≠ D + 1 := by omega
  have nO2 : w.heap.size + 1 + 1 ≠ D + 1 := by omega
  go_region
  go_wp2_with fail
  have nS : w.heap.size + 1 ≠ w.heap.size + 1 + 1 := by omega
  refine bodyPost_ret (results_XR rfl _ _ (w.heap.size + 1) (w.heap.size + 1 + 1) ((⟨pg, (k : Int) + 1, rs, dp⟩ : Cx)) ((op, xa, xb, xc)) rfl rfl ?_ ?_) rfl ⟨rfl, ?_⟩
  · exact (Cel.over4 _ _ _ _ (Cel.fill11 _ _ _ _ _ _ _ _ _ _ _ hR.r) nS).drew_
  · exact (Cel.fill4 _ _ _ _ (Cel.over11 _ _ _ _ _ _ _ _ _ _ _ hR.q nS.symm)).drew_
  · exact (below_fill4 _ _ _ _ (below_fill11 _ _ _ _ _ _ _ _ _ _ _ hR.b (Nat.le_refl _) (by omega)) (Nat.le_refl _) (by omega)).drew

end Go.Proofs.YtllnpkijojpccaaDoor
