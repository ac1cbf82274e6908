/- Give: the program's and the reference's; Fresh: the reference's. -/
import Derived.Test.YtllnpkijojpccaaDoorRReg
import Derived.Test.YtllnpkijojpccaaDoorCLives
namespace Go.Proofs.YtllnpkijojpccaaDoor
open Go Go.RowKit Go.Shelf

/-- What is told, with an error. -/
def gvI (value e : Int) : Int := match e == 0 with
  | true => value
  | false => 0
def tlC (c : Cx) (b : Bool) (i v : Int) : Cx := match b with
  | true => putR c i v
  | false => c
/-- What a thread gets of a call. -/
def giveC (c : Cx) (x : Ins) (value e : Int) : Cx := putR (tlC c (tellB x.1) x.2.2.2 (gvI value e)) 7 e

set_option maxRecDepth 100000 in
set_option maxHeartbeats 2000000 in
theorem give_z_true {w : World} {c : Cx} {x0 x1 x2 x3 value : Int} (ht : tellB x0 = true) : Calls Tryd.prog 14 #[.agg #[.int .i64 c.pg, .int .i64 c.pc, .int .i64 (c.rs 0), .int .i64 (c.rs 1), .int .i64 (c.rs 2), .int .i64 (c.rs 3), .int .i64 (c.rs 4), .int .i64 (c.rs 5), .int .i64 (c.rs 6), .int .i64 (c.rs 7), .int .i64 c.dp], .agg #[.int .i64 x0, .int .i64 x1, .int .i64 x2, .int .i64 x3], .int .i64 value, .int .i64 0] w fun e' w' => e' = .returned (.agg (cxA (putR (putR c x3 value) 7 0))) ∧ Below w.heap.size w w' := by
  have HT := tells_any x0
  rw [ht] at HT
  have eW : ∀ W : World, W = (((w.alloc (.cells #[.int .i64 c.pg, .int .i64 c.pc, .int .i64 (c.rs 0), .int .i64 (c.rs 1), .int .i64 (c.rs 2), .int .i64 (c.rs 3), .int .i64 (c.rs 4), .int .i64 (c.rs 5), .int .i64 (c.rs 6), .int .i64 (c.rs 7), .int .i64 c.dp] 26)).alloc (.cells #[.int .i64 x0, .int .i64 x1, .int .i64 x2, .int .i64 x3] 30)).alloc (.cells #[.int .i64 0, .int .i64 0, .int .i64 0, .int .i64 0, .int .i64 0, .int .i64 0, .int .i64 0, .int .i64 0, .int .i64 0, .int .i64 0, .int .i64 0] 26)).alloc (.cells #[.int .i64 c.pg, .int .i64 c.pc, .int .i64 (c.rs 0), .int .i64 (c.rs 1), .int .i64 (c.rs 2), .int .i64 (c.rs 3), .int .i64 (c.rs 4), .int .i64 (c.rs 5), .int .i64 (c.rs 6), .int .i64 (c.rs 7), .int .i64 c.dp, .slice none 0 0] 54) → MC W (w.heap.size + 1 + 1 + 1) c (.slice none 0 0) ∧ Cel W (w.heap.size + 1) #[.int .i64 x0, .int .i64 x1, .int .i64 x2, .int .i64 x3] 30 ∧ Cel W (w.heap.size + 1 + 1) #[.int .i64 0, .int .i64 0, .int .i64 0, .int .i64 0, .int .i64 0, .int .i64 0, .int .i64 0, .int .i64 0, .int .i64 0, .int .i64 0, .int .i64 0] 26 ∧ Below w.heap.size w W := by
    rintro W rfl
    refine ⟨?_, ?_, ?_, ((((Below.refl _ w).alloc (Nat.le_refl _) _).alloc (by simp) _).alloc (by simp; omega) _).alloc (by simp; omega) _⟩
    · have h := Cel.new (((w.alloc (.cells #[.int .i64 c.pg, .int .i64 c.pc, .int .i64 (c.rs 0), .int .i64 (c.rs 1), .int .i64 (c.rs 2), .int .i64 (c.rs 3), .int .i64 (c.rs 4), .int .i64 (c.rs 5), .int .i64 (c.rs 6), .int .i64 (c.rs 7), .int .i64 c.dp] 26)).alloc (.cells #[.int .i64 x0, .int .i64 x1, .int .i64 x2, .int .i64 x3] 30)).alloc (.cells #[.int .i64 0, .int .i64 0, .int .i64 0, .int .i64 0, .int .i64 0, .int .i64 0, .int .i64 0, .int .i64 0, .int .i64 0, .int .i64 0, .int .i64 0] 26)) #[.int .i64 c.pg, .int .i64 c.pc, .int .i64 (c.rs 0), .int .i64 (c.rs 1), .int .i64 (c.rs 2), .int .i64 (c.rs 3), .int .i64 (c.rs 4), .int .i64 (c.rs 5), .int .i64 (c.rs 6), .int .i64 (c.rs 7), .int .i64 c.dp, .slice none 0 0] 54
      rw [World.size_alloc, World.size_alloc, World.size_alloc] at h
      exact h
    · have h := Cel.new (w.alloc (.cells #[.int .i64 c.pg, .int .i64 c.pc, .int .i64 (c.rs 0), .int .i64 (c.rs 1), .int .i64 (c.rs 2), .int .i64 (c.rs 3), .int .i64 (c.rs 4), .int .i64 (c.rs 5), .int .i64 (c.rs 6), .int .i64 (c.rs 7), .int .i64 c.dp] 26)) #[.int .i64 x0, .int .i64 x1, .int .i64 x2, .int .i64 x3] 30
      rw [World.size_alloc] at h
      exact (h.put (Below.heap_alloc _ _ _ (by simp))).put (Below.heap_alloc _ _ _ (by simp))
    · have h := Cel.new ((w.alloc (.cells #[.int .i64 c.pg, .int .i64 c.pc, .int .i64 (c.rs 0), .int .i64 (c.rs 1), .int .i64 (c.rs 2), .int .i64 (c.rs 3), .int .i64 (c.rs 4), .int .i64 (c.rs 5), .int .i64 (c.rs 6), .int .i64 (c.rs 7), .int .i64 c.dp] 26)).alloc (.cells #[.int .i64 x0, .int .i64 x1, .int .i64 x2, .int .i64 x3] 30)) #[.int .i64 0, .int .i64 0, .int .i64 0, .int .i64 0, .int .i64 0, .int .i64 0, .int .i64 0, .int .i64 0, .int .i64 0, .int .i64 0, .int .i64 0] 26
      rw [World.size_alloc, World.size_alloc] at h
      exact h.put (Below.heap_alloc _ _ _ (by simp))
  obtain ⟨hM, hK, hZ, hB⟩ := eW _ rfl
  clear eW
  go_enter Tryd.func14, Tryd.ntmps14
  go_upto_region 2 with fail
  generalize (((w.alloc (.cells #[.int .i64 c.pg, .int .i64 c.pc, .int .i64 (c.rs 0), .int .i64 (c.rs 1), .int .i64 (c.rs 2), .int .i64 (c.rs 3), .int .i64 (c.rs 4), .int .i64 (c.rs 5), .int .i64 (c.rs 6), .int .i64 (c.rs 7), .int .i64 c.dp] 26)).alloc (.cells #[.int .i64 x0, .int .i64 x1, .int .i64 x2, .int .i64 x3] 30)).alloc (.cells #[.int .i64 0, .int .i64 0, .int .i64 0, .int .i64 0, .int .i64 0, .int .i64 0, .int .i64 0, .int .i64 0, .int .i64 0, .int .i64 0, .int .i64 0] 26)).alloc (.cells #[.int .i64 c.pg, .int .i64 c.pc, .int .i64 (c.rs 0), .int .i64 (c.rs 1), .int .i64 (c.rs 2), .int .i64 (c.rs 3), .int .i64 (c.rs 4), .int .i64 (c.rs 5), .int .i64 (c.rs 6), .int .i64 (c.rs 7), .int .i64 c.dp, .slice none 0 0] 54) = W at *
  have q0 : W.cell? ⟨w.heap.size + 1, 0, none⟩ = some (.int .i64 x0) := hK.cell rfl
  have q1 : W.cell? ⟨w.heap.size + 1, 1, none⟩ = some (.int .i64 x1) := hK.cell rfl
  have q2 : W.cell? ⟨w.heap.size + 1, 2, none⟩ = some (.int .i64 x2) := hK.cell rfl
  have q3 : W.cell? ⟨w.heap.size + 1, 3, none⟩ = some (.int .i64 x3) := hK.cell rfl
  go_upto_region 8 with (first | (go_at_call 26; (refine (HT W).mono ?_); rintro e' W0 ⟨rfl, rfl⟩) | (go_at_call 25; (with_reducible refine (put_any hM _ _).mono ?_); rintro e' W1 ⟨rfl, hM1, hb1⟩) | (go_at_call 25; (refine (put_any hM1 _ _).mono ?_); rintro e' W2 ⟨rfl, hM2, hb2⟩))
  replace hZ := (hZ.but hb1 (by simp)).but hb2 (by simp)
  replace hB := (hB.trans (hb1.below hB.size (by simp; omega))).trans (hb2.below (Nat.le_trans hB.size hb1.size) (by simp; omega))
  clear hM hM1 hK HT hb1 hb2 q0 q1 q2 q3
  obtain ⟨d, hd⟩ : ∃ d, d = putR (putR c x3 value) 7 0 := ⟨_, rfl⟩
  have hd2 : Hid (d = putR (putR c x3 value) 7 0) := Hid.mk hd
  rw [← hd] at hM2
  clear hd
  unfold MC mcA at hM2
  have y0 : W2.cell? ⟨w.heap.size + 1 + 1 + 1, 0, none⟩ = some (.int .i64 d.pg) := Cel.cell hM2 rfl
  have y1 : W2.cell? ⟨w.heap.size + 1 + 1 + 1, 1, none⟩ = some (.int .i64 d.pc) := Cel.cell hM2 rfl
  have y2 : W2.cell? ⟨w.heap.size + 1 + 1 + 1, 2, none⟩ = some (.int .i64 (d.rs 0)) := Cel.cell hM2 rfl
  have y3 : W2.cell? ⟨w.heap.size + 1 + 1 + 1, 3, none⟩ = some (.int .i64 (d.rs 1)) := Cel.cell hM2 rfl
  have y4 : W2.cell? ⟨w.heap.size + 1 + 1 + 1, 4, none⟩ = some (.int .i64 (d.rs 2)) := Cel.cell hM2 rfl
  have y5 : W2.cell? ⟨w.heap.size + 1 + 1 + 1, 5, none⟩ = some (.int .i64 (d.rs 3)) := Cel.cell hM2 rfl
  have y6 : W2.cell? ⟨w.heap.size + 1 + 1 + 1, 6, none⟩ = some (.int .i64 (d.rs 4)) := Cel.cell hM2 rfl
  have y7 : W2.cell? ⟨w.heap.size + 1 + 1 + 1, 7, none⟩ = some (.int .i64 (d.rs 5)) := Cel.cell hM2 rfl
  have y8 : W2.cell? ⟨w.heap.size + 1 + 1 + 1, 8, none⟩ = some (.int .i64 (d.rs 6)) := Cel.cell hM2 rfl
  have y9 : W2.cell? ⟨w.heap.size + 1 + 1 + 1, 9, none⟩ = some (.int .i64 (d.rs 7)) := Cel.cell hM2 rfl
  have y10 : W2.cell? ⟨w.heap.size + 1 + 1 + 1, 10, none⟩ = some (.int .i64 d.dp) := Cel.cell hM2 rfl
  have y11 : W2.cell? ⟨w.heap.size + 1 + 1 + 1, 11, none⟩ = some (.slice none 0 0) := Cel.cell hM2 rfl
  have zz0 : W2.cell? ⟨w.heap.size + 1 + 1, 0, none⟩ = some (.int .i64 0) := hZ.cell rfl
  have zz1 : W2.cell? ⟨w.heap.size + 1 + 1, 1, none⟩ = some (.int .i64 0) := hZ.cell rfl
  have zz2 : W2.cell? ⟨w.heap.size + 1 + 1, 2, none⟩ = some (.int .i64 0) := hZ.cell rfl
  have zz3 : W2.cell? ⟨w.heap.size + 1 + 1, 3, none⟩ = some (.int .i64 0) := hZ.cell rfl
  have zz4 : W2.cell? ⟨w.heap.size + 1 + 1, 4, none⟩ = some (.int .i64 0) := hZ.cell rfl
  have zz5 : W2.cell? ⟨w.heap.size + 1 + 1, 5, none⟩ = some (.int .i64 0) := hZ.cell rfl
  have zz6 : W2.cell? ⟨w.heap.size + 1 + 1, 6, none⟩ = some (.int .i64 0) := hZ.cell rfl
  have zz7 : W2.cell? ⟨w.heap.size + 1 + 1, 7, none⟩ = some (.int .i64 0) := hZ.cell rfl
  have zz8 : W2.cell? ⟨w.heap.size + 1 + 1, 8, none⟩ = some (.int .i64 0) := hZ.cell rfl
  have zz9 : W2.cell? ⟨w.heap.size + 1 + 1, 9, none⟩ = some (.int .i64 0) := hZ.cell rfl
  have zz10 : W2.cell? ⟨w.heap.size + 1 + 1, 10, none⟩ = some (.int .i64 0) := hZ.cell rfl
  have f0 : W2.frozen? ⟨w.heap.size + 1 + 1, 0, none⟩ = false := hZ.fz 0
  have f1 : W2.frozen? ⟨w.heap.size + 1 + 1, 1, none⟩ = false := hZ.fz 1
  have f2 : W2.frozen? ⟨w.heap.size + 1 + 1, 2, none⟩ = false := hZ.fz 2
  have f3 : W2.frozen? ⟨w.heap.size + 1 + 1, 3, none⟩ = false := hZ.fz 3
  have f4 : W2.frozen? ⟨w.heap.size + 1 + 1, 4, none⟩ = false := hZ.fz 4
  have f5 : W2.frozen? ⟨w.heap.size + 1 + 1, 5, none⟩ = false := hZ.fz 5
  have f6 : W2.frozen? ⟨w.heap.size + 1 + 1, 6, none⟩ = false := hZ.fz 6
  have f7 : W2.frozen? ⟨w.heap.size + 1 + 1, 7, none⟩ = false := hZ.fz 7
  have f8 : W2.frozen? ⟨w.heap.size + 1 + 1, 8, none⟩ = false := hZ.fz 8
  have f9 : W2.frozen? ⟨w.heap.size + 1 + 1, 9, none⟩ = false := hZ.fz 9
  have f10 : W2.frozen? ⟨w.heap.size + 1 + 1, 10, none⟩ = false := hZ.fz 10
  go_wp2_with fail
  exact bodyPost_ret (results_cX rfl _ _ (w.heap.size + 1 + 1) d rfl (Cel.fill11 _ _ _ _ _ _ _ _ _ _ _ hZ)) rfl ⟨by rw [hd2.out], below_fill11 _ _ _ _ _ _ _ _ _ _ _ hB (Nat.le_refl _) (by omega)⟩

set_option maxRecDepth 100000 in
set_option maxHeartbeats 2000000 in
theorem give_z_false {w : World} {c : Cx} {x0 x1 x2 x3 value : Int} (ht : tellB x0 = false) : Calls Tryd.prog 14 #[.agg #[.int .i64 c.pg, .int .i64 c.pc, .int .i64 (c.rs 0), .int .i64 (c.rs 1), .int .i64 (c.rs 2), .int .i64 (c.rs 3), .int .i64 (c.rs 4), .int .i64 (c.rs 5), .int .i64 (c.rs 6), .int .i64 (c.rs 7), .int .i64 c.dp], .agg #[.int .i64 x0, .int .i64 x1, .int .i64 x2, .int .i64 x3], .int .i64 value, .int .i64 0] w fun e' w' => e' = .returned (.agg (cxA (putR c 7 0))) ∧ Below w.heap.size w w' := by
  have HT := tells_any x0
  rw [ht] at HT
  have eW : ∀ W : World, W = (((w.alloc (.cells #[.int .i64 c.pg, .int .i64 c.pc, .int .i64 (c.rs 0), .int .i64 (c.rs 1), .int .i64 (c.rs 2), .int .i64 (c.rs 3), .int .i64 (c.rs 4), .int .i64 (c.rs 5), .int .i64 (c.rs 6), .int .i64 (c.rs 7), .int .i64 c.dp] 26)).alloc (.cells #[.int .i64 x0, .int .i64 x1, .int .i64 x2, .int .i64 x3] 30)).alloc (.cells #[.int .i64 0, .int .i64 0, .int .i64 0, .int .i64 0, .int .i64 0, .int .i64 0, .int .i64 0, .int .i64 0, .int .i64 0, .int .i64 0, .int .i64 0] 26)).alloc (.cells #[.int .i64 c.pg, .int .i64 c.pc, .int .i64 (c.rs 0), .int .i64 (c.rs 1), .int .i64 (c.rs 2), .int .i64 (c.rs 3), .int .i64 (c.rs 4), .int .i64 (c.rs 5), .int .i64 (c.rs 6), .int .i64 (c.rs 7), .int .i64 c.dp, .slice none 0 0] 54) → MC W (w.heap.size + 1 + 1 + 1) c (.slice none 0 0) ∧ Cel W (w.heap.size + 1) #[.int .i64 x0, .int .i64 x1, .int .i64 x2, .int .i64 x3] 30 ∧ Cel W (w.heap.size + 1 + 1) #[.int .i64 0, .int .i64 0, .int .i64 0, .int .i64 0, .int .i64 0, .int .i64 0, .int .i64 0, .int .i64 0, .int .i64 0, .int .i64 0, .int .i64 0] 26 ∧ Below w.heap.size w W := by
    rintro W rfl
    refine ⟨?_, ?_, ?_, ((((Below.refl _ w).alloc (Nat.le_refl _) _).alloc (by simp) _).alloc (by simp; omega) _).alloc (by simp; omega) _⟩
    · have h := Cel.new (((w.alloc (.cells #[.int .i64 c.pg, .int .i64 c.pc, .int .i64 (c.rs 0), .int .i64 (c.rs 1), .int .i64 (c.rs 2), .int .i64 (c.rs 3), .int .i64 (c.rs 4), .int .i64 (c.rs 5), .int .i64 (c.rs 6), .int .i64 (c.rs 7), .int .i64 c.dp] 26)).alloc (.cells #[.int .i64 x0, .int .i64 x1, .int .i64 x2, .int .i64 x3] 30)).alloc (.cells #[.int .i64 0, .int .i64 0, .int .i64 0, .int .i64 0, .int .i64 0, .int .i64 0, .int .i64 0, .int .i64 0, .int .i64 0, .int .i64 0, .int .i64 0] 26)) #[.int .i64 c.pg, .int .i64 c.pc, .int .i64 (c.rs 0), .int .i64 (c.rs 1), .int .i64 (c.rs 2), .int .i64 (c.rs 3), .int .i64 (c.rs 4), .int .i64 (c.rs 5), .int .i64 (c.rs 6), .int .i64 (c.rs 7), .int .i64 c.dp, .slice none 0 0] 54
      rw [World.size_alloc, World.size_alloc, World.size_alloc] at h
      exact h
    · have h := Cel.new (w.alloc (.cells #[.int .i64 c.pg, .int .i64 c.pc, .int .i64 (c.rs 0), .int .i64 (c.rs 1), .int .i64 (c.rs 2), .int .i64 (c.rs 3), .int .i64 (c.rs 4), .int .i64 (c.rs 5), .int .i64 (c.rs 6), .int .i64 (c.rs 7), .int .i64 c.dp] 26)) #[.int .i64 x0, .int .i64 x1, .int .i64 x2, .int .i64 x3] 30
      rw [World.size_alloc] at h
      exact (h.put (Below.heap_alloc _ _ _ (by simp))).put (Below.heap_alloc _ _ _ (by simp))
    · have h := Cel.new ((w.alloc (.cells #[.int .i64 c.pg, .int .i64 c.pc, .int .i64 (c.rs 0), .int .i64 (c.rs 1), .int .i64 (c.rs 2), .int .i64 (c.rs 3), .int .i64 (c.rs 4), .int .i64 (c.rs 5), .int .i64 (c.rs 6), .int .i64 (c.rs 7), .int .i64 c.dp] 26)).alloc (.cells #[.int .i64 x0, .int .i64 x1, .int .i64 x2, .int .i64 x3] 30)) #[.int .i64 0, .int .i64 0, .int .i64 0, .int .i64 0, .int .i64 0, .int .i64 0, .int .i64 0, .int .i64 0, .int .i64 0, .int .i64 0, .int .i64 0] 26
      rw [World.size_alloc, World.size_alloc] at h
      exact h.put (Below.heap_alloc _ _ _ (by simp))
  obtain ⟨hM, hK, hZ, hB⟩ := eW _ rfl
  clear eW
  go_enter Tryd.func14, Tryd.ntmps14
  go_upto_region 2 with fail
  generalize (((w.alloc (.cells #[.int .i64 c.pg, .int .i64 c.pc, .int .i64 (c.rs 0), .int .i64 (c.rs 1), .int .i64 (c.rs 2), .int .i64 (c.rs 3), .int .i64 (c.rs 4), .int .i64 (c.rs 5), .int .i64 (c.rs 6), .int .i64 (c.rs 7), .int .i64 c.dp] 26)).alloc (.cells #[.int .i64 x0, .int .i64 x1, .int .i64 x2, .int .i64 x3] 30)).alloc (.cells #[.int .i64 0, .int .i64 0, .int .i64 0, .int .i64 0, .int .i64 0, .int .i64 0, .int .i64 0, .int .i64 0, .int .i64 0, .int .i64 0, .int .i64 0] 26)).alloc (.cells #[.int .i64 c.pg, .int .i64 c.pc, .int .i64 (c.rs 0), .int .i64 (c.rs 1), .int .i64 (c.rs 2), .int .i64 (c.rs 3), .int .i64 (c.rs 4), .int .i64 (c.rs 5), .int .i64 (c.rs 6), .int .i64 (c.rs 7), .int .i64 c.dp, .slice none 0 0] 54) = W at *
  have q0 : W.cell? ⟨w.heap.size + 1, 0, none⟩ = some (.int .i64 x0) := hK.cell rfl
  have q1 : W.cell? ⟨w.heap.size + 1, 1, none⟩ = some (.int .i64 x1) := hK.cell rfl
  have q2 : W.cell? ⟨w.heap.size + 1, 2, none⟩ = some (.int .i64 x2) := hK.cell rfl
  have q3 : W.cell? ⟨w.heap.size + 1, 3, none⟩ = some (.int .i64 x3) := hK.cell rfl
  go_upto_region 8 with (first | (go_at_call 26; (refine (HT W).mono ?_); rintro e' W0 ⟨rfl, rfl⟩) | (go_at_call 25; (with_reducible refine (put_any hM _ _).mono ?_); rintro e' W1 ⟨rfl, hM1, hb1⟩) | (go_at_call 25; (refine (put_any hM1 _ _).mono ?_); rintro e' W2 ⟨rfl, hM2, hb2⟩))
  replace hZ := hZ.but hb1 (by simp)
  replace hB := hB.trans (hb1.below hB.size (by simp; omega))
  clear hM hK HT hb1 q0 q1 q2 q3
  obtain ⟨d, hd⟩ : ∃ d, d = putR c 7 0 := ⟨_, rfl⟩
  have hd2 : Hid (d = putR c 7 0) := Hid.mk hd
  rw [← hd] at hM1
  clear hd
  unfold MC mcA at hM1
  have y0 : W1.cell? ⟨w.heap.size + 1 + 1 + 1, 0, none⟩ = some (.int .i64 d.pg) := Cel.cell hM1 rfl
  have y1 : W1.cell? ⟨w.heap.size + 1 + 1 + 1, 1, none⟩ = some (.int .i64 d.pc) := Cel.cell hM1 rfl
  have y2 : W1.cell? ⟨w.heap.size + 1 + 1 + 1, 2, none⟩ = some (.int .i64 (d.rs 0)) := Cel.cell hM1 rfl
  have y3 : W1.cell? ⟨w.heap.size + 1 + 1 + 1, 3, none⟩ = some (.int .i64 (d.rs 1)) := Cel.cell hM1 rfl
  have y4 : W1.cell? ⟨w.heap.size + 1 + 1 + 1, 4, none⟩ = some (.int .i64 (d.rs 2)) := Cel.cell hM1 rfl
  have y5 : W1.cell? ⟨w.heap.size + 1 + 1 + 1, 5, none⟩ = some (.int .i64 (d.rs 3)) := Cel.cell hM1 rfl
  have y6 : W1.cell? ⟨w.heap.size + 1 + 1 + 1, 6, none⟩ = some (.int .i64 (d.rs 4)) := Cel.cell hM1 rfl
  have y7 : W1.cell? ⟨w.heap.size + 1 + 1 + 1, 7, none⟩ = some (.int .i64 (d.rs 5)) := Cel.cell hM1 rfl
  have y8 : W1.cell? ⟨w.heap.size + 1 + 1 + 1, 8, none⟩ = some (.int .i64 (d.rs 6)) := Cel.cell hM1 rfl
  have y9 : W1.cell? ⟨w.heap.size + 1 + 1 + 1, 9, none⟩ = some (.int .i64 (d.rs 7)) := Cel.cell hM1 rfl
  have y10 : W1.cell? ⟨w.heap.size + 1 + 1 + 1, 10, none⟩ = some (.int .i64 d.dp) := Cel.cell hM1 rfl
  have y11 : W1.cell? ⟨w.heap.size + 1 + 1 + 1, 11, none⟩ = some (.slice none 0 0) := Cel.cell hM1 rfl
  have zz0 : W1.cell? ⟨w.heap.size + 1 + 1, 0, none⟩ = some (.int .i64 0) := hZ.cell rfl
  have zz1 : W1.cell? ⟨w.heap.size + 1 + 1, 1, none⟩ = some (.int .i64 0) := hZ.cell rfl
  have zz2 : W1.cell? ⟨w.heap.size + 1 + 1, 2, none⟩ = some (.int .i64 0) := hZ.cell rfl
  have zz3 : W1.cell? ⟨w.heap.size + 1 + 1, 3, none⟩ = some (.int .i64 0) := hZ.cell rfl
  have zz4 : W1.cell? ⟨w.heap.size + 1 + 1, 4, none⟩ = some (.int .i64 0) := hZ.cell rfl
  have zz5 : W1.cell? ⟨w.heap.size + 1 + 1, 5, none⟩ = some (.int .i64 0) := hZ.cell rfl
  have zz6 : W1.cell? ⟨w.heap.size + 1 + 1, 6, none⟩ = some (.int .i64 0) := hZ.cell rfl
  have zz7 : W1.cell? ⟨w.heap.size + 1 + 1, 7, none⟩ = some (.int .i64 0) := hZ.cell rfl
  have zz8 : W1.cell? ⟨w.heap.size + 1 + 1, 8, none⟩ = some (.int .i64 0) := hZ.cell rfl
  have zz9 : W1.cell? ⟨w.heap.size + 1 + 1, 9, none⟩ = some (.int .i64 0) := hZ.cell rfl
  have zz10 : W1.cell? ⟨w.heap.size + 1 + 1, 10, none⟩ = some (.int .i64 0) := hZ.cell rfl
  have f0 : W1.frozen? ⟨w.heap.size + 1 + 1, 0, none⟩ = false := hZ.fz 0
  have f1 : W1.frozen? ⟨w.heap.size + 1 + 1, 1, none⟩ = false := hZ.fz 1
  have f2 : W1.frozen? ⟨w.heap.size + 1 + 1, 2, none⟩ = false := hZ.fz 2
  have f3 : W1.frozen? ⟨w.heap.size + 1 + 1, 3, none⟩ = false := hZ.fz 3
  have f4 : W1.frozen? ⟨w.heap.size + 1 + 1, 4, none⟩ = false := hZ.fz 4
  have f5 : W1.frozen? ⟨w.heap.size + 1 + 1, 5, none⟩ = false := hZ.fz 5
  have f6 : W1.frozen? ⟨w.heap.size + 1 + 1, 6, none⟩ = false := hZ.fz 6
  have f7 : W1.frozen? ⟨w.heap.size + 1 + 1, 7, none⟩ = false := hZ.fz 7
  have f8 : W1.frozen? ⟨w.heap.size + 1 + 1, 8, none⟩ = false := hZ.fz 8
  have f9 : W1.frozen? ⟨w.heap.size + 1 + 1, 9, none⟩ = false := hZ.fz 9
  have f10 : W1.frozen? ⟨w.heap.size + 1 + 1, 10, none⟩ = false := hZ.fz 10
  go_wp2_with fail
  exact bodyPost_ret (results_cX rfl _ _ (w.heap.size + 1 + 1) d rfl (Cel.fill11 _ _ _ _ _ _ _ _ _ _ _ hZ)) rfl ⟨by rw [hd2.out], below_fill11 _ _ _ _ _ _ _ _ _ _ _ hB (Nat.le_refl _) (by omega)⟩

set_option maxRecDepth 100000 in
set_option maxHeartbeats 2000000 in
theorem give_e_true {w : World} {c : Cx} {x0 x1 x2 x3 value e : Int} (he : e ≠ 0) (ht : tellB x0 = true) : Calls Tryd.prog 14 #[.agg #[.int .i64 c.pg, .int .i64 c.pc, .int .i64 (c.rs 0), .int .i64 (c.rs 1), .int .i64 (c.rs 2), .int .i64 (c.rs 3), .int .i64 (c.rs 4), .int .i64 (c.rs 5), .int .i64 (c.rs 6), .int .i64 (c.rs 7), .int .i64 c.dp], .agg #[.int .i64 x0, .int .i64 x1, .int .i64 x2, .int .i64 x3], .int .i64 value, .int .i64 e] w fun e' w' => e' = .returned (.agg (cxA (putR (putR c x3 0) 7 e))) ∧ Below w.heap.size w w' := by
  have HT := tells_any x0
  rw [ht] at HT
  have eW : ∀ W : World, W = (((w.alloc (.cells #[.int .i64 c.pg, .int .i64 c.pc, .int .i64 (c.rs 0), .int .i64 (c.rs 1), .int .i64 (c.rs 2), .int .i64 (c.rs 3), .int .i64 (c.rs 4), .int .i64 (c.rs 5), .int .i64 (c.rs 6), .int .i64 (c.rs 7), .int .i64 c.dp] 26)).alloc (.cells #[.int .i64 x0, .int .i64 x1, .int .i64 x2, .int .i64 x3] 30)).alloc (.cells #[.int .i64 0, .int .i64 0, .int .i64 0, .int .i64 0, .int .i64 0, .int .i64 0, .int .i64 0, .int .i64 0, .int .i64 0, .int .i64 0, .int .i64 0] 26)).alloc (.cells #[.int .i64 c.pg, .int .i64 c.pc, .int .i64 (c.rs 0), .int .i64 (c.rs 1), .int .i64 (c.rs 2), .int .i64 (c.rs 3), .int .i64 (c.rs 4), .int .i64 (c.rs 5), .int .i64 (c.rs 6), .int .i64 (c.rs 7), .int .i64 c.dp, .slice none 0 0] 54) → MC W (w.heap.size + 1 + 1 + 1) c (.slice none 0 0) ∧ Cel W (w.heap.size + 1) #[.int .i64 x0, .int .i64 x1, .int .i64 x2, .int .i64 x3] 30 ∧ Cel W (w.heap.size + 1 + 1) #[.int .i64 0, .int .i64 0, .int .i64 0, .int .i64 0, .int .i64 0, .int .i64 0, .int .i64 0, .int .i64 0, .int .i64 0, .int .i64 0, .int .i64 0] 26 ∧ Below w.heap.size w W := by
    rintro W rfl
    refine ⟨?_, ?_, ?_, ((((Below.refl _ w).alloc (Nat.le_refl _) _).alloc (by simp) _).alloc (by simp; omega) _).alloc (by simp; omega) _⟩
    · have h := Cel.new (((w.alloc (.cells #[.int .i64 c.pg, .int .i64 c.pc, .int .i64 (c.rs 0), .int .i64 (c.rs 1), .int .i64 (c.rs 2), .int .i64 (c.rs 3), .int .i64 (c.rs 4), .int .i64 (c.rs 5), .int .i64 (c.rs 6), .int .i64 (c.rs 7), .int .i64 c.dp] 26)).alloc (.cells #[.int .i64 x0, .int .i64 x1, .int .i64 x2, .int .i64 x3] 30)).alloc (.cells #[.int .i64 0, .int .i64 0, .int .i64 0, .int .i64 0, .int .i64 0, .int .i64 0, .int .i64 0, .int .i64 0, .int .i64 0, .int .i64 0, .int .i64 0] 26)) #[.int .i64 c.pg, .int .i64 c.pc, .int .i64 (c.rs 0), .int .i64 (c.rs 1), .int .i64 (c.rs 2), .int .i64 (c.rs 3), .int .i64 (c.rs 4), .int .i64 (c.rs 5), .int .i64 (c.rs 6), .int .i64 (c.rs 7), .int .i64 c.dp, .slice none 0 0] 54
      rw [World.size_alloc, World.size_alloc, World.size_alloc] at h
      exact h
    · have h := Cel.new (w.alloc (.cells #[.int .i64 c.pg, .int .i64 c.pc, .int .i64 (c.rs 0), .int .i64 (c.rs 1), .int .i64 (c.rs 2), .int .i64 (c.rs 3), .int .i64 (c.rs 4), .int .i64 (c.rs 5), .int .i64 (c.rs 6), .int .i64 (c.rs 7), .int .i64 c.dp] 26)) #[.int .i64 x0, .int .i64 x1, .int .i64 x2, .int .i64 x3] 30
      rw [World.size_alloc] at h
      exact (h.put (Below.heap_alloc _ _ _ (by simp))).put (Below.heap_alloc _ _ _ (by simp))
    · have h := Cel.new ((w.alloc (.cells #[.int .i64 c.pg, .int .i64 c.pc, .int .i64 (c.rs 0), .int .i64 (c.rs 1), .int .i64 (c.rs 2), .int .i64 (c.rs 3), .int .i64 (c.rs 4), .int .i64 (c.rs 5), .int .i64 (c.rs 6), .int .i64 (c.rs 7), .int .i64 c.dp] 26)).alloc (.cells #[.int .i64 x0, .int .i64 x1, .int .i64 x2, .int .i64 x3] 30)) #[.int .i64 0, .int .i64 0, .int .i64 0, .int .i64 0, .int .i64 0, .int .i64 0, .int .i64 0, .int .i64 0, .int .i64 0, .int .i64 0, .int .i64 0] 26
      rw [World.size_alloc, World.size_alloc] at h
      exact h.put (Below.heap_alloc _ _ _ (by simp))
  obtain ⟨hM, hK, hZ, hB⟩ := eW _ rfl
  clear eW
  go_enter Tryd.func14, Tryd.ntmps14
  go_upto_region 2 with fail
  generalize (((w.alloc (.cells #[.int .i64 c.pg, .int .i64 c.pc, .int .i64 (c.rs 0), .int .i64 (c.rs 1), .int .i64 (c.rs 2), .int .i64 (c.rs 3), .int .i64 (c.rs 4), .int .i64 (c.rs 5), .int .i64 (c.rs 6), .int .i64 (c.rs 7), .int .i64 c.dp] 26)).alloc (.cells #[.int .i64 x0, .int .i64 x1, .int .i64 x2, .int .i64 x3] 30)).alloc (.cells #[.int .i64 0, .int .i64 0, .int .i64 0, .int .i64 0, .int .i64 0, .int .i64 0, .int .i64 0, .int .i64 0, .int .i64 0, .int .i64 0, .int .i64 0] 26)).alloc (.cells #[.int .i64 c.pg, .int .i64 c.pc, .int .i64 (c.rs 0), .int .i64 (c.rs 1), .int .i64 (c.rs 2), .int .i64 (c.rs 3), .int .i64 (c.rs 4), .int .i64 (c.rs 5), .int .i64 (c.rs 6), .int .i64 (c.rs 7), .int .i64 c.dp, .slice none 0 0] 54) = W at *
  have q0 : W.cell? ⟨w.heap.size + 1, 0, none⟩ = some (.int .i64 x0) := hK.cell rfl
  have q1 : W.cell? ⟨w.heap.size + 1, 1, none⟩ = some (.int .i64 x1) := hK.cell rfl
  have q2 : W.cell? ⟨w.heap.size + 1, 2, none⟩ = some (.int .i64 x2) := hK.cell rfl
  have q3 : W.cell? ⟨w.heap.size + 1, 3, none⟩ = some (.int .i64 x3) := hK.cell rfl
  go_upto_region 8 with (first | (go_at_call 26; (refine (HT W).mono ?_); rintro e' W0 ⟨rfl, rfl⟩) | (go_at_call 25; (with_reducible refine (put_any hM _ _).mono ?_); rintro e' W1 ⟨rfl, hM1, hb1⟩) | (go_at_call 25; (refine (put_any hM1 _ _).mono ?_); rintro e' W2 ⟨rfl, hM2, hb2⟩))
  replace hZ := (hZ.but hb1 (by simp)).but hb2 (by simp)
  replace hB := (hB.trans (hb1.below hB.size (by simp; omega))).trans (hb2.below (Nat.le_trans hB.size hb1.size) (by simp; omega))
  clear hM hM1 hK HT hb1 hb2 q0 q1 q2 q3
  obtain ⟨d, hd⟩ : ∃ d, d = putR (putR c x3 0) 7 e := ⟨_, rfl⟩
  have hd2 : Hid (d = putR (putR c x3 0) 7 e) := Hid.mk hd
  rw [← hd] at hM2
  clear hd
  unfold MC mcA at hM2
  have y0 : W2.cell? ⟨w.heap.size + 1 + 1 + 1, 0, none⟩ = some (.int .i64 d.pg) := Cel.cell hM2 rfl
  have y1 : W2.cell? ⟨w.heap.size + 1 + 1 + 1, 1, none⟩ = some (.int .i64 d.pc) := Cel.cell hM2 rfl
  have y2 : W2.cell? ⟨w.heap.size + 1 + 1 + 1, 2, none⟩ = some (.int .i64 (d.rs 0)) := Cel.cell hM2 rfl
  have y3 : W2.cell? ⟨w.heap.size + 1 + 1 + 1, 3, none⟩ = some (.int .i64 (d.rs 1)) := Cel.cell hM2 rfl
  have y4 : W2.cell? ⟨w.heap.size + 1 + 1 + 1, 4, none⟩ = some (.int .i64 (d.rs 2)) := Cel.cell hM2 rfl
  have y5 : W2.cell? ⟨w.heap.size + 1 + 1 + 1, 5, none⟩ = some (.int .i64 (d.rs 3)) := Cel.cell hM2 rfl
  have y6 : W2.cell? ⟨w.heap.size + 1 + 1 + 1, 6, none⟩ = some (.int .i64 (d.rs 4)) := Cel.cell hM2 rfl
  have y7 : W2.cell? ⟨w.heap.size + 1 + 1 + 1, 7, none⟩ = some (.int .i64 (d.rs 5)) := Cel.cell hM2 rfl
  have y8 : W2.cell? ⟨w.heap.size + 1 + 1 + 1, 8, none⟩ = some (.int .i64 (d.rs 6)) := Cel.cell hM2 rfl
  have y9 : W2.cell? ⟨w.heap.size + 1 + 1 + 1, 9, none⟩ = some (.int .i64 (d.rs 7)) := Cel.cell hM2 rfl
  have y10 : W2.cell? ⟨w.heap.size + 1 + 1 + 1, 10, none⟩ = some (.int .i64 d.dp) := Cel.cell hM2 rfl
  have y11 : W2.cell? ⟨w.heap.size + 1 + 1 + 1, 11, none⟩ = some (.slice none 0 0) := Cel.cell hM2 rfl
  have zz0 : W2.cell? ⟨w.heap.size + 1 + 1, 0, none⟩ = some (.int .i64 0) := hZ.cell rfl
  have zz1 : W2.cell? ⟨w.heap.size + 1 + 1, 1, none⟩ = some (.int .i64 0) := hZ.cell rfl
  have zz2 : W2.cell? ⟨w.heap.size + 1 + 1, 2, none⟩ = some (.int .i64 0) := hZ.cell rfl
  have zz3 : W2.cell? ⟨w.heap.size + 1 + 1, 3, none⟩ = some (.int .i64 0) := hZ.cell rfl
  have zz4 : W2.cell? ⟨w.heap.size + 1 + 1, 4, none⟩ = some (.int .i64 0) := hZ.cell rfl
  have zz5 : W2.cell? ⟨w.heap.size + 1 + 1, 5, none⟩ = some (.int .i64 0) := hZ.cell rfl
  have zz6 : W2.cell? ⟨w.heap.size + 1 + 1, 6, none⟩ = some (.int .i64 0) := hZ.cell rfl
  have zz7 : W2.cell? ⟨w.heap.size + 1 + 1, 7, none⟩ = some (.int .i64 0) := hZ.cell rfl
  have zz8 : W2.cell? ⟨w.heap.size + 1 + 1, 8, none⟩ = some (.int .i64 0) := hZ.cell rfl
  have zz9 : W2.cell? ⟨w.heap.size + 1 + 1, 9, none⟩ = some (.int .i64 0) := hZ.cell rfl
  have zz10 : W2.cell? ⟨w.heap.size + 1 + 1, 10, none⟩ = some (.int .i64 0) := hZ.cell rfl
  have f0 : W2.frozen? ⟨w.heap.size + 1 + 1, 0, none⟩ = false := hZ.fz 0
  have f1 : W2.frozen? ⟨w.heap.size + 1 + 1, 1, none⟩ = false := hZ.fz 1
  have f2 : W2.frozen? ⟨w.heap.size + 1 + 1, 2, none⟩ = false := hZ.fz 2
  have f3 : W2.frozen? ⟨w.heap.size + 1 + 1, 3, none⟩ = false := hZ.fz 3
  have f4 : W2.frozen? ⟨w.heap.size + 1 + 1, 4, none⟩ = false := hZ.fz 4
  have f5 : W2.frozen? ⟨w.heap.size + 1 + 1, 5, none⟩ = false := hZ.fz 5
  have f6 : W2.frozen? ⟨w.heap.size + 1 + 1, 6, none⟩ = false := hZ.fz 6
  have f7 : W2.frozen? ⟨w.heap.size + 1 + 1, 7, none⟩ = false := hZ.fz 7
  have f8 : W2.frozen? ⟨w.heap.size + 1 + 1, 8, none⟩ = false := hZ.fz 8
  have f9 : W2.frozen? ⟨w.heap.size + 1 + 1, 9, none⟩ = false := hZ.fz 9
  have f10 : W2.frozen? ⟨w.heap.size + 1 + 1, 10, none⟩ = false := hZ.fz 10
  go_wp2_with fail
  exact bodyPost_ret (results_cX rfl _ _ (w.heap.size + 1 + 1) d rfl (Cel.fill11 _ _ _ _ _ _ _ _ _ _ _ hZ)) rfl ⟨by rw [hd2.out], below_fill11 _ _ _ _ _ _ _ _ _ _ _ hB (Nat.le_refl _) (by omega)⟩

set_option maxRecDepth 100000 in
set_option maxHeartbeats 2000000 in
theorem give_e_false {w : World} {c : Cx} {x0 x1 x2 x3 value e : Int} (he : e ≠ 0) (ht : tellB x0 = false) : Calls Tryd.prog 14 #[.agg #[.int .i64 c.pg, .int .i64 c.pc, .int .i64 (c.rs 0), .int .i64 (c.rs 1), .int .i64 (c.rs 2), .int .i64 (c.rs 3), .int .i64 (c.rs 4), .int .i64 (c.rs 5), .int .i64 (c.rs 6), .int .i64 (c.rs 7), .int .i64 c.dp], .agg #[.int .i64 x0, .int .i64 x1, .int .i64 x2, .int .i64 x3], .int .i64 value, .int .i64 e] w fun e' w' => e' = .returned (.agg (cxA (putR c 7 e))) ∧ Below w.heap.size w w' := by
  have HT := tells_any x0
  rw [ht] at HT
  have eW : ∀ W : World, W = (((w.alloc (.cells #[.int .i64 c.pg, .int .i64 c.pc, .int .i64 (c.rs 0), .int .i64 (c.rs 1), .int .i64 (c.rs 2), .int .i64 (c.rs 3), .int .i64 (c.rs 4), .int .i64 (c.rs 5), .int .i64 (c.rs 6), .int .i64 (c.rs 7), .int .i64 c.dp] 26)).alloc (.cells #[.int .i64 x0, .int .i64 x1, .int .i64 x2, .int .i64 x3] 30)).alloc (.cells #[.int .i64 0, .int .i64 0, .int .i64 0, .int .i64 0, .int .i64 0, .int .i64 0, .int .i64 0, .int .i64 0, .int .i64 0, .int .i64 0, .int .i64 0] 26)).alloc (.cells #[.int .i64 c.pg, .int .i64 c.pc, .int .i64 (c.rs 0), .int .i64 (c.rs 1), .int .i64 (c.rs 2), .int .i64 (c.rs 3), .int .i64 (c.rs 4), .int .i64 (c.rs 5), .int .i64 (c.rs 6), .int .i64 (c.rs 7), .int .i64 c.dp, .slice none 0 0] 54) → MC W (w.heap.size + 1 + 1 + 1) c (.slice none 0 0) ∧ Cel W (w.heap.size + 1) #[.int .i64 x0, .int .i64 x1, .int .i64 x2, .int .i64 x3] 30 ∧ Cel W (w.heap.size + 1 + 1) #[.int .i64 0, .int .i64 0, .int .i64 0, .int .i64 0, .int .i64 0, .int .i64 0, .int .i64 0, .int .i64 0, .int .i64 0, .int .i64 0, .int .i64 0] 26 ∧ Below w.heap.size w W := by
    rintro W rfl
    refine ⟨?_, ?_, ?_, ((((Below.refl _ w).alloc (Nat.le_refl _) _).alloc (by simp) _).alloc (by simp; omega) _).alloc (by simp; omega) _⟩
    · have h := Cel.new (((w.alloc (.cells #[.int .i64 c.pg, .int .i64 c.pc, .int .i64 (c.rs 0), .int .i64 (c.rs 1), .int .i64 (c.rs 2), .int .i64 (c.rs 3), .int .i64 (c.rs 4), .int .i64 (c.rs 5), .int .i64 (c.rs 6), .int .i64 (c.rs 7), .int .i64 c.dp] 26)).alloc (.cells #[.int .i64 x0, .int .i64 x1, .int .i64 x2, .int .i64 x3] 30)).alloc (.cells #[.int .i64 0, .int .i64 0, .int .i64 0, .int .i64 0, .int .i64 0, .int .i64 0, .int .i64 0, .int .i64 0, .int .i64 0, .int .i64 0, .int .i64 0] 26)) #[.int .i64 c.pg, .int .i64 c.pc, .int .i64 (c.rs 0), .int .i64 (c.rs 1), .int .i64 (c.rs 2), .int .i64 (c.rs 3), .int .i64 (c.rs 4), .int .i64 (c.rs 5), .int .i64 (c.rs 6), .int .i64 (c.rs 7), .int .i64 c.dp, .slice none 0 0] 54
      rw [World.size_alloc, World.size_alloc, World.size_alloc] at h
      exact h
    · have h := Cel.new (w.alloc (.cells #[.int .i64 c.pg, .int .i64 c.pc, .int .i64 (c.rs 0), .int .i64 (c.rs 1), .int .i64 (c.rs 2), .int .i64 (c.rs 3), .int .i64 (c.rs 4), .int .i64 (c.rs 5), .int .i64 (c.rs 6), .int .i64 (c.rs 7), .int .i64 c.dp] 26)) #[.int .i64 x0, .int .i64 x1, .int .i64 x2, .int .i64 x3] 30
      rw [World.size_alloc] at h
      exact (h.put (Below.heap_alloc _ _ _ (by simp))).put (Below.heap_alloc _ _ _ (by simp))
    · have h := Cel.new ((w.alloc (.cells #[.int .i64 c.pg, .int .i64 c.pc, .int .i64 (c.rs 0), .int .i64 (c.rs 1), .int .i64 (c.rs 2), .int .i64 (c.rs 3), .int .i64 (c.rs 4), .int .i64 (c.rs 5), .int .i64 (c.rs 6), .int .i64 (c.rs 7), .int .i64 c.dp] 26)).alloc (.cells #[.int .i64 x0, .int .i64 x1, .int .i64 x2, .int .i64 x3] 30)) #[.int .i64 0, .int .i64 0, .int .i64 0, .int .i64 0, .int .i64 0, .int .i64 0, .int .i64 0, .int .i64 0, .int .i64 0, .int .i64 0, .int .i64 0] 26
      rw [World.size_alloc, World.size_alloc] at h
      exact h.put (Below.heap_alloc _ _ _ (by simp))
  obtain ⟨hM, hK, hZ, hB⟩ := eW _ rfl
  clear eW
  go_enter Tryd.func14, Tryd.ntmps14
  go_upto_region 2 with fail
  generalize (((w.alloc (.cells #[.int .i64 c.pg, .int .i64 c.pc, .int .i64 (c.rs 0), .int .i64 (c.rs 1), .int .i64 (c.rs 2), .int .i64 (c.rs 3), .int .i64 (c.rs 4), .int .i64 (c.rs 5), .int .i64 (c.rs 6), .int .i64 (c.rs 7), .int .i64 c.dp] 26)).alloc (.cells #[.int .i64 x0, .int .i64 x1, .int .i64 x2, .int .i64 x3] 30)).alloc (.cells #[.int .i64 0, .int .i64 0, .int .i64 0, .int .i64 0, .int .i64 0, .int .i64 0, .int .i64 0, .int .i64 0, .int .i64 0, .int .i64 0, .int .i64 0] 26)).alloc (.cells #[.int .i64 c.pg, .int .i64 c.pc, .int .i64 (c.rs 0), .int .i64 (c.rs 1), .int .i64 (c.rs 2), .int .i64 (c.rs 3), .int .i64 (c.rs 4), .int .i64 (c.rs 5), .int .i64 (c.rs 6), .int .i64 (c.rs 7), .int .i64 c.dp, .slice none 0 0] 54) = W at *
  have q0 : W.cell? ⟨w.heap.size + 1, 0, none⟩ = some (.int .i64 x0) := hK.cell rfl
  have q1 : W.cell? ⟨w.heap.size + 1, 1, none⟩ = some (.int .i64 x1) := hK.cell rfl
  have q2 : W.cell? ⟨w.heap.size + 1, 2, none⟩ = some (.int .i64 x2) := hK.cell rfl
  have q3 : W.cell? ⟨w.heap.size + 1, 3, none⟩ = some (.int .i64 x3) := hK.cell rfl
  go_upto_region 8 with (first | (go_at_call 26; (refine (HT W).mono ?_); rintro e' W0 ⟨rfl, rfl⟩) | (go_at_call 25; (with_reducible refine (put_any hM _ _).mono ?_); rintro e' W1 ⟨rfl, hM1, hb1⟩) | (go_at_call 25; (refine (put_any hM1 _ _).mono ?_); rintro e' W2 ⟨rfl, hM2, hb2⟩))
  replace hZ := hZ.but hb1 (by simp)
  replace hB := hB.trans (hb1.below hB.size (by simp; omega))
  clear hM hK HT hb1 q0 q1 q2 q3
  obtain ⟨d, hd⟩ : ∃ d, d = putR c 7 e := ⟨_, rfl⟩
  have hd2 : Hid (d = putR c 7 e) := Hid.mk hd
  rw [← hd] at hM1
  clear hd
  unfold MC mcA at hM1
  have y0 : W1.cell? ⟨w.heap.size + 1 + 1 + 1, 0, none⟩ = some (.int .i64 d.pg) := Cel.cell hM1 rfl
  have y1 : W1.cell? ⟨w.heap.size + 1 + 1 + 1, 1, none⟩ = some (.int .i64 d.pc) := Cel.cell hM1 rfl
  have y2 : W1.cell? ⟨w.heap.size + 1 + 1 + 1, 2, none⟩ = some (.int .i64 (d.rs 0)) := Cel.cell hM1 rfl
  have y3 : W1.cell? ⟨w.heap.size + 1 + 1 + 1, 3, none⟩ = some (.int .i64 (d.rs 1)) := Cel.cell hM1 rfl
  have y4 : W1.cell? ⟨w.heap.size + 1 + 1 + 1, 4, none⟩ = some (.int .i64 (d.rs 2)) := Cel.cell hM1 rfl
  have y5 : W1.cell? ⟨w.heap.size + 1 + 1 + 1, 5, none⟩ = some (.int .i64 (d.rs 3)) := Cel.cell hM1 rfl
  have y6 : W1.cell? ⟨w.heap.size + 1 + 1 + 1, 6, none⟩ = some (.int .i64 (d.rs 4)) := Cel.cell hM1 rfl
  have y7 : W1.cell? ⟨w.heap.size + 1 + 1 + 1, 7, none⟩ = some (.int .i64 (d.rs 5)) := Cel.cell hM1 rfl
  have y8 : W1.cell? ⟨w.heap.size + 1 + 1 + 1, 8, none⟩ = some (.int .i64 (d.rs 6)) := Cel.cell hM1 rfl
  have y9 : W1.cell? ⟨w.heap.size + 1 + 1 + 1, 9, none⟩ = some (.int .i64 (d.rs 7)) := Cel.cell hM1 rfl
  have y10 : W1.cell? ⟨w.heap.size + 1 + 1 + 1, 10, none⟩ = some (.int .i64 d.dp) := Cel.cell hM1 rfl
  have y11 : W1.cell? ⟨w.heap.size + 1 + 1 + 1, 11, none⟩ = some (.slice none 0 0) := Cel.cell hM1 rfl
  have zz0 : W1.cell? ⟨w.heap.size + 1 + 1, 0, none⟩ = some (.int .i64 0) := hZ.cell rfl
  have zz1 : W1.cell? ⟨w.heap.size + 1 + 1, 1, none⟩ = some (.int .i64 0) := hZ.cell rfl
  have zz2 : W1.cell? ⟨w.heap.size + 1 + 1, 2, none⟩ = some (.int .i64 0) := hZ.cell rfl
  have zz3 : W1.cell? ⟨w.heap.size + 1 + 1, 3, none⟩ = some (.int .i64 0) := hZ.cell rfl
  have zz4 : W1.cell? ⟨w.heap.size + 1 + 1, 4, none⟩ = some (.int .i64 0) := hZ.cell rfl
  have zz5 : W1.cell? ⟨w.heap.size + 1 + 1, 5, none⟩ = some (.int .i64 0) := hZ.cell rfl
  have zz6 : W1.cell? ⟨w.heap.size + 1 + 1, 6, none⟩ = some (.int .i64 0) := hZ.cell rfl
  have zz7 : W1.cell? ⟨w.heap.size + 1 + 1, 7, none⟩ = some (.int .i64 0) := hZ.cell rfl
  have zz8 : W1.cell? ⟨w.heap.size + 1 + 1, 8, none⟩ = some (.int .i64 0) := hZ.cell rfl
  have zz9 : W1.cell? ⟨w.heap.size + 1 + 1, 9, none⟩ = some (.int .i64 0) := hZ.cell rfl
  have zz10 : W1.cell? ⟨w.heap.size + 1 + 1, 10, none⟩ = some (.int .i64 0) := hZ.cell rfl
  have f0 : W1.frozen? ⟨w.heap.size + 1 + 1, 0, none⟩ = false := hZ.fz 0
  have f1 : W1.frozen? ⟨w.heap.size + 1 + 1, 1, none⟩ = false := hZ.fz 1
  have f2 : W1.frozen? ⟨w.heap.size + 1 + 1, 2, none⟩ = false := hZ.fz 2
  have f3 : W1.frozen? ⟨w.heap.size + 1 + 1, 3, none⟩ = false := hZ.fz 3
  have f4 : W1.frozen? ⟨w.heap.size + 1 + 1, 4, none⟩ = false := hZ.fz 4
  have f5 : W1.frozen? ⟨w.heap.size + 1 + 1, 5, none⟩ = false := hZ.fz 5
  have f6 : W1.frozen? ⟨w.heap.size + 1 + 1, 6, none⟩ = false := hZ.fz 6
  have f7 : W1.frozen? ⟨w.heap.size + 1 + 1, 7, none⟩ = false := hZ.fz 7
  have f8 : W1.frozen? ⟨w.heap.size + 1 + 1, 8, none⟩ = false := hZ.fz 8
  have f9 : W1.frozen? ⟨w.heap.size + 1 + 1, 9, none⟩ = false := hZ.fz 9
  have f10 : W1.frozen? ⟨w.heap.size + 1 + 1, 10, none⟩ = false := hZ.fz 10
  go_wp2_with fail
  exact bodyPost_ret (results_cX rfl _ _ (w.heap.size + 1 + 1) d rfl (Cel.fill11 _ _ _ _ _ _ _ _ _ _ _ hZ)) rfl ⟨by rw [hd2.out], below_fill11 _ _ _ _ _ _ _ _ _ _ _ hB (Nat.le_refl _) (by omega)⟩

theorem give_any (c : Cx) (x : Ins) (value e : Int) (w : World) : Calls Tryd.prog 14 #[.agg (cxA c), .agg (insC x), .int .i64 value, .int .i64 e] w fun e' w' => e' = .returned (.agg (cxA (giveC c x value e))) ∧ Below w.heap.size w w' := by
  obtain ⟨x0, x1, x2, x3⟩ := x
  unfold giveC
  by_cases he : e = 0
  · subst he
    cases ht : tellB x0
    · exact give_z_false ht
    · exact give_z_true ht
  · have hg : gvI value e = 0 := by
      unfold gvI
      rw [show (e == 0) = false by simpa using he]
    rw [hg]
    cases ht : tellB x0
    · exact give_e_false he ht
    · exact give_e_true he ht

end Go.Proofs.YtllnpkijojpccaaDoor
