/- A machine's step: the program's. -/
import Derived.Test.YtllnpkijojpccaaDoorMDoA
import Derived.Test.YtllnpkijojpccaaDoorMDoB
import Derived.Test.YtllnpkijojpccaaDoorMDoC
import Derived.Test.YtllnpkijojpccaaDoorMDoD
import Derived.Test.YtllnpkijojpccaaDoorMDoE
namespace Go.Proofs.YtllnpkijojpccaaDoor
open Go Go.RowKit Go.Shelf

theorem do_any {w : World} {B : Nat} {c : Cx} {v : Value} (x : Ins) (hM : MC w B c v) :
    Calls Tryd.prog 30 #[.pointer (some ⟨B, 0, none⟩), .agg (insC x)] w fun e w' => e = .returned (.agg (insC (doC x c).2)) ∧ MC w' B (doC x c).1 v ∧ But [B] w w' := by
  obtain ⟨op, a, b, y⟩ := x
  rcases op_cases op with e | e | e | e | e | e | e | e | e | e | e | e | e | e
  · subst e; rw [doC_0 c rfl]; exact do_0 hM
  · subst e; rw [doC_1 c rfl]; exact do_1 hM
  · subst e; rw [doC_2 c rfl]; exact do_2 hM
  · subst e; rw [doC_3 c rfl]; exact do_3 hM
  · subst e; rw [doC_4 c rfl]; exact do_4 hM
  · subst e; rw [doC_5 c rfl]; exact do_5 hM
  · subst e; rw [doC_6 c rfl]; exact do_6 hM
  · subst e; rw [doC_7 c rfl]; exact do_7 hM
  · subst e; rw [doC_8 c rfl]; exact do_8 hM
  · subst e; rw [doC_9 c rfl]; exact do_9 hM
  · subst e; rw [doC_10 c rfl]; exact do_10 hM
  · subst e; rw [doC_call c (.inl rfl)]; exact do_11 hM
  · subst e; rw [doC_call c (.inr rfl)]; exact do_14 hM
  · rw [doC_oth c e]; exact do_oth hM e

/-- Code that a machine goes through: a slice of it, elsewhere. -/
theorem step_in {w : World} {B : Nat} {c : Cx} {ps : List Ins} {a : Option Addr} {n : Nat} (hM : MC w B c (.slice a ps.length n)) (hp : PV w a ps) (hl : ps.length ≤ 64) {k : Nat} (hk : k < ps.length) (hc : c.pc = (k : Int)) :
    Calls Tryd.prog 21 #[.pointer (some ⟨B, 0, none⟩)] w fun e w' => e = .returned (.agg (insC (doC (ins ps k) (toPC c (c.pc + 1))).2)) ∧ MC w' B (doC (ins ps k) (toPC c (c.pc + 1))).1 (.slice a ps.length n) ∧ But [B] w w' := by
  obtain ⟨b, o, rfl, q0, q1, q2, q3⟩ := hp k hk
  have hmx := mixed
  have HDo : ∀ W : World, MC W B (toPC c (c.pc + 1)) (.slice (some ⟨b, o, none⟩) ps.length n) → Calls Tryd.prog 30 #[.pointer (some ⟨B, 0, none⟩), .agg #[.int .i64 (ins ps k).1, .int .i64 (ins ps k).2.1, .int .i64 (ins ps k).2.2.1, .int .i64 (ins ps k).2.2.2]] W fun e w' => e = .returned (.agg (insC (doC (ins ps k) (toPC c (c.pc + 1))).2)) ∧ MC w' B (doC (ins ps k) (toPC c (c.pc + 1))).1 (.slice (some ⟨b, o, none⟩) ps.length n) ∧ But [B] W w' := fun W h => do_any (ins ps k) h
  generalize doC (ins ps k) (toPC c (c.pc + 1)) = q at *
  obtain ⟨c', x', a', b', y'⟩ := q
  have k0 : (0 : Int) ≤ (k : Int) := by omega
  have k1 : (k : Int) < (ps.length : Int) := by omega
  have k2 : (k : Int) < 64 := by omega
  have hlt := hM.lt
  have cpc : w.cell? ⟨B, 1, none⟩ = some (.int .i64 (k : Int)) := by rw [← hc]; exact Cel.cell hM rfl
  have cco : w.cell? ⟨B, 11, none⟩ = some (.slice (some ⟨b, o, none⟩) ps.length n) := Cel.cell hM rfl
  have B1 : Below w.heap.size w (w.alloc (.cells #[.int .i64 0, .int .i64 0, .int .i64 0, .int .i64 0] 30)) := (Below.refl _ w).alloc (Nat.le_refl _) _
  have d1 := cell_on B1 cpc
  have d2 := cell_on B1 cco
  have e0 := cell_on B1 q0
  have e1 := cell_on B1 q1
  have e2 := cell_on B1 q2
  have e3 := cell_on B1 q3
  go_enter Tryd.func21, Tryd.ntmps21
  go_wp2_with fail
  go_quiet (fail)
  go_upto_region 3 with fail
  have hMW : MC ((w.alloc (.cells #[.int .i64 0, .int .i64 0, .int .i64 0, .int .i64 0] 30)).drewN nq) B c (.slice (some ⟨b, o, none⟩) ps.length n) := Cel.below hM (below_drewN B1 nq)
  have hRW : Cel ((w.alloc (.cells #[.int .i64 0, .int .i64 0, .int .i64 0, .int .i64 0] 30)).drewN nq) w.heap.size #[.int .i64 0, .int .i64 0, .int .i64 0, .int .i64 0] 30 := Cel.new w _ 30
  have hBW : But [B] w ((w.alloc (.cells #[.int .i64 0, .int .i64 0, .int .i64 0, .int .i64 0] 30)).drewN nq) := ((But.refl _ w).alloc _).drewN nq
  have hsz : ((w.alloc (.cells #[.int .i64 0, .int .i64 0, .int .i64 0, .int .i64 0] 30)).drewN nq).heap.size = w.heap.size + 1 := by simp
  replace d1 : ((w.alloc (.cells #[.int .i64 0, .int .i64 0, .int .i64 0, .int .i64 0] 30)).drewN nq).cell? ⟨B, 1, none⟩ = some (.int .i64 (k : Int)) := d1
  replace d2 : ((w.alloc (.cells #[.int .i64 0, .int .i64 0, .int .i64 0, .int .i64 0] 30)).drewN nq).cell? ⟨B, 11, none⟩ = some (.slice (some ⟨b, o, none⟩) ps.length n) := d2
  replace e0 : ((w.alloc (.cells #[.int .i64 0, .int .i64 0, .int .i64 0, .int .i64 0] 30)).drewN nq).cell? ⟨b, o + k * 4, none⟩ = some (.int .i64 (ins ps k).1) := e0
  replace e1 : ((w.alloc (.cells #[.int .i64 0, .int .i64 0, .int .i64 0, .int .i64 0] 30)).drewN nq).cell? ⟨b, o + k * 4 + 1, none⟩ = some (.int .i64 (ins ps k).2.1) := e1
  replace e2 : ((w.alloc (.cells #[.int .i64 0, .int .i64 0, .int .i64 0, .int .i64 0] 30)).drewN nq).cell? ⟨b, o + k * 4 + 2, none⟩ = some (.int .i64 (ins ps k).2.2.1) := e2
  replace e3 : ((w.alloc (.cells #[.int .i64 0, .int .i64 0, .int .i64 0, .int .i64 0] 30)).drewN nq).cell? ⟨b, o + k * 4 + 3, none⟩ = some (.int .i64 (ins ps k).2.2.2) := e3
  clear q0 q1 q2 q3 cpc cco B1
  generalize ((w.alloc (.cells #[.int .i64 0, .int .i64 0, .int .i64 0, .int .i64 0] 30)).drewN nq) = W at *
  have al : ∀ (Z : Obj) (p : Addr) (u : Value), W.cell? p = some u → (W.alloc Z).cell? p = some u := fun Z p u h => cell_on (w := W) ((Below.refl _ W).alloc (Nat.le_refl _) _) h
  have l1 : ∀ Z, (W.alloc Z).cell? ⟨B, 1, none⟩ = some (.int .i64 (k : Int)) := fun Z => al Z _ _ d1
  have l2 : ∀ Z, (W.alloc Z).cell? ⟨B, 11, none⟩ = some (.slice (some ⟨b, o, none⟩) ps.length n) := fun Z => al Z _ _ d2
  have m0 : ∀ Z, (W.alloc Z).cell? ⟨b, o + k * 4, none⟩ = some (.int .i64 (ins ps k).1) := fun Z => al Z _ _ e0
  have m1 : ∀ Z, (W.alloc Z).cell? ⟨b, o + k * 4 + 1, none⟩ = some (.int .i64 (ins ps k).2.1) := fun Z => al Z _ _ e1
  have m2 : ∀ Z, (W.alloc Z).cell? ⟨b, o + k * 4 + 2, none⟩ = some (.int .i64 (ins ps k).2.2.1) := fun Z => al Z _ _ e2
  have m3 : ∀ Z, (W.alloc Z).cell? ⟨b, o + k * 4 + 3, none⟩ = some (.int .i64 (ins ps k).2.2.2) := fun Z => al Z _ _ e3
  clear al
  go_region
  have iM : MC (W.alloc (.cells #[.int .i64 (ins ps k).1, .int .i64 (ins ps k).2.1, .int .i64 (ins ps k).2.2.1, .int .i64 (ins ps k).2.2.2] 51)).drew B c (.slice (some ⟨b, o, none⟩) ps.length n) := Cel.below hMW ((Below.refl _ W).alloc (Nat.le_refl _) _).drew
  have iR : Cel (W.alloc (.cells #[.int .i64 (ins ps k).1, .int .i64 (ins ps k).2.1, .int .i64 (ins ps k).2.2.1, .int .i64 (ins ps k).2.2.2] 51)).drew w.heap.size #[.int .i64 0, .int .i64 0, .int .i64 0, .int .i64 0] 30 := Cel.below hRW ((Below.refl _ W).alloc (Nat.le_refl _) _).drew
  have iI : Cel (W.alloc (.cells #[.int .i64 (ins ps k).1, .int .i64 (ins ps k).2.1, .int .i64 (ins ps k).2.2.1, .int .i64 (ins ps k).2.2.2] 51)).drew (w.heap.size + 1) (insC (ins ps k)) 51 := by
    have h := Cel.new W #[.int .i64 (ins ps k).1, .int .i64 (ins ps k).2.1, .int .i64 (ins ps k).2.2.1, .int .i64 (ins ps k).2.2.2] 51
    rw [hsz] at h
    exact h
  have iB : But [B] w (W.alloc (.cells #[.int .i64 (ins ps k).1, .int .i64 (ins ps k).2.1, .int .i64 (ins ps k).2.2.1, .int .i64 (ins ps k).2.2.2] 51)).drew := (hBW.alloc _).drew
  clear hMW hRW hBW hsz d1 d2 e0 e1 e2 e3 l1 l2 m0 m1 m2 m3 hp
  generalize (W.alloc (.cells #[.int .i64 (ins ps k).1, .int .i64 (ins ps k).2.1, .int .i64 (ins ps k).2.2.1, .int .i64 (ins ps k).2.2.2] 51)).drew = V at *
  have c1 : V.cell? ⟨B, 1, none⟩ = some (.int .i64 (k : Int)) := by rw [← hc]; exact Cel.cell iM rfl
  have f1 := Cel.fz iM 1
  have jM : MC (V.setCell ⟨B, 1, none⟩ (.int .i64 ((k : Int) + 1))) B (toPC c (c.pc + 1)) (.slice (some ⟨b, o, none⟩) ps.length n) := by
    have h := Cel.set (j := 1) iM (.int .i64 ((k : Int) + 1))
    rw [hc]
    exact h
  have hb3 : But [B] V (V.setCell ⟨B, 1, none⟩ (.int .i64 ((k : Int) + 1))) := (But.refl _ V).set (p := ⟨B, 1, none⟩) (by simp) _
  have jI := iI.but hb3 (by simp; omega)
  have jR := iR.but hb3 (by simp; omega)
  have jB := iB.trans hb3
  have g0 : (V.setCell ⟨B, 1, none⟩ (.int .i64 ((k : Int) + 1))).cell? ⟨w.heap.size + 1, 0, none⟩ = some (.int .i64 (ins ps k).1) := jI.cell rfl
  have g1 : (V.setCell ⟨B, 1, none⟩ (.int .i64 ((k : Int) + 1))).cell? ⟨w.heap.size + 1, 1, none⟩ = some (.int .i64 (ins ps k).2.1) := jI.cell rfl
  have g2 : (V.setCell ⟨B, 1, none⟩ (.int .i64 ((k : Int) + 1))).cell? ⟨w.heap.size + 1, 2, none⟩ = some (.int .i64 (ins ps k).2.2.1) := jI.cell rfl
  have g3 : (V.setCell ⟨B, 1, none⟩ (.int .i64 ((k : Int) + 1))).cell? ⟨w.heap.size + 1, 3, none⟩ = some (.int .i64 (ins ps k).2.2.2) := jI.cell rfl
  have HC := HDo _ jM
  clear HDo hb3
  clear hc
  go_wp2_with (go_at_call 30; (refine HC.mono ?_); rintro e W1 ⟨rfl, hM1, hb1⟩; have s0 : W1.cell? ⟨w.heap.size, 0, none⟩ = some (.int .i64 0) := (jR.but hb1 (by simp; omega)).cell rfl; have s1 : W1.cell? ⟨w.heap.size, 1, none⟩ = some (.int .i64 0) := (jR.but hb1 (by simp; omega)).cell rfl; have s2 : W1.cell? ⟨w.heap.size, 2, none⟩ = some (.int .i64 0) := (jR.but hb1 (by simp; omega)).cell rfl; have s3 : W1.cell? ⟨w.heap.size, 3, none⟩ = some (.int .i64 0) := (jR.but hb1 (by simp; omega)).cell rfl; have t0 := (jR.but hb1 (by simp; omega)).fz 0; have t1 := (jR.but hb1 (by simp; omega)).fz 1; have t2 := (jR.but hb1 (by simp; omega)).fz 2; have t3 := (jR.but hb1 (by simp; omega)).fz 3; unfold insC)
  have jR1 := jR.but hb1 (by simp; omega)
  have hne : B ≠ w.heap.size := by omega
  exact bodyPost_ret (results_cK rfl _ _ w.heap.size (x', a', b', y') rfl ((((jR1.set _).set _).set _).set _)) rfl ⟨rfl, (((Cel.other hM1 hne _).other hne _).other hne _).other hne _, (jB.trans hb1).trans_new (((((But.refl [w.heap.size] W1).set (by simp) _).set (by simp) _).set (by simp) _).set (by simp) _) (by simp)⟩

theorem step_out {w : World} {B : Nat} {c : Cx} {ps : List Ins} {a : Option Addr} {n : Nat} (hM : MC w B c (.slice a ps.length n)) (h : ¬ (0 ≤ c.pc ∧ c.pc < (ps.length : Int))) :
    Calls Tryd.prog 21 #[.pointer (some ⟨B, 0, none⟩)] w fun e w' => e = .returned (.agg (insC e11)) ∧ MC w' B c (.slice a ps.length n) ∧ But [B] w w' := by
  have hlt := hM.lt
  have hmx := mixed
  have cpc : w.cell? ⟨B, 1, none⟩ = some (.int .i64 c.pc) := Cel.cell hM rfl
  have cco : w.cell? ⟨B, 11, none⟩ = some (.slice a ps.length n) := Cel.cell hM rfl
  have B1 : Below w.heap.size w (w.alloc (.cells #[.int .i64 0, .int .i64 0, .int .i64 0, .int .i64 0] 30)) := (Below.refl _ w).alloc (Nat.le_refl _) _
  have d1 := cell_on B1 cpc
  have d2 := cell_on B1 cco
  have iR := Cel.new w #[.int .i64 0, .int .i64 0, .int .i64 0, .int .i64 0] 30
  have iM := Cel.below hM B1
  have hne : B ≠ w.heap.size := by omega
  have HF : ∀ m, Cel (((((w.alloc (.cells #[.int .i64 0, .int .i64 0, .int .i64 0, .int .i64 0] 30)).drewN m).setCell ⟨w.heap.size, 0, none⟩ (.int .i64 11)).setCell ⟨w.heap.size, 1, none⟩ (.int .i64 0)).setCell ⟨w.heap.size, 2, none⟩ (.int .i64 0) |>.setCell ⟨w.heap.size, 3, none⟩ (.int .i64 0)) w.heap.size (insC e11) 30 := fun m => (((Cel.set (A := (w.alloc (.cells #[.int .i64 0, .int .i64 0, .int .i64 0, .int .i64 0] 30)).drewN m) iR _).set _).set _).set _
  by_cases h0 : c.pc < 0
  · generalize c.pc = p at *
    clear h
    go_enter Tryd.func21, Tryd.ntmps21
    go_wp2_with fail
    go_quiet (fail)
    go_wp2_with fail
    refine bodyPost_ret (results_cK rfl _ _ w.heap.size e11 rfl (HF nq)) rfl ⟨rfl, ?_, ?_⟩
    · exact (((Cel.other (A := (w.alloc (.cells #[.int .i64 0, .int .i64 0, .int .i64 0, .int .i64 0] 30)).drewN nq) iM hne _).other hne _).other hne _).other hne _
    · exact ((((((But.refl [B] w).alloc _).drewN nq).trans_new ((((But.refl [w.heap.size] _).set (by simp) _).set (by simp) _).set (by simp) _ |>.set (by simp) _) (by simp))))
  · have h1 : (ps.length : Int) ≤ c.pc := by omega
    have h2 : (0 : Int) ≤ c.pc := by omega
    generalize c.pc = p at *
    clear h h0
    go_enter Tryd.func21, Tryd.ntmps21
    go_wp2_with fail
    go_quiet (fail)
    go_wp2_with fail
    refine bodyPost_ret (results_cK rfl _ _ w.heap.size e11 rfl (HF nq)) rfl ⟨rfl, ?_, ?_⟩
    · exact (((Cel.other (A := (w.alloc (.cells #[.int .i64 0, .int .i64 0, .int .i64 0, .int .i64 0] 30)).drewN nq) iM hne _).other hne _).other hne _).other hne _
    · exact ((((((But.refl [B] w).alloc _).drewN nq).trans_new ((((But.refl [w.heap.size] _).set (by simp) _).set (by simp) _).set (by simp) _ |>.set (by simp) _) (by simp))))

/-- A machine's step. -/
theorem step_any {w : World} {B : Nat} {c : Cx} {ps : List Ins} {a : Option Addr} {n : Nat} (hM : MC w B c (.slice a ps.length n)) (hp : PV w a ps) (hl : ps.length ≤ 64) :
    Calls Tryd.prog 21 #[.pointer (some ⟨B, 0, none⟩)] w fun e w' => e = .returned (.agg (insC (stepC ps c).2)) ∧ MC w' B (stepC ps c).1 (.slice a ps.length n) ∧ But [B] w w' := by
  unfold stepC
  by_cases h : 0 ≤ c.pc ∧ c.pc < (ps.length : Int)
  · rw [if_pos h]
    exact step_in hM hp hl (k := c.pc.toNat) (by omega) (by omega)
  · rw [if_neg h]
    exact step_out hM h

end Go.Proofs.YtllnpkijojpccaaDoor
