/- Steps as they lie in memory; what arguments that are steps, or rows of them, look like as values. -/
/- The statements' plain, id; rows that are alike. -/
import Derived.Test.YtjgclehghnmhnaaDoorLfK
import Derived.ProofKit
import Derived.OpenShut
import Derived.ChangeSlices
import Derived.Deep.Grids
import Derived.Deep.SlicePairs
import Derived.Test.YtjgclehghnmhnaaDoorJ05LCores
import Derived.Test.YtjgclehghnmhnaaDoorLfE
import Derived.BigQuiet
namespace Go.Proofs.YtjgclehghnmhnaaDoor
open Go Go.ChangeShapes Go.WideShapes Go.ChangeAt Go.RowKit
set_option maxRecDepth 100000

/-- A step. -/
structure Sp where
  kd : Int
  i : Int
  n : Int
  re : Bool
  cx : Cx
def zS : Sp := ⟨0, 0, 0, false, ⟨0, 0, fun _ => 0, 0⟩⟩
/-- Its numbers are a machine's. -/
def RgS (e : Sp) : Prop := In64 e.kd ∧ In64 e.i ∧ In64 e.n
def s15 (e : Sp) : List Value := [.int .i64 e.kd, .int .i64 e.i, .int .i64 e.n, .bool e.re, .int .i64 e.cx.pg, .int .i64 e.cx.pc, .int .i64 (e.cx.rs 0), .int .i64 (e.cx.rs 1), .int .i64 (e.cx.rs 2), .int .i64 (e.cx.rs 3), .int .i64 (e.cx.rs 4), .int .i64 (e.cx.rs 5), .int .i64 (e.cx.rs 6), .int .i64 (e.cx.rs 7), .int .i64 e.cx.dp]
def spA (e : Sp) : Array Value := #[.int .i64 e.kd, .int .i64 e.i, .int .i64 e.n, .bool e.re, .int .i64 e.cx.pg, .int .i64 e.cx.pc, .int .i64 (e.cx.rs 0), .int .i64 (e.cx.rs 1), .int .i64 (e.cx.rs 2), .int .i64 (e.cx.rs 3), .int .i64 (e.cx.rs 4), .int .i64 (e.cx.rs 5), .int .i64 (e.cx.rs 6), .int .i64 (e.cx.rs 7), .int .i64 e.cx.dp]
theorem s15_arr (e : Sp) : (s15 e).toArray = spA e := rfl
theorem s15_len (e : Sp) : (s15 e).length = 15 := rfl
def sp (xs : List Sp) (j : Nat) : Sp := xs.getD j zS
/-- Cells that are a step's. -/
def AtS (w : World) (b o : Nat) (e : Sp) : Prop := w.rangeAt b o (s15 e) ∧ RgS e
theorem AtS.below {w w' : World} {b o : Nat} {e : Sp} (h : AtS w b o e) (hb : Below w.heap.size w w') : AtS w' b o e := ⟨range_below h.1 hb, h.2⟩
theorem AtS.cells {w : World} {b o : Nat} {e : Sp} (h : AtS w b o e) : w.cell? ⟨b, o, none⟩ = some (.int .i64 e.kd) ∧ w.cell? ⟨b, o + 1, none⟩ = some (.int .i64 e.i) ∧ w.cell? ⟨b, o + 2, none⟩ = some (.int .i64 e.n) ∧ w.cell? ⟨b, o + 3, none⟩ = some (.bool e.re) ∧ w.cell? ⟨b, o + 4, none⟩ = some (.int .i64 e.cx.pg) ∧ w.cell? ⟨b, o + 5, none⟩ = some (.int .i64 e.cx.pc) ∧ w.cell? ⟨b, o + 6, none⟩ = some (.int .i64 (e.cx.rs 0)) ∧ w.cell? ⟨b, o + 7, none⟩ = some (.int .i64 (e.cx.rs 1)) ∧ w.cell? ⟨b, o + 8, none⟩ = some (.int .i64 (e.cx.rs 2)) ∧ w.cell? ⟨b, o + 9, none⟩ = some (.int .i64 (e.cx.rs 3)) ∧ w.cell? ⟨b, o + 10, none⟩ = some (.int .i64 (e.cx.rs 4)) ∧ w.cell? ⟨b, o + 11, none⟩ = some (.int .i64 (e.cx.rs 5)) ∧ w.cell? ⟨b, o + 12, none⟩ = some (.int .i64 (e.cx.rs 6)) ∧ w.cell? ⟨b, o + 13, none⟩ = some (.int .i64 (e.cx.rs 7)) ∧ w.cell? ⟨b, o + 14, none⟩ = some (.int .i64 e.cx.dp) :=
  ⟨h.1 0 _ rfl, h.1 1 _ rfl, h.1 2 _ rfl, h.1 3 _ rfl, h.1 4 _ rfl, h.1 5 _ rfl, h.1 6 _ rfl, h.1 7 _ rfl, h.1 8 _ rfl, h.1 9 _ rfl, h.1 10 _ rfl, h.1 11 _ rfl, h.1 12 _ rfl, h.1 13 _ rfl, h.1 14 _ rfl⟩
theorem AtS.cx {w : World} {b : Nat} {e : Sp} (h : AtS w b 0 e) : w.rangeAt b 4 (cxl e.cx) := fun j v hv => by
  have hj : j < 11 := (List.getElem?_eq_some_iff.1 hv).1
  have := h.1 (4 + j) v (by
    unfold s15
    rw [show 4 + j = j + 1 + 1 + 1 + 1 by omega, List.getElem?_cons_succ, List.getElem?_cons_succ, List.getElem?_cons_succ, List.getElem?_cons_succ]
    exact hv)
  rw [Nat.zero_add] at this
  exact this
/-- Rows of steps. -/
def SV (w : World) (a : Option Addr) (xs : List Sp) : Prop := ∀ j, j < xs.length → ∃ b o, a = some ⟨b, o, none⟩ ∧ AtS w b (o + j * 15) (sp xs j)
theorem SV.below {w w' : World} {a : Option Addr} {xs : List Sp} (h : SV w a xs) (hb : Below w.heap.size w w') : SV w' a xs := fun j hj => by
  obtain ⟨b, o, e, h0⟩ := h j hj
  exact ⟨b, o, e, h0.below hb⟩
theorem size15 : (Tryd.prog.info? 32).map (·.size) = some 15 := by kernel_rfl
theorem s15_new (w : World) (e : Sp) : (w.alloc (.cells (spA e) 32)).rangeAt w.heap.size 0 (s15 e) := fun j v hv => by
  rw [Nat.zero_add]
  exact (Cel.new w (spA e) 32).cell (by rw [← s15_arr]; simpa using hv)
theorem cells3 : Tryd.prog.cellsOf 3 = 1 := by kernel_rfl
theorem cells4 : Tryd.prog.cellsOf 4 = 1 := by kernel_rfl
theorem cellsStep : Tryd.prog.cellsOf 32 = 15 := by kernel_rfl
theorem cellsCx : Tryd.prog.cellsOf 30 = 11 := by kernel_rfl
theorem cellsa8 : Tryd.prog.cellsOf 28 = 8 := by kernel_rfl

section
variable {H : Type} {enc : TypeId × Value → H} {W : World} {r : Reach} {b0 base : Nat} {held : Bool} {v : Value} {d : DataW H} {p : List MemPlace}

set_option maxHeartbeats 2000000 in
theorem step_trod {n : Nat} {cs : List Value} {x : DataW H × List MemPlace} (h : DataW.trod enc Tryd.prog W base (fun _ => true) held n 32 cs = some x) (hlen : cs.length = 15) : ∃ e : Sp, cs = s15 e ∧ RgS e := by
  obtain ⟨xs, k, hk, hxy, _, hxl, hf⟩ := DataW.trod_struct Tryd.underlying32 h
  match xs, hxl, cs, hlen with
  | [y0, y1, y2, y3, y4], _, [v0, v1, v2, v3, v4, v5, v6, v7, v8, v9, v10, v11, v12, v13, v14], _ =>
    have g0 := hf 0 _ rfl
    have g1 := hf 1 _ rfl
    have g2 := hf 2 _ rfl
    have g3 := hf 3 _ rfl
    have g4 := hf 4 _ rfl
    simp [cells3, cells4, cellsCx] at g0 g1 g2 g3 g4
    obtain ⟨n0, k0, _, w0⟩ := DataW.trod_int Tryd.underlying3 g0
    obtain ⟨n1, k1, _, w1⟩ := DataW.trod_int Tryd.underlying3 g1
    obtain ⟨n2, k2, _, w2⟩ := DataW.trod_int Tryd.underlying3 g2
    obtain ⟨n3, k3, _⟩ := DataW.trod_bool Tryd.underlying4 g3
    obtain ⟨xs2, _, _, _, _, hxl2, hf2⟩ := DataW.trod_struct Tryd.underlying30 g4
    match xs2, hxl2 with
    | [z0, z1, z2, z3], _ =>
      have p0 := hf2 0 _ rfl
      have p1 := hf2 1 _ rfl
      have p2 := hf2 2 _ rfl
      have p3 := hf2 3 _ rfl
      simp [cells3, cellsa8] at p0 p1 p2 p3
      obtain ⟨n4, k4, _, w4⟩ := DataW.trod_int Tryd.underlying3 p0
      obtain ⟨n5, k5, _, w5⟩ := DataW.trod_int Tryd.underlying3 p1
      obtain ⟨n14, k14, _, w14⟩ := DataW.trod_int Tryd.underlying3 p3
      obtain ⟨zs, _, _, _, _, hzs, hall⟩ := DataW.trod_array Tryd.underlying28 p2
      rw [cells3] at hall
      match zs, hzs with
      | [y0, y1, y2, y3, y4, y5, y6, y7], _ =>
        have q0 := hall 0 (by omega)
        have q1 := hall 1 (by omega)
        have q2 := hall 2 (by omega)
        have q3 := hall 3 (by omega)
        have q4 := hall 4 (by omega)
        have q5 := hall 5 (by omega)
        have q6 := hall 6 (by omega)
        have q7 := hall 7 (by omega)
        simp at q0 q1 q2 q3 q4 q5 q6 q7
        obtain ⟨n6, k6, _, w6⟩ := DataW.trod_int Tryd.underlying3 q0
        obtain ⟨n7, k7, _, w7⟩ := DataW.trod_int Tryd.underlying3 q1
        obtain ⟨n8, k8, _, w8⟩ := DataW.trod_int Tryd.underlying3 q2
        obtain ⟨n9, k9, _, w9⟩ := DataW.trod_int Tryd.underlying3 q3
        obtain ⟨n10, k10, _, w10⟩ := DataW.trod_int Tryd.underlying3 q4
        obtain ⟨n11, k11, _, w11⟩ := DataW.trod_int Tryd.underlying3 q5
        obtain ⟨n12, k12, _, w12⟩ := DataW.trod_int Tryd.underlying3 q6
        obtain ⟨n13, k13, _, w13⟩ := DataW.trod_int Tryd.underlying3 q7
        simp at k0 k1 k2 k3 k4 k5 k6 k7 k8 k9 k10 k11 k12 k13 k14
        subst k0 k1 k2 k3 k4 k5 k6 k7 k8 k9 k10 k11 k12 k13 k14
        exact ⟨⟨n0, n1, n2, n3, ⟨n4, n5, fun j => [n6, n7, n8, n9, n10, n11, n12, n13].getD j 0, n14⟩⟩, rfl, wf64.1 w0, wf64.1 w1, wf64.1 w2⟩
theorem open_steps (hv : Value.okWide Tryd.prog W r b0 22 v) (h : DataW.Trod enc Tryd.prog W base (fun _ => true) held 22 v d p) :
    ∃ (a : Option Addr) (c : Nat) (xs : List Sp), v = .slice a xs.length c ∧ SV W a xs := by
  obtain ⟨a0, len, cap, rfl⟩ := okWide_slice Tryd.underlying22 hv
  obtain ⟨fuel, hf⟩ := h
  rcases Deep.open_slice Tryd.underlying22 hf with ⟨hcs, _⟩ | ⟨a, len', cap', m, n, D, Q, hcs, _, hl, hm, hmm, _, hcell⟩
  · simp [Value.cells] at hcs
    obtain ⟨rfl, rfl, rfl⟩ := hcs
    exact ⟨none, 0, [], rfl, fun j hj => by simp at hj⟩
  · simp [Value.cells] at hcs
    obtain ⟨rfl, rfl, rfl⟩ := hcs
    simp only [if_true] at hmm
    subst hmm
    haveI : Inhabited Sp := ⟨zS⟩
    obtain ⟨X, hX⟩ := Deep.choose_lt (α := Sp) (p := fun i t => (∀ j u, (s15 t)[j]? = some u → W.cell? (a.add (i * 15 + j)) = some u) ∧ RgS t) (fun i hi => by
      obtain ⟨cs', h1, h2⟩ := hcell i hi
      rw [cellsStep] at h1
      obtain ⟨_, hlen, hc⟩ := World.cells?_some h1
      obtain ⟨t, rfl, hr⟩ := step_trod h2 hlen
      refine ⟨t, fun j u hu => ?_, hr⟩
      have hj := (List.getElem?_eq_some_iff.1 hu).1
      have := hc j hj
      rw [Deep.add_add] at this
      rw [this]
      exact hu)
    refine ⟨some a, m, (List.range len).map X, by simp, fun j hj => ?_⟩
    have hj' : j < len := by simpa using hj
    obtain ⟨h0, q1⟩ := hX j (by omega)
    obtain ⟨h00, _⟩ := hX 0 (by omega)
    have hc0 := h00 0 _ rfl
    obtain ⟨b, off, spot⟩ := a
    have hspot : spot = none := by simpa [Addr.add] using World.cell?_spot hc0
    subst hspot
    have e : sp ((List.range len).map X) j = X j := by
      unfold sp
      rw [List.getD_eq_getElem?_getD]
      simp [hj']
    refine ⟨b, off, rfl, ?_⟩
    rw [e]
    refine ⟨fun i u hu => ?_, q1⟩
    have := h0 i u hu
    rw [add_plain, ← Nat.add_assoc] at this
    exact this
theorem open_step (hv : Value.okWide Tryd.prog W r b0 32 v) (h : DataW.Trod enc Tryd.prog W base (fun _ => true) held 32 v d p) :
    ∃ (t : Sp), v = .agg (spA t) ∧ RgS t := by
  simp only [Value.okWide, Tryd.underlying32] at hv
  obtain ⟨cs, rfl, hsz, _⟩ := hv
  rw [cellsStep] at hsz
  obtain ⟨fuel, hf⟩ := h
  obtain ⟨l⟩ := cs
  obtain ⟨t, e, hr⟩ := step_trod (cs := l) (by simpa [Value.cells] using hf) (by simpa using hsz)
  subst e
  exact ⟨t, rfl, hr⟩
end
end Go.Proofs.YtjgclehghnmhnaaDoor
namespace Go.Proofs.YtjgclehghnmhnaaDoor
open Go Go.RowKit

/-- The id that a step is about. -/
def idX (xs : List Ac) (s : Sp) : Int := if s.re = true ∧ xs.length ≠ 0 then (ac xs ((s.i % 18446744073709551616) % xs.length).toNat).id else s.i
section
variable {w : World} {M N : Nat} {R : List Nat} {σ : Sta}
set_option maxHeartbeats 2000000 in
set_option maxRecDepth 100000 in
theorem lid_any (h : RQ w M R N σ) (s : Sp) :
    Calls Tryd.prog 31 #[.pointer (some ⟨M, 0, none⟩), .agg (spA s)] w fun e w' => e = .returned (.int .i64 (idX σ.xs s)) ∧ Below w.heap.size w w' := by
  have ba : Below w.heap.size w (w.alloc (.cells (spA s) 32)) := (Below.refl _ _).alloc (Nat.le_refl _) _
  obtain ⟨S, A, K, v, rfl, hm⟩ := h
  have hl := hm.len
  have hcb := Cel.new w (spA s) 32
  have n1 : (w.alloc (.cells (spA s) 32)).cell? ⟨w.heap.size, 1, none⟩ = some (.int .i64 s.i) := hcb.cell (j := 1) rfl
  have n3 : (w.alloc (.cells (spA s) 32)).cell? ⟨w.heap.size, 3, none⟩ = some (.bool s.re) := hcb.cell (j := 3) rfl
  obtain ⟨sl, c, rfl, he⟩ := hm.shape
  have c1 := (hm.below ba).c1
  have he1 := he.below ba
  obtain ⟨z, hz⟩ : ∃ z, Hid (idX σ.xs s = z) := ⟨_, rfl⟩
  have HZ := hz.out
  unfold idX at HZ
  rw [hz.out]
  have HI : Hid (s.re = true → σ.xs.length ≠ 0 → (ac σ.xs ((s.i % 18446744073709551616) % σ.xs.length).toNat).id = z) := fun h1 h2 => by rw [← HZ, if_pos ⟨h1, h2⟩]
  have HN : Hid (¬ (s.re = true ∧ σ.xs.length ≠ 0) → s.i = z) := fun h1 => by rw [← HZ, if_neg h1]
  clear hm hz HZ hcb he
  go_enter Tryd.func31, Tryd.ntmps31
  go_upto_region 1 with fail
  generalize (w.alloc (.cells (spA s) 32)) = W at *
  generalize (Value.agg (spA s)) = ga at *
  cases hre : s.re
  · rw [hre] at n3
    have HF := Hid.mk (HN.out (fun e => by rw [hre] at e; cases e.1))
    clear HI HN hre
    go_wp2_with fail
    go_ret
    exact ⟨by rw [← HF.out]; rfl, ba⟩
  · rw [hre] at n3
    by_cases h0 : σ.xs.length = 0
    · have HF := Hid.mk (HN.out (fun e => e.2 h0))
      clear HI HN hre
      rw [h0] at c1
      clear h0
      go_wp2_with fail
      go_ret
      exact ⟨by rw [← HF.out]; rfl, ba⟩
    · have HF := Hid.mk (HI.out hre h0)
      clear HI HN hre
      have hn0 : 0 < σ.xs.length := by omega
      obtain ⟨k, hk, hkl⟩ : ∃ k : Nat, Hid ((s.i % 18446744073709551616) % (σ.xs.length : Int) = k) ∧ k < σ.xs.length := by
        refine ⟨((s.i % 18446744073709551616) % (σ.xs.length : Int)).toNat, ?_, ?_⟩
        · show _ = _
          have := Int.emod_nonneg (s.i % 18446744073709551616) (b := (σ.xs.length : Int)) (by omega)
          omega
        · have := Int.emod_lt_of_pos (s.i % 18446744073709551616) (b := (σ.xs.length : Int)) (by omega)
          have := Int.emod_nonneg (s.i % 18446744073709551616) (b := (σ.xs.length : Int)) (by omega)
          omega
      obtain ⟨b, o, rfl, hc⟩ := he1 k hkl
      have d0 := hc.cells.1
      have HF2 : Hid ((ac σ.xs k).id = z) := by
        have := HF.out
        rw [hk.out] at this
        exact this
      generalize ac σ.xs k = x at *
      clear HF hc he1
      generalize σ.xs.length = n at *
      have hn1 : (n : Int) ≠ 0 := by omega
      have hkl' : (k : Int) < (n : Int) := by omega
      have u1 : IntKind.u64.wrap (n : Int) = (n : Int) := by rw [IntKind.wrap_u64]; omega
      have u2 : (IntKind.u64.wrap s.i).tmod (n : Int) = (k : Int) := by
        rw [IntKind.wrap_u64, Int.tmod_eq_emod_of_nonneg (Int.emod_nonneg _ (by decide))]
        exact hk.out
      go_upto_region 3 with fail
      have bd : Below W.heap.size W W.drew := below_drew W
      refine wp_region_held_drew (S := (fun w' : World => w'.cell? ⟨M, 1, none⟩ = some (.slice (some ⟨b, o, none⟩) n c) ∧ w'.cell? ⟨w.heap.size, 1, none⟩ = some (.int .i64 s.i) ∧ w'.cell? ⟨b, o + k * 16, none⟩ = some (.int .i64 x.id))) (by kernel_rfl) ⟨cell_on bd c1, cell_on bd n1, cell_on bd d0⟩ (fun hHeld => ?_)
      refine anyH_take (i := 0) (v := ?_) (some 18) rfl rfl (by kernel_rfl) (fun _ _ _ h => h) (Or.inl ⟨by rfl, ?_⟩) (by assumption) ?_
      rotate_left
      · (intro w hSw; obtain ⟨z0, z1, z2⟩ := hSw; go_simp; all_goals with_reducible rfl)
      try simp only [Act.put, List.setIfInBounds_toArray, List.set_cons_zero, List.set_cons_succ]
      refine anyH_take (i := 1) (v := ?_) (some 19) rfl rfl (by kernel_rfl) (fun _ _ _ h => h) (Or.inl ⟨by rfl, ?_⟩) (by assumption) ?_
      rotate_left
      · (intro w hSw; obtain ⟨z0, z1, z2⟩ := hSw; go_simp; all_goals with_reducible rfl)
      try simp only [Act.put, List.setIfInBounds_toArray, List.set_cons_zero, List.set_cons_succ]
      refine anyH_take (i := 2) (v := ?_) (some 20) rfl rfl (by kernel_rfl) (fun _ _ _ h => h) (Or.inl ⟨by rfl, ?_⟩) (by assumption) ?_
      rotate_left
      · (intro w hSw; obtain ⟨z0, z1, z2⟩ := hSw; go_simp; all_goals with_reducible rfl)
      try simp only [Act.put, List.setIfInBounds_toArray, List.set_cons_zero, List.set_cons_succ]
      refine anyH_take (i := 3) (v := ?_) (some 21) rfl rfl (by kernel_rfl) (fun _ _ _ h => h) (Or.inl ⟨by rfl, ?_⟩) (by assumption) ?_
      rotate_left
      · (intro w hSw; obtain ⟨z0, z1, z2⟩ := hSw; go_simp; all_goals with_reducible rfl)
      try simp only [Act.put, List.setIfInBounds_toArray, List.set_cons_zero, List.set_cons_succ]
      refine anyH_take (i := 4) (v := ?_) (some 22) rfl rfl (by kernel_rfl) (fun _ _ _ h => h) (Or.inl ⟨by rfl, ?_⟩) (by assumption) ?_
      rotate_left
      · (intro w hSw; obtain ⟨z0, z1, z2⟩ := hSw; go_simp; all_goals with_reducible rfl)
      try simp only [Act.put, List.setIfInBounds_toArray, List.set_cons_zero, List.set_cons_succ]
      refine anyH_take (i := 5) (v := ?_) (some 23) rfl rfl (by kernel_rfl) (fun _ _ _ h => h) (Or.inl ⟨by rfl, ?_⟩) (by assumption) ?_
      rotate_left
      · (intro w hSw; obtain ⟨z0, z1, z2⟩ := hSw; go_simp; all_goals with_reducible rfl)
      try simp only [Act.put, List.setIfInBounds_toArray, List.set_cons_zero, List.set_cons_succ]
      refine anyH_take (i := 6) (v := ?_) (some 24) rfl rfl (by kernel_rfl) (fun _ _ _ h => h) (Or.inl ⟨by rfl, ?_⟩) (by assumption) ?_
      rotate_left
      · (intro w hSw; obtain ⟨z0, z1, z2⟩ := hSw; go_simp; all_goals with_reducible rfl)
      try simp only [Act.put, List.setIfInBounds_toArray, List.set_cons_zero, List.set_cons_succ]
      refine anyH_take (i := 7) (v := ?_) (some 25) rfl rfl (by kernel_rfl) (fun _ _ _ h => h) (Or.inl ⟨by rfl, ?_⟩) (by assumption) ?_
      rotate_left
      · (intro w hSw; obtain ⟨z0, z1, z2⟩ := hSw; go_simp; all_goals with_reducible rfl)
      try simp only [Act.put, List.setIfInBounds_toArray, List.set_cons_zero, List.set_cons_succ]
      refine anyH_take (i := 8) (v := ?_) (some 26) rfl rfl (by kernel_rfl) (fun _ _ _ h => h) (Or.inl ⟨by rfl, ?_⟩) (by assumption) ?_
      rotate_left
      · (intro w hSw; obtain ⟨z0, z1, z2⟩ := hSw; go_simp; all_goals with_reducible rfl)
      try simp only [Act.put, List.setIfInBounds_toArray, List.set_cons_zero, List.set_cons_succ]
      refine anyH_take (i := 9) (v := ?_) (some 27) rfl rfl (by kernel_rfl) (fun _ _ _ h => h) (Or.inl ⟨by rfl, ?_⟩) (by assumption) ?_
      rotate_left
      · (intro w hSw; obtain ⟨z0, z1, z2⟩ := hSw; go_simp; all_goals with_reducible rfl)
      try simp only [Act.put, List.setIfInBounds_toArray, List.set_cons_zero, List.set_cons_succ]
      refine anyH_take (i := 10) (v := ?_) (some 28) rfl rfl (by kernel_rfl) (fun _ _ _ h => h) (Or.inl ⟨by rfl, ?_⟩) (by assumption) ?_
      rotate_left
      · (intro w hSw; obtain ⟨z0, z1, z2⟩ := hSw; go_simp; all_goals with_reducible rfl)
      try simp only [Act.put, List.setIfInBounds_toArray, List.set_cons_zero, List.set_cons_succ]
      refine anyH_take (i := 11) (v := ?_) (some 29) rfl rfl (by kernel_rfl) (fun _ _ _ h => h) (Or.inl ⟨by rfl, ?_⟩) (by assumption) ?_
      rotate_left
      · (intro w hSw; obtain ⟨z0, z1, z2⟩ := hSw; go_simp; all_goals with_reducible rfl)
      try simp only [Act.put, List.setIfInBounds_toArray, List.set_cons_zero, List.set_cons_succ]
      refine anyH_take (i := 12) (v := ?_) (some 30) rfl rfl (by kernel_rfl) (fun _ _ _ h => h) (Or.inl ⟨by rfl, ?_⟩) (by assumption) ?_
      rotate_left
      · (intro w hSw; obtain ⟨z0, z1, z2⟩ := hSw; go_simp; all_goals with_reducible rfl)
      try simp only [Act.put, List.setIfInBounds_toArray, List.set_cons_zero, List.set_cons_succ]
      refine anyH_take (i := 13) (v := ?_) (some 31) rfl rfl (by kernel_rfl) (fun _ _ _ h => h) (Or.inl ⟨by rfl, ?_⟩) (by assumption) ?_
      rotate_left
      · (intro w hSw; obtain ⟨z0, z1, z2⟩ := hSw; go_simp; all_goals with_reducible rfl)
      try simp only [Act.put, List.setIfInBounds_toArray, List.set_cons_zero, List.set_cons_succ]
      refine anyH_take (i := 14) (v := ?_) (some 32) rfl rfl (by kernel_rfl) (fun _ _ _ h => h) (Or.inl ⟨by rfl, ?_⟩) (by assumption) ?_
      rotate_left
      · (intro w hSw; obtain ⟨z0, z1, z2⟩ := hSw; go_simp; all_goals with_reducible rfl)
      try simp only [Act.put, List.setIfInBounds_toArray, List.set_cons_zero, List.set_cons_succ]
      refine anyH_take (i := 15) (v := ?_) (some 33) rfl rfl (by kernel_rfl) (fun _ _ _ h => h) (Or.inl ⟨by rfl, ?_⟩) (by assumption) ?_
      rotate_left
      · (intro w hSw; obtain ⟨z0, z1, z2⟩ := hSw; go_simp; all_goals with_reducible rfl)
      try simp only [Act.put, List.setIfInBounds_toArray, List.set_cons_zero, List.set_cons_succ]
      refine anyH_take (i := 16) (v := ?_) (some 34) rfl rfl (by kernel_rfl) (fun _ _ _ h => h) (Or.inl ⟨by rfl, ?_⟩) (by assumption) ?_
      rotate_left
      · (intro w hSw; obtain ⟨z0, z1, z2⟩ := hSw; go_simp; all_goals with_reducible rfl)
      try simp only [Act.put, List.setIfInBounds_toArray, List.set_cons_zero, List.set_cons_succ]
      refine anyH_take (i := 17) (v := ?_) (some 4) rfl rfl (by kernel_rfl) (fun _ _ _ h => h) (Or.inl ⟨by rfl, ?_⟩) (by assumption) ?_
      rotate_left
      · (intro w hSw; obtain ⟨z0, z1, z2⟩ := hSw; go_simp; all_goals with_reducible rfl)
      try simp only [Act.put, List.setIfInBounds_toArray, List.set_cons_zero, List.set_cons_succ]
      refine wpAnyH_done (by kernel_rfl) ?_ _
      go_wp2_with fail
      go_ret
      exact ⟨by rw [← HF2.out]; rfl, ba.trans (bd.mono ba.size)⟩
end
end Go.Proofs.YtjgclehghnmhnaaDoor
