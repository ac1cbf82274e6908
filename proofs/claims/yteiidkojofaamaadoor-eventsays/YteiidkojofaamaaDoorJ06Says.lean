/- Contexts and events that are held against one another. -/
/- The table of kinds in memory; which kinds, numbers, contexts and events may be. -/
import Derived.Test.YteiidkojofaamaaDoorJ05Says
import Derived.ChangeKeysEq
namespace Go.Proofs.YteiidkojofaamaaDoor
open Go Go.RowKit

theorem infoInt : ∃ i, Tryd.prog.info? 3 = some i := by
  have h : (Tryd.prog.info? 3).isSome = true := by kernel_rfl
  exact Option.isSome_iff_exists.1 h
theorem cellsInt : Tryd.prog.cellsOf 3 = 1 := by kernel_rfl
theorem ite_ok {p : Prop} [Decidable p] {W : World} (x : Bool) : (if p then Result.ok x W else Result.ok false W) = Result.ok (decide p && x) W := by
  by_cases h : p <;> simp [h]
theorem ite_no {W : World} (b x : Bool) : (if b = false then Result.ok false W else Result.ok x W) = Result.ok (b && x) W := by
  cases b <;> simp
section
set_option maxRecDepth 100000
set_option maxHeartbeats 1000000
theorem eq8 (W : World) (d : Nat) (hd : d = 9998 ∨ d = 9997) (r0 r1 r2 r3 r4 r5 r6 r7 s0 s1 s2 s3 s4 s5 s6 s7 : Int) : (Op.equalIn (d + 1) 22 (.agg #[.int .i64 r0, .int .i64 r1, .int .i64 r2, .int .i64 r3, .int .i64 r4, .int .i64 r5, .int .i64 r6, .int .i64 r7]) (.agg #[.int .i64 s0, .int .i64 s1, .int .i64 s2, .int .i64 s3, .int .i64 s4, .int .i64 s5, .int .i64 s6, .int .i64 s7])).run Tryd.prog W = .ok (decide ([r0, r1, r2, r3, r4, r5, r6, r7] = [s0, s1, s2, s3, s4, s5, s6, s7])) W := by
  obtain ⟨i, hi⟩ := infoInt
  have u3 := Tryd.underlying3
  have a3 := Tryd.isAgg3
  have z3 := Tryd.sizeOf3
  rw [run_equalIn_array W d _ _ Tryd.underlying22 hi, cellsInt, show List.range 8 = [0, 1, 2, 3, 4, 5, 6, 7] from rfl]
  rcases hd with rfl | rfl
  · simp only [Op.eqItems]
    go_simp
    simp only [ite_ok, Bool.and_true]
  · simp only [Op.eqItems]
    go_simp
    simp only [ite_ok, Bool.and_true]
/-- The cells of an event's context. -/
def cxV (e : Ev) : Array Value := #[.int .i64 e.pg, .int .i64 e.pc, .int .i64 (e.rs 0), .int .i64 (e.rs 1), .int .i64 (e.rs 2), .int .i64 (e.rs 3), .int .i64 (e.rs 4), .int .i64 (e.rs 5), .int .i64 (e.rs 6), .int .i64 (e.rs 7), .int .i64 e.dp]
theorem eqCx_at (W : World) (d : Nat) (hd : d = 9999 ∨ d = 9998) (a b : Ev) : (Op.equalIn (d + 1) 24 (.agg (cxV a)) (.agg (cxV b))).run Tryd.prog W = .ok (decide (cxI a = cxI b)) W := by
  have u3 := Tryd.underlying3
  have a3 := Tryd.isAgg3
  have z3 := Tryd.sizeOf3
  have hS : Tryd.prog.underlying 24 = some (.struct (Tryd.prog.fieldsOf 24)) := by kernel_rfl
  have hp : Tryd.prog.stoodInHeld 24 = false := by kernel_rfl
  unfold cxV cxI
  rw [run_equalIn_agg W d 24 _ _ hS hp]
  simp only [Program.fieldsOf, Tryd.underlying24]
  rcases hd with rfl | rfl
  · have h8 := eq8 W 9998 (.inl rfl) (a.rs 0) (a.rs 1) (a.rs 2) (a.rs 3) (a.rs 4) (a.rs 5) (a.rs 6) (a.rs 7) (b.rs 0) (b.rs 1) (b.rs 2) (b.rs 3) (b.rs 4) (b.rs 5) (b.rs 6) (b.rs 7)
    go_simp
    simp only [ite_ok, ite_no, Bool.and_true, Bool.and_assoc]
  · have h8 := eq8 W 9997 (.inr rfl) (a.rs 0) (a.rs 1) (a.rs 2) (a.rs 3) (a.rs 4) (a.rs 5) (a.rs 6) (a.rs 7) (b.rs 0) (b.rs 1) (b.rs 2) (b.rs 3) (b.rs 4) (b.rs 5) (b.rs 6) (b.rs 7)
    go_simp
    simp only [ite_ok, ite_no, Bool.and_true, Bool.and_assoc]
theorem eqEv_at (W : World) (a b : Ev) : (Op.equalIn 10000 26 (.agg (evA a)) (.agg (evA b))).run Tryd.prog W = .ok (eqE a b) W := by
  have u3 := Tryd.underlying3
  have a3 := Tryd.isAgg3
  have z3 := Tryd.sizeOf3
  have hS : Tryd.prog.underlying 26 = some (.struct (Tryd.prog.fieldsOf 26)) := by kernel_rfl
  have hp : Tryd.prog.stoodInHeld 26 = false := by kernel_rfl
  have h8 := eq8 W 9997 (.inr rfl) (a.rs 0) (a.rs 1) (a.rs 2) (a.rs 3) (a.rs 4) (a.rs 5) (a.rs 6) (a.rs 7) (b.rs 0) (b.rs 1) (b.rs 2) (b.rs 3) (b.rs 4) (b.rs 5) (b.rs 6) (b.rs 7)
  unfold evA eqE evI
  rw [show (10000 : Nat) = 9999 + 1 from rfl, run_equalIn_agg W 9999 26 _ _ hS hp]
  simp only [Program.fieldsOf, Tryd.underlying26]
  go_simp
  simp only [ite_ok, ite_no, Bool.and_true, Bool.and_assoc]
theorem eqEv (a b : Ev) (W : World) : (binOp .eql 26 (.agg (evA a)) (.agg (evA b))).run Tryd.prog W = .ok (.bool (eqE a b)) W := by
  have key := eqEv_at W a b
  unfold evA at key ⊢
  rw [run_eql_struct, key]
  rfl
theorem neEv (a b : Ev) (W : World) : (binOp .neq 26 (.agg (evA a)) (.agg (evA b))).run Tryd.prog W = .ok (.bool (!eqE a b)) W := by
  have key := eqEv_at W a b
  unfold evA at key ⊢
  simp only [binOp, Op.equal, Op.maxDepth, Sem.run_bind, key, Result.andThen_ok, Sem.run_pure]
theorem eqCx (a b : Ev) (W : World) : (binOp .eql 24 (.agg (cxV a)) (.agg (cxV b))).run Tryd.prog W = .ok (.bool (decide (cxI a = cxI b))) W := by
  have key := eqCx_at W 9999 (.inl rfl) a b
  unfold cxV at key ⊢
  rw [run_eql_struct, show (10000 : Nat) = 9999 + 1 from rfl, key]
  rfl
end
end Go.Proofs.YteiidkojofaamaaDoor
namespace Go.Proofs.YteiidkojofaamaaDoor
open Go Go.RowKit

/-- What the table has of a kind: its name; the least and the most of its activation, thread and value; has it a context? -/
def nmK (k : Nat) : List UInt8 := [[], [103, 114, 97, 110, 116], [112, 114, 101, 101, 109, 112, 116, 101, 100], [98, 108, 111, 99, 107, 101, 100], [117, 110, 98, 108, 111, 99, 107, 101, 100], [100, 101, 109, 97, 110, 100], [105, 100, 108, 101], [114, 101, 99, 121, 99, 108, 101]].getD k []
def aLo (k : Nat) : Int := [0, 1, 1, 1, 1, 0, 1, 1].getD k 0
def aHi (k : Nat) : Int := [0, 1099511627776, 1099511627776, 1099511627776, 1099511627776, 0, 1099511627776, 1099511627776].getD k 0
def tLo (k : Nat) : Int := [0, 0, 1, 1, 1, 0, 0, 0].getD k 0
def tHi (k : Nat) : Int := [0, 0, 1099511627776, 1099511627776, 1099511627776, 0, 0, 0].getD k 0
def vHi (k : Nat) : Int := [0, 0, 0, 0, 1000, 1000, 0, 0].getD k 0
def cxK (k : Nat) : Bool := [false, false, true, false, false, false, false, false].getD k false
def rowK (k : Nat) : List Value := [.string ⟨(nmK k).toArray⟩, .int .i64 (aLo k), .int .i64 (aHi k), .int .i64 (tLo k), .int .i64 (tHi k), .int .i64 0, .int .i64 (vHi k), .bool (cxK k)]
/-- The table lies in memory. -/
structure Tab (w : World) : Prop where
  lt : 0 < w.heap.size
  row : ∀ k, k < 8 → w.rangeAt 0 (k * 8) (rowK k)
theorem Tab.put {w w' : World} (h : Tab w) (e : w'.heap[0]? = w.heap[0]?) : Tab w' := by
  have e' : ∀ o, w'.cell? ⟨0, o, none⟩ = w.cell? ⟨0, o, none⟩ := fun o => World.cell?_of_block e
  refine ⟨?_, fun k hk j v hv => (e' _).trans (h.row k hk j v hv)⟩
  have hl := h.lt
  apply Nat.lt_of_not_le
  intro hle
  rw [Array.getElem?_eq_none hle, Array.getElem?_eq_getElem hl] at e
  cases e
theorem Tab.below {w w' : World} {n : Nat} (h : Tab w) (hb : Below n w w') (hn : 0 < n) : Tab w' := h.put (hb.block 0 hn)
theorem Tab.on {w w' : World} (h : Tab w) (hb : Below w.heap.size w w') : Tab w' := h.below hb h.lt
theorem Tab.but {S : List Nat} {w w' : World} (h : Tab w) (hb : But S w w') (hS : 0 ∉ S) : Tab w' := h.put (hb.block 0 h.lt hS)
theorem Tab.alloc {w : World} (h : Tab w) (o : Obj) : Tab (w.alloc o) := h.on ((Below.refl _ w).alloc (Nat.le_refl _) o)

theorem iskind_any (k : Int) (w : World) : Calls Tryd.prog 28 #[.int .i64 k] w fun e w' => e = .returned (.bool (kindB k)) ∧ w' = w := by
  unfold kindB
  by_cases h1 : 1 ≤ k
  · by_cases h2 : k ≤ 7
    · simp only [h1, h2, decide_true, Bool.and_self]
      go_enter Tryd.func28, Tryd.ntmps28
      go_wp2_with fail
      go_ret
      exact ⟨rfl, rfl⟩
    · simp only [h1, h2, decide_true, decide_false, Bool.and_false]
      go_enter Tryd.func28, Tryd.ntmps28
      go_wp2_with fail
      go_ret
      exact ⟨rfl, rfl⟩
  · simp only [h1, decide_false, Bool.false_and]
    go_enter Tryd.func28, Tryd.ntmps28
    go_wp2_with fail
    go_ret
    exact ⟨rfl, rfl⟩
theorem holds_any (l m n : Int) (w : World) : Calls Tryd.prog 29 #[.agg #[.int .i64 l, .int .i64 m], .int .i64 n] w fun e w' => e = .returned (.bool (inB l m n)) ∧ w' = w.alloc (.cells #[.int .i64 l, .int .i64 m] 53) := by
  unfold inB
  by_cases h1 : l ≤ n
  · by_cases h2 : n ≤ m
    · simp only [h1, h2, decide_true, Bool.and_self]
      go_enter Tryd.func29, Tryd.ntmps29
      go_wp2_with fail
      go_ret
      exact ⟨rfl, rfl⟩
    · simp only [h1, h2, decide_true, decide_false, Bool.and_false]
      go_enter Tryd.func29, Tryd.ntmps29
      go_wp2_with fail
      go_ret
      exact ⟨rfl, rfl⟩
  · simp only [h1, decide_false, Bool.false_and]
    go_enter Tryd.func29, Tryd.ntmps29
    go_wp2_with fail
    go_ret
    exact ⟨rfl, rfl⟩
theorem bel_al {w W : World} (h : Below w.heap.size w W) (o : Obj) : Below w.heap.size w (W.alloc o) := h.alloc h.size o
def ctxB (pg pc dp : Int) : Bool := inB 0 7 pg && (inB 0 64 pc && inB 0 8 dp)
set_option maxHeartbeats 1000000 in
theorem gctx_any (e : Ev) (w : World) : Calls Tryd.prog 30 #[.agg (cxV e)] w fun r w' => r = .returned (.bool (ctxB e.pg e.pc e.dp)) ∧ Below w.heap.size w w' := by
  unfold ctxB cxV
  have H1 := holds_any 0 7 e.pg
  have H2 := holds_any 0 64 e.pc
  have H3 := holds_any 0 8 e.dp
  generalize inB 0 7 e.pg = x at H1 ⊢
  generalize inB 0 64 e.pc = y at H2 ⊢
  generalize inB 0 8 e.dp = z at H3 ⊢
  cases x with
  | false =>
    simp only [Bool.false_and]
    clear H2 H3
    go_enter Tryd.func30, Tryd.ntmps30
    go_wp2_with (go_at_call 29; first | ((with_reducible refine (H1 _).mono ?_); rintro e w' ⟨rfl, rfl⟩))
    go_ret
    exact ⟨rfl, by repeat (first | exact Below.refl _ _ | refine bel_al ?_ _)⟩
  | true =>
    cases y with
    | false =>
      simp only [Bool.true_and, Bool.false_and]
      clear H3
      go_enter Tryd.func30, Tryd.ntmps30
      go_wp2_with (go_at_call 29; first | ((with_reducible refine (H1 _).mono ?_); rintro e w' ⟨rfl, rfl⟩) | ((with_reducible refine (H2 _).mono ?_); rintro e w' ⟨rfl, rfl⟩))
      go_ret
      exact ⟨rfl, by repeat (first | exact Below.refl _ _ | refine bel_al ?_ _)⟩
    | true =>
      cases z with
      | false =>
        simp only [Bool.true_and]
        go_enter Tryd.func30, Tryd.ntmps30
        go_wp2_with (go_at_call 29; first | ((with_reducible refine (H1 _).mono ?_); rintro e w' ⟨rfl, rfl⟩) | ((with_reducible refine (H2 _).mono ?_); rintro e w' ⟨rfl, rfl⟩) | ((with_reducible refine (H3 _).mono ?_); rintro e w' ⟨rfl, rfl⟩))
        go_ret
        exact ⟨rfl, by repeat (first | exact Below.refl _ _ | refine bel_al ?_ _)⟩
      | true =>
        simp only [Bool.true_and]
        go_enter Tryd.func30, Tryd.ntmps30
        go_wp2_with (go_at_call 29; first | ((with_reducible refine (H1 _).mono ?_); rintro e w' ⟨rfl, rfl⟩) | ((with_reducible refine (H2 _).mono ?_); rintro e w' ⟨rfl, rfl⟩) | ((with_reducible refine (H3 _).mono ?_); rintro e w' ⟨rfl, rfl⟩))
        go_ret
        exact ⟨rfl, by repeat (first | exact Below.refl _ _ | refine bel_al ?_ _)⟩

/-- What Good asks, by the table's row. -/
def rowB (k : Nat) (e : Ev) : Bool := inB (aLo k) (aHi k) e.ac && (inB (tLo k) (tHi k) e.th && (inB 0 (vHi k) e.va && (if cxK k then ctxB e.pg e.pc e.dp else decide (cxI e = zC))))
theorem row_good {k : Nat} {e : Ev} (h1 : 1 ≤ k) (h7 : k ≤ 7) (he : e.kd = (k : Int)) : goodE e = rowB k e := by
  unfold goodE actB thB vaB cxB kindB thrB valB rowB ctxB
  rw [he]
  rcases (show k = 1 ∨ k = 2 ∨ k = 3 ∨ k = 4 ∨ k = 5 ∨ k = 6 ∨ k = 7 by omega) with rfl | rfl | rfl | rfl | rfl | rfl | rfl <;> simp [aLo, aHi, tLo, tHi, vHi, cxK]
theorem good_kind {e : Ev} (h : kindB e.kd = false) : goodE e = false := by
  unfold goodE
  rw [h]
  rfl
theorem kind_nat {k : Int} (h : kindB k = true) : ∃ n : Nat, k = (n : Int) ∧ 1 ≤ n ∧ n ≤ 7 := by
  unfold kindB at h
  simp at h
  exact ⟨k.toNat, by omega, by omega, by omega⟩
end Go.Proofs.YteiidkojofaamaaDoor
