/- The table of kinds in memory; which kinds, numbers, contexts and events may be. -/
import Derived.Test.YtcffmdimfmpheaaDoorEEq
namespace Go.Proofs.YtcffmdimfmpheaaDoor
open Go Go.RowKit

/-- What the table has of a kind: its name; the least and the most of its activation, thread and value; has it a context? -/
def nmK (k : Nat) : List UInt8 := [[], [103, 114, 97, 110, 116], [112, 114, 101, 101, 109, 112, 116, 101, 100], [98, 108, 111, 99, 107, 101, 100], [117, 110, 98, 108, 111, 99, 107, 101, 100], [100, 101, 109, 97, 110, 100], [105, 100, 108, 101], [114, 101, 99, 121, 99, 108, 101]].getD k []
def aLo (k : Nat) : Int := [0, 1, 1, 1, 1, 0, 1, 1].getD k 0
def aHi (k : Nat) : Int := [0, 1099511627776, 1099511627776, 1099511627776, 1099511627776, 0, 1099511627776, 1099511627776].getD k 0
def tLo (k : Nat) : Int := [0, 0, 1, 1, 1, 0, 0, 0].getD k 0
def tHi (k : Nat) : Int := [0, 0, 1099511627776, 1099511627776, 1099511627776, 0, 0, 0].getD k 0
def vHi (k : Nat) : Int := [0, 0, 0, 0, 1000, 1000, 0, 0].getD k 0
def cxK (k : Nat) : Bool := [false, false, true, false, false, false, false, false].getD k false
def rowK (k : Nat) : List Value := [.string ⟨(nmK k).toArray⟩, .int .i64 (aLo k), .int .i64 (aHi k), .int .i64 (tLo k), .int .i64 (tHi k), .int .i64 0, .int .i64 (vHi k), .bool (cxK k)]
/-- The table lies in memory. -/
structure Tab (w : World) : Prop where
  lt : 0 < w.heap.size
  row : ∀ k, k < 8 → w.rangeAt 0 (k * 8) (rowK k)
theorem Tab.put {w w' : World} (h : Tab w) (e : w'.heap[0]? = w.heap[0]?) : Tab w' := by
  have e' : ∀ o, w'.cell? ⟨0, o, none⟩ = w.cell? ⟨0, o, none⟩ := fun o => World.cell?_of_block e
  refine ⟨?_, fun k hk j v hv => (e' _).trans (h.row k hk j v hv)⟩
  have hl := h.lt
  apply Nat.lt_of_not_le
  intro hle
  rw [Array.getElem?_eq_none hle, Array.getElem?_eq_getElem hl] at e
  cases e
theorem Tab.below {w w' : World} {n : Nat} (h : Tab w) (hb : Below n w w') (hn : 0 < n) : Tab w' := h.put (hb.block 0 hn)
theorem Tab.on {w w' : World} (h : Tab w) (hb : Below w.heap.size w w') : Tab w' := h.below hb h.lt
theorem Tab.but {S : List Nat} {w w' : World} (h : Tab w) (hb : But S w w') (hS : 0 ∉ S) : Tab w' := h.put (hb.block 0 h.lt hS)
theorem Tab.alloc {w : World} (h : Tab w) (o : Obj) : Tab (w.alloc o) := h.on ((Below.refl _ w).alloc (Nat.le_refl _) o)

theorem iskind_any (k : Int) (w : World) : Calls Tryd.prog 58 #[.int .i64 k] w fun e w' => e = .returned (.bool (kindB k)) ∧ w' = w := by
  unfold kindB
  by_cases h1 : 1 ≤ k
  · by_cases h2 : k ≤ 7
    · simp only [h1, h2, decide_true, Bool.and_self]
      go_enter Tryd.func58, Tryd.ntmps58
      go_wp2_with fail
      go_ret
      exact ⟨rfl, rfl⟩
    · simp only [h1, h2, decide_true, decide_false, Bool.and_false]
      go_enter Tryd.func58, Tryd.ntmps58
      go_wp2_with fail
      go_ret
      exact ⟨rfl, rfl⟩
  · simp only [h1, decide_false, Bool.false_and]
    go_enter Tryd.func58, Tryd.ntmps58
    go_wp2_with fail
    go_ret
    exact ⟨rfl, rfl⟩
theorem holds_any (l m n : Int) (w : World) : Calls Tryd.prog 59 #[.agg #[.int .i64 l, .int .i64 m], .int .i64 n] w fun e w' => e = .returned (.bool (inB l m n)) ∧ w' = w.alloc (.cells #[.int .i64 l, .int .i64 m] 83) := by
  unfold inB
  by_cases h1 : l ≤ n
  · by_cases h2 : n ≤ m
    · simp only [h1, h2, decide_true, Bool.and_self]
      go_enter Tryd.func59, Tryd.ntmps59
      go_wp2_with fail
      go_ret
      exact ⟨rfl, rfl⟩
    · simp only [h1, h2, decide_true, decide_false, Bool.and_false]
      go_enter Tryd.func59, Tryd.ntmps59
      go_wp2_with fail
      go_ret
      exact ⟨rfl, rfl⟩
  · simp only [h1, decide_false, Bool.false_and]
    go_enter Tryd.func59, Tryd.ntmps59
    go_wp2_with fail
    go_ret
    exact ⟨rfl, rfl⟩
theorem bel_al {w W : World} (h : Below w.heap.size w W) (o : Obj) : Below w.heap.size w (W.alloc o) := h.alloc h.size o
def ctxB (pg pc dp : Int) : Bool := inB 0 7 pg && (inB 0 64 pc && inB 0 8 dp)
set_option maxHeartbeats 1000000 in
theorem gctx_any (e : Ev) (w : World) : Calls Tryd.prog 60 #[.agg (cxV e)] w fun r w' => r = .returned (.bool (ctxB e.pg e.pc e.dp)) ∧ Below w.heap.size w w' := by
  unfold ctxB cxV
  have H1 := holds_any 0 7 e.pg
  have H2 := holds_any 0 64 e.pc
  have H3 := holds_any 0 8 e.dp
  generalize inB 0 7 e.pg = x at H1 ⊢
  generalize inB 0 64 e.pc = y at H2 ⊢
  generalize inB 0 8 e.dp = z at H3 ⊢
  cases x with
  | false =>
    simp only [Bool.false_and]
    clear H2 H3
    go_enter Tryd.func60, Tryd.ntmps60
    go_wp2_with (go_at_call 59; first | ((with_reducible refine (H1 _).mono ?_); rintro e w' ⟨rfl, rfl⟩))
    go_ret
    exact ⟨rfl, by repeat (first | exact Below.refl _ _ | refine bel_al ?_ _)⟩
  | true =>
    cases y with
    | false =>
      simp only [Bool.true_and, Bool.false_and]
      clear H3
      go_enter Tryd.func60, Tryd.ntmps60
      go_wp2_with (go_at_call 59; first | ((with_reducible refine (H1 _).mono ?_); rintro e w' ⟨rfl, rfl⟩) | ((with_reducible refine (H2 _).mono ?_); rintro e w' ⟨rfl, rfl⟩))
      go_ret
      exact ⟨rfl, by repeat (first | exact Below.refl _ _ | refine bel_al ?_ _)⟩
    | true =>
      cases z with
      | false =>
        simp only [Bool.true_and]
        go_enter Tryd.func60, Tryd.ntmps60
        go_wp2_with (go_at_call 59; first | ((with_reducible refine (H1 _).mono ?_); rintro e w' ⟨rfl, rfl⟩) | ((with_reducible refine (H2 _).mono ?_); rintro e w' ⟨rfl, rfl⟩) | ((with_reducible refine (H3 _).mono ?_); rintro e w' ⟨rfl, rfl⟩))
        go_ret
        exact ⟨rfl, by repeat (first | exact Below.refl _ _ | refine bel_al ?_ _)⟩
      | true =>
        simp only [Bool.true_and]
        go_enter Tryd.func60, Tryd.ntmps60
        go_wp2_with (go_at_call 59; first | ((with_reducible refine (H1 _).mono ?_); rintro e w' ⟨rfl, rfl⟩) | ((with_reducible refine (H2 _).mono ?_); rintro e w' ⟨rfl, rfl⟩) | ((with_reducible refine (H3 _).mono ?_); rintro e w' ⟨rfl, rfl⟩))
        go_ret
        exact ⟨rfl, by repeat (first | exact Below.refl _ _ | refine bel_al ?_ _)⟩

/-- What Good asks, by the table's row. -/
def rowB (k : Nat) (e : Ev) : Bool := inB (aLo k) (aHi k) e.ac && (inB (tLo k) (tHi k) e.th && (inB 0 (vHi k) e.va && (if cxK k then ctxB e.pg e.pc e.dp else decide (cxI e = zC))))
theorem row_good {k : Nat} {e : Ev} (h1 : 1 ≤ k) (h7 : k ≤ 7) (he : e.kd = (k : Int)) : goodE e = rowB k e := by
  unfold goodE actB thB vaB cxB kindB thrB valB rowB ctxB
  rw [he]
  rcases (show k = 1 ∨ k = 2 ∨ k = 3 ∨ k = 4 ∨ k = 5 ∨ k = 6 ∨ k = 7 by omega) with rfl | rfl | rfl | rfl | rfl | rfl | rfl <;> simp [aLo, aHi, tLo, tHi, vHi, cxK]
theorem good_kind {e : Ev} (h : kindB e.kd = false) : goodE e = false := by
  unfold goodE
  rw [h]
  rfl
theorem kind_nat {k : Int} (h : kindB k = true) : ∃ n : Nat, k = (n : Int) ∧ 1 ≤ n ∧ n ≤ 7 := by
  unfold kindB at h
  simp at h
  exact ⟨k.toNat, by omega, by omega, by omega⟩
end Go.Proofs.YtcffmdimfmpheaaDoor
