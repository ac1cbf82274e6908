/- The iterator of All: its contract for every loop body that keeps the rows that it does not own. -/
import Derived.RangeFuncNested
import Derived.RangeFuncBound
import Derived.RangeFuncCalls
import Derived.RangeFuncLeaves
import Derived.Shelf.Abstract
import Derived.Shelf.RegionOpen
import Derived.WalkKit
import Derived.OwnWalkIn
import Derived.TacticsInMore
import Derived.LoopNIn
import Derived.LoopIn
import Derived.Test.YtfobfkidpdlkeaaCopy
namespace Go.Proofs.Ytfobfkidpdlkeaa
open Go.RowKit Go.Shelf
attribute [local go_sem] Oper.semAt_some

theorem cell_on {w w' : World} (hb : Below w.heap.size w w') {p : Addr} {v : Value} (h : w.cell? p = some v) : w'.cell? p = some v :=
  (hb.cell (World.block_lt_of_cell? w p h)).trans h

/-- What going over v begins with: how many, and which. -/
structure Src (w : World) (v : Value) (q : List Int) : Prop where
  len : ∀ W, Below w.heap.size w W → Calls Try.prog 11 #[v] W fun e w' => e = .returned (.int .i64 q.length) ∧ w' = W
  copy : ∀ W T, Below w.heap.size w W → w.heap.size ≤ T → RowAt W T (List.replicate q.length 0) → Calls Try.prog 34 #[v, .slice (some ⟨T, 0, none⟩) q.length q.length] W fun e w' => (∃ r, e = .returned r) ∧ RowAt w' T q ∧ But [T] W w'
  le : q.length ≤ 4096

theorem RQ.src {w : World} {B G n : Nat} {q : List Int} (h : RQ w B G n q) : Src w (.pointer (some ⟨B, 0, none⟩)) q := by
  obtain ⟨l1, l2, l3⟩ := h.le
  obtain ⟨b1, b2, b3⟩ := h.lt
  refine ⟨fun W hW => len_q (h.below hW), fun W T hW hT hr => ?_, by omega⟩
  have hW' := h.below hW
  by_cases hq : 0 < q.length
  · refine (copy_to hW' hq T q.length q.length _ hr (Nat.le_refl _) (by simp) (Nat.le_refl _) (by omega) (by omega) (by omega)).mono ?_
    rintro e w' ⟨hr, hrow, hb⟩
    refine ⟨hr, ?_, hb⟩
    simpa using hrow
  · obtain rfl : q = [] := List.eq_nil_of_length_eq_zero (by omega)
    refine (copy_nothing hW' _).mono ?_
    rintro e w' ⟨hr', rfl⟩
    exact ⟨hr', hr, But.refl _ _⟩

/-- The row that box X holds lies in block b, or ahead of it. -/
def Owned (A : World) (X b : Nat) : Prop := ∃ v g, Boxed A X 32 v ∧ v.ownBlock = some g ∧ g ≤ b
/-- No cells turn but box X, and blocks from the row on that it holds. -/
def Kq (X : Nat) (A B : World) : Prop := ∀ b o, b ≠ X → ¬ Owned A X b → A.heap[b]? = some o → o.isCells = true → B.heap[b]? = some o ∧ ¬ Owned B X b

theorem kq_t {X : Nat} {A B C : World} (h : Kq X A B) (k : Kq X B C) : Kq X A C := fun b o h1 h2 h3 h4 =>
  have h' := h b o h1 h2 h3 h4
  k b o h1 h'.2 h'.1 h4
theorem kq_b {X : Nat} {w : World} (hX : X < w.heap.size) (W : World) (l : Nat) (o o' : Obj) (hl : w.heap.size ≤ l) (h : W.heap[l]? = some o) (hc : o.isCells = false) (_ : o.isWalk = false) : Kq X W (W.putObj l o') := by
  intro b p h1 h2 h3 h4
  have hbl : b ≠ l := by rintro rfl; rw [h] at h3; cases h3; rw [hc] at h4; cases h4
  refine ⟨(World.putObj_heap_other hbl).trans h3, ?_⟩
  rintro ⟨v, g, hv, hb, hg⟩
  exact h2 ⟨v, g, (World.putObj_heap_other (by omega)).symm.trans hv, hb, hg⟩

set_option maxRecDepth 100000 in
set_option maxHeartbeats 1000000 in
theorem all1_in (n : Nat) (hn : 1 ≤ n) (l Bn X : Nat) (v : Value) (q : List Int) (w : World) (hs : Src w v q) (hc : w.cell? ⟨Bn, 0, none⟩ = some v) (hX : X < w.heap.size) (hO : ∀ b, ¬ Owned w X b) (J Jx : List Int → World → Prop) (W : World) (hW : Below w.heap.size w W)
    (aJ : AbidesFrom W.heap.size J)
    (hY : ∀ pre x W, J pre W → pre.length < q.length → YieldAt Fence.wide (n - 1) Try.prog l #[.int .i64 x] W fun e W' =>
      (e = .returned (.bool true) ∧ J (pre ++ [x]) W' ∧ Kq X W W') ∨ (e = .returned (.bool false) ∧ Jx (pre ++ [x]) W'))
    (h0 : J [] W) :
    CallsIn Fence.wide n Try.prog 36 #[.func (.yield l) #[] #[], .pointer (some ⟨Bn, 0, none⟩)] W fun e W' => (∃ v, e = .returned v) ∧
      ((∃ ys, ys = q ∧ J ys W') ∨ (∃ pre, pre <+: q ∧ Jx pre W')) := by
  have hmk := mk_int q.length hs.le
  have hle := hs.le
  have c0 := cell_on hW hc
  have e0 : madeCells #[.int .i64 0] q.length = ((List.replicate q.length (0 : Int)).map (Value.int .i64)).toArray := by
    apply Array.ext'
    rw [toList_madeCells_one]
    simp
  have hB1 : Below w.heap.size w (W.alloc (.cells (madeCells #[.int .i64 0] q.length) 3)) := hW.alloc hW.size _
  have c1 := cell_on hB1 hc
  have hR0 : RowAt (W.alloc (.cells (madeCells #[.int .i64 0] q.length) 3)) W.heap.size (List.replicate q.length 0) := by
    unfold RowAt
    rw [heap_alloc_new, e0]
  have L := hs.len W hW
  have CP := hs.copy _ W.heap.size hB1 hW.size hR0
  clear e0
  refine callsIn_of_wp Try.func36 rfl trivial ?_ rfl
  simp only [Try.ntmps36, List.size_toArray, List.length_cons, List.length_nil, Nat.reduceAdd, Nat.reduceSub, Array.replicate_succ, Array.replicate_zero, List.push_toArray, List.append_toArray, List.nil_append, List.cons_append]
  gi_wp2_with (first
    | (refine ⟨trivial, ?_⟩; gi_at_call 11; refine (callsIn_wide.2 L).mono ?_; rintro e w' ⟨rfl, hw⟩; subst w')
    | (refine ⟨trivial, ?_⟩; gi_at_call 34; refine (callsIn_wide.2 CP).mono ?_; rintro e w2 ⟨⟨r, rfl⟩, hr2, hb2⟩))
  have hJ2 : J [] w2 := by
    refine aJ [] W w2 none h0 ⟨hb2.os, hb2.tape, hb2.output, ?_, fun k hk _ => ?_⟩ (fun r e => by cases e)
    · have := hb2.size
      simp at this
      omega
    · rw [hb2.block k (by simp; omega) (by simp; omega), Below.heap_alloc _ _ _ hk]
  have hO2 : ¬ Owned w2 X W.heap.size := by
    rintro ⟨u, g, hu, he, hg⟩
    have hs2 := hW.size
    refine hO W.heap.size ⟨u, g, ?_, he, hg⟩
    have e1 := hb2.block X (by simp; omega) (by simp; omega)
    rw [Below.heap_alloc _ _ _ (by omega)] at e1
    exact ((e1.trans (hW.block X hX)).symm.trans hu)
  have hlt : W.heap.size ≠ X := by have := hW.size; omega
  clear L CP hR0 c0 c1 hmk hs hB1 hO hc h0 aJ hb2
  generalize W.heap.size = T at hr2 hO2 hlt ⊢
  gi_loopw [14] (fun p wr => ∃ j : Nat, j ≤ q.length ∧ p = .int .i64 j ∧ J (q.take j) wr ∧ RowAt wr T q ∧ ¬ Owned wr X T) (fun p _ => 4096 - (intOf p).toNat)
  case atStart => exact ⟨0, by omega, rfl, hJ2, hr2, hO2⟩
  case round =>
    obtain ⟨j, hj, rfl, hJ, hr, ho⟩ := hrel
    by_cases hjq : j < q.length
    · have hx : q[j]? = some q[j] := by simp
      have ht : q.take j ++ [q[j]] = q.take (j + 1) := by rw [List.take_add_one, hx]; rfl
      have hcx : wr.cell? ⟨T, j, none⟩ = some (.int .i64 q[j]) := by
        have hr' : wr.heap[T]? = _ := hr
        simp [World.cell?, hr', hx]
      obtain ⟨fn, tmps, assign, body, hy, hR⟩ := hY (q.take j) q[j] _ hJ (by rw [List.length_take]; omega)
      rw [ht] at hR
      generalize q[j] = x at hcx hy hR
      clear hx ht
      have h3 : (j : Int) < (q.length : Int) := by omega
      gi_wp2
      refine hR.mono ?_
      rintro e W3 (⟨rfl, hJ3, hk3⟩ | ⟨rfl, hJx3⟩)
      · obtain ⟨hr3, ho3⟩ := hk3 T _ hlt ho hr rfl
        gi_wp2
        go_roundw
        case rel => exact ⟨j + 1, by omega, by simp, hJ3, hr3, ho3⟩
        case measure =>
          simp [intOf]
          omega
      · gi_wp2
        refine bodyPost_ret (results_none rfl _ _ _) rfl ?_
        exact ⟨⟨_, rfl⟩, .inr ⟨_, List.take_prefix _ _, hJx3⟩⟩
    · obtain rfl : j = q.length := by omega
      gi_wp2
      go_end0
      exact ⟨⟨_, rfl⟩, .inl ⟨q, rfl, by simpa using hJ⟩⟩

theorem all_any (p : Option Addr) (w : World) :
    Calls Try.prog 31 #[.pointer p] w fun e w' => e = .returned (.func (.func 36) #[] #[.pointer (some ⟨w.heap.size, 0, none⟩)]) ∧ w' = w.alloc (.cells #[.pointer p] 24) := by
  go_enter Try.func31, Try.ntmps31
  go_wp2_with fail
  go_ret
  exact ⟨rfl, rfl⟩

theorem all_stops (n : Nat) (hn : 1 ≤ n) (Bn X : Nat) (v : Value) (q : List Int) (w : World) (hs : Src w v q) (hc : w.cell? ⟨Bn, 0, none⟩ = some v) (hX : X < w.heap.size) (hO : ∀ b, ¬ Owned w X b) :
    SeqStopsK Fence.wide n Try.prog 36 #[.pointer (some ⟨Bn, 0, none⟩)] (fun x : Int => #[Value.int .i64 x]) (Kq X) (fun ys => ys = q) (fun pre => pre <+: q) q.length w := fun l J Jx W hW aJ _ hY h0 =>
  all1_in n hn l Bn X v q w hs hc hX hO J Jx W hW aJ hY h0

end Go.Proofs.Ytfobfkidpdlkeaa
