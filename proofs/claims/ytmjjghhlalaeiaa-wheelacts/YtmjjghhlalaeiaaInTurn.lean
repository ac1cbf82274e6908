/- The iterator of inTurn: the rows' lists in the order in which their turns come. -/
import Derived.Test.YtmjjghhlalaeiaaLives
import Derived.Deep.MidRow
namespace Go.Proofs.Ytmjjghhlalaeiaa
open Go.RowKit Go.Shelf
attribute [local go_sem] Oper.semAt_some

/-- The list that is number m in turn. -/
def tq (n m : Nat) : Nat := 16 * (m / 16) + (prt (m / 16) n + 1 + m % 16) % 16
def turnL (n : Nat) : List Nat := (List.range 64).map (tq n)
theorem turnL_len (n : Nat) : (turnL n).length = 64 := by simp [turnL]
theorem turnL_get {n m : Nat} (h : m < 64) : (turnL n)[m]? = some (tq n m) := by simp [turnL, h]
theorem turnL_take {n m : Nat} (h : m < 64) : (turnL n).take m ++ [tq n m] = (turnL n).take (m + 1) := by rw [List.take_add_one, turnL_get h]; rfl
theorem tq_lt {n m : Nat} (h : m < 64) : tq n m < 64 := by unfold tq; omega

/-- No array of parts or of rows turns. -/
def Ka (A B : World) : Prop := ∀ (b : Nat) (cur : Array Value) (t : TypeId), (t = 53 ∨ t = 73) → A.heap[b]? = some (.cells cur t (0, 0)) → B.heap[b]? = some (.cells cur t (0, 0))
theorem ka_t {A B C : World} (h : Ka A B) (k : Ka B C) : Ka A C := fun b cur t ht hb => k b cur t ht (h b cur t ht hb)
theorem ka_b {w : World} (W : World) (l : Nat) (o o' : Obj) (_ : w.heap.size ≤ l) (h : W.heap[l]? = some o) (hc : o.isCells = false) (_ : o.isWalk = false) : Ka W (W.putObj l o') := by
  intro b cur t _ hb
  have hbl : b ≠ l := by rintro rfl; rw [h] at hb; cases hb; cases hc
  exact (World.putObj_heap_other hbl).trans hb
theorem ka_below {A B : World} (h : Below A.heap.size A B) : Ka A B := fun b _ _ _ hb => (h.block b (Array.getElem?_eq_some_iff.1 hb).1).trans hb
theorem Ka.at {A B : World} (h : Ka A B) {X : Nat} {cur : Array Value} {t : TypeId} (ht : t = 53 ∨ t = 73) (hX : A.heap[X]? = some (.cells cur t (0, 0))) : B.heap[X]? = some (.cells cur t (0, 0)) := h X cur t ht hX

def rowsA : Array Value := ((List.range 64).map iv).toArray
def rowA (l : Nat) : Array Value := ((List.range 16).map (fun k => iv (16 * l + k))).toArray
theorem rowA_get {l k : Nat} (h : k < 16) : (rowA l)[k]? = some (.int .i64 ((16 * l + k : Nat) : Int)) := by
  unfold rowA
  simp [h, iv]
theorem ar_get {l k : Nat} {cs : Array Value} (hcs : cs = rowA l) (h : k < 16) : cs[k]? = some (.int .i64 ((16 * l + k : Nat) : Int)) := by rw [hcs]; exact rowA_get h

theorem hi54 : (Try.prog.info? 54).map (·.size) = some ((List.range 64).map iv).length := by kernel_rfl

section
variable {w : World} {T : Wp} {N n : Nat} {us : List Int} {ls : List (List Nat)}
theorem WM.range (h : WM w T N n us ls) : w.rangeAt T.B 2 ((List.range 64).map iv) := by
  intro j v hv
  have hj : j < 64 := by have := (List.getElem?_eq_some_iff.1 hv).1; simpa using this
  rw [List.getElem?_map, List.getElem?_range hj] at hv
  cases hv
  exact h.cr hj

/-- What going over the rows begins with. -/
structure Go1 (w : World) (T : Wp) (n X1 X2 : Nat) : Prop where
  c1 : w.cell? ⟨X1, 0, none⟩ = some (.pointer (some ⟨T.B, 0, none⟩))
  x2 : w.heap[X2]? = some (.cells (prtC n) 73 (0, 0))

set_option maxHeartbeats 2000000 in
theorem inTurn_any (h : WM w T N n us ls) (hT : Tm n) :
    Calls Try.prog 32 #[.pointer (some ⟨T.B, 0, none⟩)] w fun e w' => ∃ X1 X2, e = .returned (.func (.func 50) #[] #[.pointer (some ⟨X1, 0, none⟩), .pointer (some ⟨X2, 0, none⟩)]) ∧ Go1 w' T n X1 X2 ∧ w.heap.size ≤ X1 ∧ w.heap.size ≤ X2 ∧ Below w.heap.size w w' := by
  have hB : Below w.heap.size w (w.alloc (.cells #[.pointer (some ⟨T.B, 0, none⟩)] 24)) := (Below.refl _ w).alloc (Nat.le_refl _) _
  have c0 := (h.below hB).c0
  have hx : (w.alloc (.cells #[.pointer (some ⟨T.B, 0, none⟩)] 24)).cell? ⟨w.heap.size, 0, none⟩ = some (.pointer (some ⟨T.B, 0, none⟩)) := by simp [go_sem]
  have hs1 : (w.alloc (.cells #[.pointer (some ⟨T.B, 0, none⟩)] 24)).heap.size = w.heap.size + 1 := by simp
  go_enter Try.func32, Try.ntmps32
  go_wp2_with (first
    | (go_at_call 43; (with_reducible refine (cut_any n hT.lt _).mono ?_); rintro e w1 ⟨rfl, b1⟩; unfold prtV prtC))
  go_ret
  refine ⟨w.heap.size, w1.heap.size, rfl, ⟨?_, heap_alloc_new w1 _⟩, Nat.le_refl _, ?_, ?_⟩
  · exact cell_on ((Below.refl _ w1).alloc (Nat.le_refl _) _) (cell_on b1 hx)
  · have := b1.size
    omega
  · have b2 := hB.trans (b1.mono hB.size)
    exact b2.alloc b2.size _
end

set_option maxRecDepth 100000 in
set_option maxHeartbeats 4000000 in
theorem turn1_in (m : Nat) (hm : 1 ≤ m) (l0 : Nat) (T : Wp) (N n X1 X2 : Nat) (us : List Int) (ls : List (List Nat)) (w : World) (hM : WM w T N n us ls) (hT : Tm n) (hG : Go1 w T n X1 X2)
    (J Jx : List Nat → World → Prop) (W : World) (hW : Below w.heap.size w W) (aJ : AbidesFrom W.heap.size J)
    (hY : ∀ pre x W, J pre W → pre.length < 64 → YieldAt Fence.wide (m - 1) Try.prog l0 #[.int .i64 (x : Nat)] W fun e W' =>
      (e = .returned (.bool true) ∧ J (pre ++ [x]) W' ∧ Ka W W') ∨ (e = .returned (.bool false) ∧ Jx (pre ++ [x]) W'))
    (h0 : J [] W) :
    CallsIn Fence.wide m Try.prog 50 #[.func (.yield l0) #[] #[], .pointer (some ⟨X1, 0, none⟩), .pointer (some ⟨X2, 0, none⟩)] W fun e W' => (∃ v, e = .returned v) ∧
      ((∃ ys, ys = turnL n ∧ J ys W') ∨ (∃ pre, pre <+: turnL n ∧ Jx pre W')) := by
  have c1 := cell_on hW hG.c1
  have hX2 : W.heap[X2]? = some (.cells (prtC n) 73 (0, 0)) := (hW.block _ (Array.getElem?_eq_some_iff.1 hG.x2).1).trans hG.x2
  have hR := (hM.below hW).range
  refine callsIn_of_wp Try.func50 rfl trivial ?_ rfl
  simp only [Try.ntmps50, List.size_toArray, List.length_cons, List.length_nil, Nat.reduceAdd, Nat.reduceSub, Array.replicate_succ, Array.replicate_zero, List.push_toArray, List.append_toArray, List.nil_append, List.cons_append]
  refine wpIn_wide.2 ?_
  go_upto_region 0 with fail
  iterate 10 go_step
  refine wpList_load_mid rfl 54 (.tmp 9) rfl T.B 2 rfl _ _ hR Try.underlying54 rfl hi54 ?_
  rw [show ((List.range 64).map iv).toArray = rowsA from rfl]
  go_wp2_with fail
  clear hR c1 hM hG
  refine (wpIn_wide (n := m)).1 ?_
  have hTm : ∀ l, prt l n < 4000000000000000000 := fun l => by
    have h1 : n < 4000000000000000000 := hT
    unfold prt
    split <;> omega
  have i0 : ∀ W, (Instr.index 54 (.agg rowsA) (.int .i64 0)).run Try.prog W = .ok (.agg #[.int .i64 0, .int .i64 1, .int .i64 2, .int .i64 3, .int .i64 4, .int .i64 5, .int .i64 6, .int .i64 7, .int .i64 8, .int .i64 9, .int .i64 10, .int .i64 11, .int .i64 12, .int .i64 13, .int .i64 14, .int .i64 15]) W := fun _ => by kernel_rfl
  have i1 : ∀ W, (Instr.index 54 (.agg rowsA) (.int .i64 1)).run Try.prog W = .ok (.agg #[.int .i64 16, .int .i64 17, .int .i64 18, .int .i64 19, .int .i64 20, .int .i64 21, .int .i64 22, .int .i64 23, .int .i64 24, .int .i64 25, .int .i64 26, .int .i64 27, .int .i64 28, .int .i64 29, .int .i64 30, .int .i64 31]) W := fun _ => by kernel_rfl
  have i2 : ∀ W, (Instr.index 54 (.agg rowsA) (.int .i64 2)).run Try.prog W = .ok (.agg #[.int .i64 32, .int .i64 33, .int .i64 34, .int .i64 35, .int .i64 36, .int .i64 37, .int .i64 38, .int .i64 39, .int .i64 40, .int .i64 41, .int .i64 42, .int .i64 43, .int .i64 44, .int .i64 45, .int .i64 46, .int .i64 47]) W := fun _ => by kernel_rfl
  have i3 : ∀ W, (Instr.index 54 (.agg rowsA) (.int .i64 3)).run Try.prog W = .ok (.agg #[.int .i64 48, .int .i64 49, .int .i64 50, .int .i64 51, .int .i64 52, .int .i64 53, .int .i64 54, .int .i64 55, .int .i64 56, .int .i64 57, .int .i64 58, .int .i64 59, .int .i64 60, .int .i64 61, .int .i64 62, .int .i64 63]) W := fun _ => by kernel_rfl
  generalize rowsA = ra at *
  gi_loopw [11] (fun p wr => ∃ l : Nat, l ≤ 4 ∧ p = .int .i64 l ∧ J ((turnL n).take (16 * l)) wr ∧ wr.heap[X2]? = some (.cells (prtC n) 73 (0, 0))) (fun p _ => 4 - (intOf p).toNat)
  case atStart => exact ⟨0, by omega, rfl, h0, hX2⟩
  case round =>
    clear h0 hX2
    obtain ⟨l, hl, rfl, hJ, hX2⟩ := hrel
    obtain rfl | rfl | rfl | rfl | rfl : l = 0 ∨ l = 1 ∨ l = 2 ∨ l = 3 ∨ l = 4 := by omega
    · rw [show ((0 : Nat) : Int) = 0 from rfl]
      gi_wp2
      have hY5 : (wr.alloc (.cells #[.int .i64 0, .int .i64 1, .int .i64 2, .int .i64 3, .int .i64 4, .int .i64 5, .int .i64 6, .int .i64 7, .int .i64 8, .int .i64 9, .int .i64 10, .int .i64 11, .int .i64 12, .int .i64 13, .int .i64 14, .int .i64 15] 53)).heap[wr.heap.size]? = some (.cells (rowA 0) 53 (0, 0)) := heap_alloc_new wr _
      have hJ1 : J ((turnL n).take (16 * 0 + 0)) (wr.alloc (.cells #[.int .i64 0, .int .i64 1, .int .i64 2, .int .i64 3, .int .i64 4, .int .i64 5, .int .i64 6, .int .i64 7, .int .i64 8, .int .i64 9, .int .i64 10, .int .i64 11, .int .i64 12, .int .i64 13, .int .i64 14, .int .i64 15] 53)) := aJ _ _ _ none hJ (World.grownBy_alloc wr _ none) (fun r e => by cases e)
      have hX1 : (wr.alloc (.cells #[.int .i64 0, .int .i64 1, .int .i64 2, .int .i64 3, .int .i64 4, .int .i64 5, .int .i64 6, .int .i64 7, .int .i64 8, .int .i64 9, .int .i64 10, .int .i64 11, .int .i64 12, .int .i64 13, .int .i64 14, .int .i64 15] 53)).heap[X2]? = some (.cells (prtC n) 73 (0, 0)) := (Below.heap_alloc _ _ _ (Array.getElem?_eq_some_iff.1 hX2).1).trans hX2
      generalize (wr.alloc (.cells #[.int .i64 0, .int .i64 1, .int .i64 2, .int .i64 3, .int .i64 4, .int .i64 5, .int .i64 6, .int .i64 7, .int .i64 8, .int .i64 9, .int .i64 10, .int .i64 11, .int .i64 12, .int .i64 13, .int .i64 14, .int .i64 15] 53)) = W1 at *
      generalize Value.agg #[.int .i64 0, .int .i64 1, .int .i64 2, .int .i64 3, .int .i64 4, .int .i64 5, .int .i64 6, .int .i64 7, .int .i64 8, .int .i64 9, .int .i64 10, .int .i64 11, .int .i64 12, .int .i64 13, .int .i64 14, .int .i64 15] = va at *
      generalize wr.heap.size = Y at *
      clear hJ hX2 i0 i1 i2 i3
      gi_loopw [15] (fun p wr' => ∃ s : Nat, s ≤ 16 ∧ p = .int .i64 s ∧ J ((turnL n).take (16 * 0 + s)) wr' ∧ wr'.heap[X2]? = some (.cells (prtC n) 73 (0, 0)) ∧ wr'.heap[Y]? = some (.cells (rowA 0) 53 (0, 0))) (fun p _ => 16 - (intOf p).toNat)
      case atStart => exact ⟨0, by omega, rfl, hJ1, hX1, hY5⟩
      case round =>
        clear hJ1 hX1 hY5
        obtain ⟨s, hs, rfl, hJ, hX2, hY5⟩ := hrel
        by_cases hs16 : s < 16
        · have hlt : 16 * 0 + s < 64 := by omega
          obtain ⟨fn, tmps, assign, body, hy, hR⟩ := hY _ (tq n (16 * 0 + s)) _ hJ (by rw [List.length_take, turnL_len]; omega)
          rw [turnL_take hlt] at hR
          have htq : tq n (16 * 0 + s) = 16 * 0 + (prt 0 n + 1 + s) % 16 := by
            unfold tq
            rw [show (16 * 0 + s) / 16 = 0 by omega, show (16 * 0 + s) % 16 = s by omega]
          have cx : wr.cell? ⟨X2, 0, none⟩ = some (.int .i64 (prt 0 n : Nat)) := cell_of hX2 (prtC_get (by omega))
          have cy : wr.cell? ⟨Y, (prt 0 n + 1 + s) % 16, none⟩ = some (.int .i64 (tq n (16 * 0 + s) : Nat)) := by
            rw [htq]
            exact cell_of hY5 (rowA_get (by omega))
          have hp := hTm 0
          have e1 : wrap64 ((prt 0 n : Int) + 1) = (prt 0 n : Int) + 1 := by unfold wrap64; omega
          have e1' : IntKind.i64.wrap ((prt 0 n : Int) + 1) = (prt 0 n : Int) + 1 := by rw [IntKind.wrap_i64] <;> omega
          have e2 : wrap64 ((prt 0 n : Int) + 1 + (s : Int)) = (prt 0 n : Int) + 1 + (s : Int) := by unfold wrap64; omega
          have e2' : IntKind.i64.wrap ((prt 0 n : Int) + 1 + (s : Int)) = (prt 0 n : Int) + 1 + (s : Int) := by rw [IntKind.wrap_i64] <;> omega
          have e3 : Int.tmod ((prt 0 n : Int) + 1 + (s : Int)) 16 = (((prt 0 n + 1 + s) % 16 : Nat) : Int) := by rw [Int.tmod_eq_emod_of_nonneg (by omega)]; omega
          have hk0 : (0 : Int) ≤ (((prt 0 n + 1 + s) % 16 : Nat) : Int) := by omega
          have hk1 : (((prt 0 n + 1 + s) % 16 : Nat) : Int) < 16 := by omega
          have hs' : (s : Int) < 16 := by omega
          clear hp hTm htq hT
          generalize tq n (16 * 0 + s) = x at *
          generalize (prt 0 n + 1 + s) % 16 = kk at *
          generalize prt 0 n = pp at *
          gi_wp2
          refine hR.mono ?_
          rintro e W3 (⟨rfl, hJ3, hk3⟩ | ⟨rfl, hJx3⟩)
          · gi_wp2
            go_roundw
            case rel => exact ⟨s + 1, by omega, by simp, hJ3, hk3.at (.inr rfl) hX2, hk3.at (.inl rfl) hY5⟩
            case measure =>
              simp [intOf]
              omega
          · gi_wp2
            refine bodyPost_ret (results_none rfl _ _ _) rfl ?_
            exact ⟨⟨_, rfl⟩, .inr ⟨_, List.take_prefix _ _, hJx3⟩⟩
        · obtain rfl : s = 16 := by omega
          gi_wp2
          go_roundw
          case rel => exact ⟨1, by omega, rfl, hJ, hX2⟩
          case measure => simp [intOf]
    · rw [show ((1 : Nat) : Int) = 1 from rfl]
      gi_wp2
      have hY5 : (wr.alloc (.cells #[.int .i64 16, .int .i64 17, .int .i64 18, .int .i64 19, .int .i64 20, .int .i64 21, .int .i64 22, .int .i64 23, .int .i64 24, .int .i64 25, .int .i64 26, .int .i64 27, .int .i64 28, .int .i64 29, .int .i64 30, .int .i64 31] 53)).heap[wr.heap.size]? = some (.cells (rowA 1) 53 (0, 0)) := heap_alloc_new wr _
      have hJ1 : J ((turnL n).take (16 * 1 + 0)) (wr.alloc (.cells #[.int .i64 16, .int .i64 17, .int .i64 18, .int .i64 19, .int .i64 20, .int .i64 21, .int .i64 22, .int .i64 23, .int .i64 24, .int .i64 25, .int .i64 26, .int .i64 27, .int .i64 28, .int .i64 29, .int .i64 30, .int .i64 31] 53)) := aJ _ _ _ none hJ (World.grownBy_alloc wr _ none) (fun r e => by cases e)
      have hX1 : (wr.alloc (.cells #[.int .i64 16, .int .i64 17, .int .i64 18, .int .i64 19, .int .i64 20, .int .i64 21, .int .i64 22, .int .i64 23, .int .i64 24, .int .i64 25, .int .i64 26, .int .i64 27, .int .i64 28, .int .i64 29, .int .i64 30, .int .i64 31] 53)).heap[X2]? = some (.cells (prtC n) 73 (0, 0)) := (Below.heap_alloc _ _ _ (Array.getElem?_eq_some_iff.1 hX2).1).trans hX2
      generalize (wr.alloc (.cells #[.int .i64 16, .int .i64 17, .int .i64 18, .int .i64 19, .int .i64 20, .int .i64 21, .int .i64 22, .int .i64 23, .int .i64 24, .int .i64 25, .int .i64 26, .int .i64 27, .int .i64 28, .int .i64 29, .int .i64 30, .int .i64 31] 53)) = W1 at *
      generalize Value.agg #[.int .i64 16, .int .i64 17, .int .i64 18, .int .i64 19, .int .i64 20, .int .i64 21, .int .i64 22, .int .i64 23, .int .i64 24, .int .i64 25, .int .i64 26, .int .i64 27, .int .i64 28, .int .i64 29, .int .i64 30, .int .i64 31] = va at *
      generalize wr.heap.size = Y at *
      clear hJ hX2 i0 i1 i2 i3
      gi_loopw [15] (fun p wr' => ∃ s : Nat, s ≤ 16 ∧ p = .int .i64 s ∧ J ((turnL n).take (16 * 1 + s)) wr' ∧ wr'.heap[X2]? = some (.cells (prtC n) 73 (0, 0)) ∧ wr'.heap[Y]? = some (.cells (rowA 1) 53 (0, 0))) (fun p _ => 16 - (intOf p).toNat)
      case atStart => exact ⟨0, by omega, rfl, hJ1, hX1, hY5⟩
      case round =>
        clear hJ1 hX1 hY5
        obtain ⟨s, hs, rfl, hJ, hX2, hY5⟩ := hrel
        by_cases hs16 : s < 16
        · have hlt : 16 * 1 + s < 64 := by omega
          obtain ⟨fn, tmps, assign, body, hy, hR⟩ := hY _ (tq n (16 * 1 + s)) _ hJ (by rw [List.length_take, turnL_len]; omega)
          rw [turnL_take hlt] at hR
          have htq : tq n (16 * 1 + s) = 16 * 1 + (prt 1 n + 1 + s) % 16 := by
            unfold tq
            rw [show (16 * 1 + s) / 16 = 1 by omega, show (16 * 1 + s) % 16 = s by omega]
          have cx : wr.cell? ⟨X2, 1, none⟩ = some (.int .i64 (prt 1 n : Nat)) := cell_of hX2 (prtC_get (by omega))
          have cy : wr.cell? ⟨Y, (prt 1 n + 1 + s) % 16, none⟩ = some (.int .i64 (tq n (16 * 1 + s) : Nat)) := by
            rw [htq]
            exact cell_of hY5 (rowA_get (by omega))
          have hp := hTm 1
          have e1 : wrap64 ((prt 1 n : Int) + 1) = (prt 1 n : Int) + 1 := by unfold wrap64; omega
          have e1' : IntKind.i64.wrap ((prt 1 n : Int) + 1) = (prt 1 n : Int) + 1 := by rw [IntKind.wrap_i64] <;> omega
          have e2 : wrap64 ((prt 1 n : Int) + 1 + (s : Int)) = (prt 1 n : Int) + 1 + (s : Int) := by unfold wrap64; omega
          have e2' : IntKind.i64.wrap ((prt 1 n : Int) + 1 + (s : Int)) = (prt 1 n : Int) + 1 + (s : Int) := by rw [IntKind.wrap_i64] <;> omega
          have e3 : Int.tmod ((prt 1 n : Int) + 1 + (s : Int)) 16 = (((prt 1 n + 1 + s) % 16 : Nat) : Int) := by rw [Int.tmod_eq_emod_of_nonneg (by omega)]; omega
          have hk0 : (0 : Int) ≤ (((prt 1 n + 1 + s) % 16 : Nat) : Int) := by omega
          have hk1 : (((prt 1 n + 1 + s) % 16 : Nat) : Int) < 16 := by omega
          have hs' : (s : Int) < 16 := by omega
          clear hp hTm htq hT
          generalize tq n (16 * 1 + s) = x at *
          generalize (prt 1 n + 1 + s) % 16 = kk at *
          generalize prt 1 n = pp at *
          gi_wp2
          refine hR.mono ?_
          rintro e W3 (⟨rfl, hJ3, hk3⟩ | ⟨rfl, hJx3⟩)
          · gi_wp2
            go_roundw
            case rel => exact ⟨s + 1, by omega, by simp, hJ3, hk3.at (.inr rfl) hX2, hk3.at (.inl rfl) hY5⟩
            case measure =>
              simp [intOf]
              omega
          · gi_wp2
            refine bodyPost_ret (results_none rfl _ _ _) rfl ?_
            exact ⟨⟨_, rfl⟩, .inr ⟨_, List.take_prefix _ _, hJx3⟩⟩
        · obtain rfl : s = 16 := by omega
          gi_wp2
          go_roundw
          case rel => exact ⟨2, by omega, rfl, hJ, hX2⟩
          case measure => simp [intOf]
    · rw [show ((2 : Nat) : Int) = 2 from rfl]
      gi_wp2
      have hY5 : (wr.alloc (.cells #[.int .i64 32, .int .i64 33, .int .i64 34, .int .i64 35, .int .i64 36, .int .i64 37, .int .i64 38, .int .i64 39, .int .i64 40, .int .i64 41, .int .i64 42, .int .i64 43, .int .i64 44, .int .i64 45, .int .i64 46, .int .i64 47] 53)).heap[wr.heap.size]? = some (.cells (rowA 2) 53 (0, 0)) := heap_alloc_new wr _
      have hJ1 : J ((turnL n).take (16 * 2 + 0)) (wr.alloc (.cells #[.int .i64 32, .int .i64 33, .int .i64 34, .int .i64 35, .int .i64 36, .int .i64 37, .int .i64 38, .int .i64 39, .int .i64 40, .int .i64 41, .int .i64 42, .int .i64 43, .int .i64 44, .int .i64 45, .int .i64 46, .int .i64 47] 53)) := aJ _ _ _ none hJ (World.grownBy_alloc wr _ none) (fun r e => by cases e)
      have hX1 : (wr.alloc (.cells #[.int .i64 32, .int .i64 33, .int .i64 34, .int .i64 35, .int .i64 36, .int .i64 37, .int .i64 38, .int .i64 39, .int .i64 40, .int .i64 41, .int .i64 42, .int .i64 43, .int .i64 44, .int .i64 45, .int .i64 46, .int .i64 47] 53)).heap[X2]? = some (.cells (prtC n) 73 (0, 0)) := (Below.heap_alloc _ _ _ (Array.getElem?_eq_some_iff.1 hX2).1).trans hX2
      generalize (wr.alloc (.cells #[.int .i64 32, .int .i64 33, .int .i64 34, .int .i64 35, .int .i64 36, .int .i64 37, .int .i64 38, .int .i64 39, .int .i64 40, .int .i64 41, .int .i64 42, .int .i64 43, .int .i64 44, .int .i64 45, .int .i64 46, .int .i64 47] 53)) = W1 at *
      generalize Value.agg #[.int .i64 32, .int .i64 33, .int .i64 34, .int .i64 35, .int .i64 36, .int .i64 37, .int .i64 38, .int .i64 39, .int .i64 40, .int .i64 41, .int .i64 42, .int .i64 43, .int .i64 44, .int .i64 45, .int .i64 46, .int .i64 47] = va at *
      generalize wr.heap.size = Y at *
      clear hJ hX2 i0 i1 i2 i3
      gi_loopw [15] (fun p wr' => ∃ s : Nat, s ≤ 16 ∧ p = .int .i64 s ∧ J ((turnL n).take (16 * 2 + s)) wr' ∧ wr'.heap[X2]? = some (.cells (prtC n) 73 (0, 0)) ∧ wr'.heap[Y]? = some (.cells (rowA 2) 53 (0, 0))) (fun p _ => 16 - (intOf p).toNat)
      case atStart => exact ⟨0, by omega, rfl, hJ1, hX1, hY5⟩
      case round =>
        clear hJ1 hX1 hY5
        obtain ⟨s, hs, rfl, hJ, hX2, hY5⟩ := hrel
        by_cases hs16 : s < 16
        · have hlt : 16 * 2 + s < 64 := by omega
          obtain ⟨fn, tmps, assign, body, hy, hR⟩ := hY _ (tq n (16 * 2 + s)) _ hJ (by rw [List.length_take, turnL_len]; omega)
          rw [turnL_take hlt] at hR
          have htq : tq n (16 * 2 + s) = 16 * 2 + (prt 2 n + 1 + s) % 16 := by
            unfold tq
            rw [show (16 * 2 + s) / 16 = 2 by omega, show (16 * 2 + s) % 16 = s by omega]
          have cx : wr.cell? ⟨X2, 2, none⟩ = some (.int .i64 (prt 2 n : Nat)) := cell_of hX2 (prtC_get (by omega))
          have cy : wr.cell? ⟨Y, (prt 2 n + 1 + s) % 16, none⟩ = some (.int .i64 (tq n (16 * 2 + s) : Nat)) := by
            rw [htq]
            exact cell_of hY5 (rowA_get (by omega))
          have hp := hTm 2
          have e1 : wrap64 ((prt 2 n : Int) + 1) = (prt 2 n : Int) + 1 := by unfold wrap64; omega
          have e1' : IntKind.i64.wrap ((prt 2 n : Int) + 1) = (prt 2 n : Int) + 1 := by rw [IntKind.wrap_i64] <;> omega
          have e2 : wrap64 ((prt 2 n : Int) + 1 + (s : Int)) = (prt 2 n : Int) + 1 + (s : Int) := by unfold wrap64; omega
          have e2' : IntKind.i64.wrap ((prt 2 n : Int) + 1 + (s : Int)) = (prt 2 n : Int) + 1 + (s : Int) := by rw [IntKind.wrap_i64] <;> omega
          have e3 : Int.tmod ((prt 2 n : Int) + 1 + (s : Int)) 16 = (((prt 2 n + 1 + s) % 16 : Nat) : Int) := by rw [Int.tmod_eq_emod_of_nonneg (by omega)]; omega
          have hk0 : (0 : Int) ≤ (((prt 2 n + 1 + s) % 16 : Nat) : Int) := by omega
          have hk1 : (((prt 2 n + 1 + s) % 16 : Nat) : Int) < 16 := by omega
          have hs' : (s : Int) < 16 := by omega
          clear hp hTm htq hT
          generalize tq n (16 * 2 + s) = x at *
          generalize (prt 2 n + 1 + s) % 16 = kk at *
          generalize prt 2 n = pp at *
          gi_wp2
          refine hR.mono ?_
          rintro e W3 (⟨rfl, hJ3, hk3⟩ | ⟨rfl, hJx3⟩)
          · gi_wp2
            go_roundw
            case rel => exact ⟨s + 1, by omega, by simp, hJ3, hk3.at (.inr rfl) hX2, hk3.at (.inl rfl) hY5⟩
            case measure =>
              simp [intOf]
              omega
          · gi_wp2
            refine bodyPost_ret (results_none rfl _ _ _) rfl ?_
            exact ⟨⟨_, rfl⟩, .inr ⟨_, List.take_prefix _ _, hJx3⟩⟩
        · obtain rfl : s = 16 := by omega
          gi_wp2
          go_roundw
          case rel => exact ⟨3, by omega, rfl, hJ, hX2⟩
          case measure => simp [intOf]
    · rw [show ((3 : Nat) : Int) = 3 from rfl]
      gi_wp2
      have hY5 : (wr.alloc (.cells #[.int .i64 48, .int .i64 49, .int .i64 50, .int .i64 51, .int .i64 52, .int .i64 53, .int .i64 54, .int .i64 55, .int .i64 56, .int .i64 57, .int .i64 58, .int .i64 59, .int .i64 60, .int .i64 61, .int .i64 62, .int .i64 63] 53)).heap[wr.heap.size]? = some (.cells (rowA 3) 53 (0, 0)) := heap_alloc_new wr _
      have hJ1 : J ((turnL n).take (16 * 3 + 0)) (wr.alloc (.cells #[.int .i64 48, .int .i64 49, .int .i64 50, .int .i64 51, .int .i64 52, .int .i64 53, .int .i64 54, .int .i64 55, .int .i64 56, .int .i64 57, .int .i64 58, .int .i64 59, .int .i64 60, .int .i64 61, .int .i64 62, .int .i64 63] 53)) := aJ _ _ _ none hJ (World.grownBy_alloc wr _ none) (fun r e => by cases e)
      have hX1 : (wr.alloc (.cells #[.int .i64 48, .int .i64 49, .int .i64 50, .int .i64 51, .int .i64 52, .int .i64 53, .int .i64 54, .int .i64 55, .int .i64 56, .int .i64 57, .int .i64 58, .int .i64 59, .int .i64 60, .int .i64 61, .int .i64 62, .int .i64 63] 53)).heap[X2]? = some (.cells (prtC n) 73 (0, 0)) := (Below.heap_alloc _ _ _ (Array.getElem?_eq_some_iff.1 hX2).1).trans hX2
      generalize (wr.alloc (.cells #[.int .i64 48, .int .i64 49, .int .i64 50, .int .i64 51, .int .i64 52, .int .i64 53, .int .i64 54, .int .i64 55, .int .i64 56, .int .i64 57, .int .i64 58, .int .i64 59, .int .i64 60, .int .i64 61, .int .i64 62, .int .i64 63] 53)) = W1 at *
      generalize Value.agg #[.int .i64 48, .int .i64 49, .int .i64 50, .int .i64 51, .int .i64 52, .int .i64 53, .int .i64 54, .int .i64 55, .int .i64 56, .int .i64 57, .int .i64 58, .int .i64 59, .int .i64 60, .int .i64 61, .int .i64 62, .int .i64 63] = va at *
      generalize wr.heap.size = Y at *
      clear hJ hX2 i0 i1 i2 i3
      gi_loopw [15] (fun p wr' => ∃ s : Nat, s ≤ 16 ∧ p = .int .i64 s ∧ J ((turnL n).take (16 * 3 + s)) wr' ∧ wr'.heap[X2]? = some (.cells (prtC n) 73 (0, 0)) ∧ wr'.heap[Y]? = some (.cells (rowA 3) 53 (0, 0))) (fun p _ => 16 - (intOf p).toNat)
      case atStart => exact ⟨0, by omega, rfl, hJ1, hX1, hY5⟩
      case round =>
        clear hJ1 hX1 hY5
        obtain ⟨s, hs, rfl, hJ, hX2, hY5⟩ := hrel
        by_cases hs16 : s < 16
        · have hlt : 16 * 3 + s < 64 := by omega
          obtain ⟨fn, tmps, assign, body, hy, hR⟩ := hY _ (tq n (16 * 3 + s)) _ hJ (by rw [List.length_take, turnL_len]; omega)
          rw [turnL_take hlt] at hR
          have htq : tq n (16 * 3 + s) = 16 * 3 + (prt 3 n + 1 + s) % 16 := by
            unfold tq
            rw [show (16 * 3 + s) / 16 = 3 by omega, show (16 * 3 + s) % 16 = s by omega]
          have cx : wr.cell? ⟨X2, 3, none⟩ = some (.int .i64 (prt 3 n : Nat)) := cell_of hX2 (prtC_get (by omega))
          have cy : wr.cell? ⟨Y, (prt 3 n + 1 + s) % 16, none⟩ = some (.int .i64 (tq n (16 * 3 + s) : Nat)) := by
            rw [htq]
            exact cell_of hY5 (rowA_get (by omega))
          have hp := hTm 3
          have e1 : wrap64 ((prt 3 n : Int) + 1) = (prt 3 n : Int) + 1 := by unfold wrap64; omega
          have e1' : IntKind.i64.wrap ((prt 3 n : Int) + 1) = (prt 3 n : Int) + 1 := by rw [IntKind.wrap_i64] <;> omega
          have e2 : wrap64 ((prt 3 n : Int) + 1 + (s : Int)) = (prt 3 n : Int) + 1 + (s : Int) := by unfold wrap64; omega
          have e2' : IntKind.i64.wrap ((prt 3 n : Int) + 1 + (s : Int)) = (prt 3 n : Int) + 1 + (s : Int) := by rw [IntKind.wrap_i64] <;> omega
          have e3 : Int.tmod ((prt 3 n : Int) + 1 + (s : Int)) 16 = (((prt 3 n + 1 + s) % 16 : Nat) : Int) := by rw [Int.tmod_eq_emod_of_nonneg (by omega)]; omega
          have hk0 : (0 : Int) ≤ (((prt 3 n + 1 + s) % 16 : Nat) : Int) := by omega
          have hk1 : (((prt 3 n + 1 + s) % 16 : Nat) : Int) < 16 := by omega
          have hs' : (s : Int) < 16 := by omega
          clear hp hTm htq hT
          generalize tq n (16 * 3 + s) = x at *
          generalize (prt 3 n + 1 + s) % 16 = kk at *
          generalize prt 3 n = pp at *
          gi_wp2
          refine hR.mono ?_
          rintro e W3 (⟨rfl, hJ3, hk3⟩ | ⟨rfl, hJx3⟩)
          · gi_wp2
            go_roundw
            case rel => exact ⟨s + 1, by omega, by simp, hJ3, hk3.at (.inr rfl) hX2, hk3.at (.inl rfl) hY5⟩
            case measure =>
              simp [intOf]
              omega
          · gi_wp2
            refine bodyPost_ret (results_none rfl _ _ _) rfl ?_
            exact ⟨⟨_, rfl⟩, .inr ⟨_, List.take_prefix _ _, hJx3⟩⟩
        · obtain rfl : s = 16 := by omega
          gi_wp2
          go_roundw
          case rel => exact ⟨4, by omega, rfl, hJ, hX2⟩
          case measure => simp [intOf]
    · gi_wp2
      go_end0
      exact ⟨⟨_, rfl⟩, .inl ⟨_, rfl, by simpa [turnL_len, List.take_of_length_le] using hJ⟩⟩

theorem turn_stops (m : Nat) (hm : 1 ≤ m) (T : Wp) (N n X1 X2 : Nat) (us : List Int) (ls : List (List Nat)) (w : World) (hM : WM w T N n us ls) (hT : Tm n) (hG : Go1 w T n X1 X2) :
    SeqStopsK Fence.wide m Try.prog 50 #[.pointer (some ⟨X1, 0, none⟩), .pointer (some ⟨X2, 0, none⟩)] (fun x : Nat => #[Value.int .i64 (x : Nat)]) Ka (fun ys => ys = turnL n) (fun pre => pre <+: turnL n) 64 w := fun l J Jx W hW aJ _ hY h0 =>
  turn1_in m hm l T N n X1 X2 us ls w hM hT hG J Jx W hW aJ hY h0

end Go.Proofs.Ytmjjghhlalaeiaa
