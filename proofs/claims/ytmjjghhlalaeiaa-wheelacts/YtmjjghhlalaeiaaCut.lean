/- Contract of cut: a time's parts. -/
import Derived.Test.YtmjjghhlalaeiaaWem
namespace Go.Proofs.Ytmjjghhlalaeiaa
open Go.RowKit

theorem tmod16 (i : Nat) : Int.tmod (i : Int) 16 = ((i % 16 : Nat) : Int) := by rw [Int.tmod_eq_emod_of_nonneg (by omega)]; omega
theorem tdiv16 (i : Nat) : Int.tdiv (i : Int) 16 = ((i / 16 : Nat) : Int) := by rw [Int.tdiv_eq_ediv_of_nonneg (by omega)]; omega

/-- A time's parts, as an array's cells and as its value. -/
def prtC (t : Nat) : Array Value := #[.int .i64 (prt 0 t : Nat), .int .i64 (prt 1 t : Nat), .int .i64 (prt 2 t : Nat), .int .i64 (prt 3 t : Nat)]
def prtV (t : Nat) : Value := .agg (prtC t)

/-- On the way: behind j parts. -/
def cutC (t : Nat) : Nat → Array Value
  | 0 => #[.int .i64 0, .int .i64 0, .int .i64 0, .int .i64 0]
  | 1 => #[.int .i64 (prt 0 t : Nat), .int .i64 0, .int .i64 0, .int .i64 0]
  | 2 => #[.int .i64 (prt 0 t : Nat), .int .i64 (prt 1 t : Nat), .int .i64 0, .int .i64 0]
  | _ => #[.int .i64 (prt 0 t : Nat), .int .i64 (prt 1 t : Nat), .int .i64 (prt 2 t : Nat), .int .i64 0]
def cutT (t : Nat) : Nat → Nat
  | 0 => t
  | 1 => t / 16
  | 2 => t / 16 / 16
  | _ => t / 16 / 16 / 16

theorem cells_set {w : World} {G j : Nat} {cs : Array Value} {t : TypeId} (v : Value) (h : w.heap[G]? = some (.cells cs t (0, 0))) : (w.setCell ⟨G, j, none⟩ v).heap[G]? = some (.cells (cs.setIfInBounds j v) t (0, 0)) := heap_setCell_same w G j cs t v h

set_option maxHeartbeats 2000000 in
theorem cut_any (t : Nat) (ht : t < 4611686018427387904) (w : World) :
    Calls Try.prog 43 #[.int .i64 t] w fun e w' => e = .returned (prtV t) ∧ Below w.heap.size w w' := by
  have hb0 : Below w.heap.size w ((w.alloc (.cells #[.int .i64 0, .int .i64 0, .int .i64 0, .int .i64 0] 73)).alloc (.cells #[.int .i64 0, .int .i64 0, .int .i64 0, .int .i64 0] 73)) := ((Below.refl _ w).alloc (Nat.le_refl _) _).alloc (by simp) _
  have hA : ((w.alloc (.cells #[.int .i64 0, .int .i64 0, .int .i64 0, .int .i64 0] 73)).alloc (.cells #[.int .i64 0, .int .i64 0, .int .i64 0, .int .i64 0] 73)).heap[w.heap.size]? = some (.cells #[.int .i64 0, .int .i64 0, .int .i64 0, .int .i64 0] 73 (0, 0)) := (Below.heap_alloc _ _ _ (by simp)).trans (heap_alloc_new w _)
  have hC : ((w.alloc (.cells #[.int .i64 0, .int .i64 0, .int .i64 0, .int .i64 0] 73)).alloc (.cells #[.int .i64 0, .int .i64 0, .int .i64 0, .int .i64 0] 73)).heap[w.heap.size + 1]? = some (.cells (cutC t 0) 73 (0, 0)) := by
    have := heap_alloc_new (w.alloc (.cells #[.int .i64 0, .int .i64 0, .int .i64 0, .int .i64 0] 73)) (.cells #[.int .i64 0, .int .i64 0, .int .i64 0, .int .i64 0] 73)
    rw [show (w.alloc (.cells #[.int .i64 0, .int .i64 0, .int .i64 0, .int .i64 0] 73)).heap.size = w.heap.size + 1 by simp] at this
    exact this
  go_enter Try.func43, Try.ntmps43
  go_wp2_with fail
  generalize ((w.alloc (.cells #[.int .i64 0, .int .i64 0, .int .i64 0, .int .i64 0] 73)).alloc (.cells #[.int .i64 0, .int .i64 0, .int .i64 0, .int .i64 0] 73)) = W0 at *
  go_loopw [0, 5] (fun p q wr => ∃ j : Nat, j ≤ 3 ∧ p = .int .i64 (cutT t j : Nat) ∧ q = .int .i64 j ∧ wr.heap[w.heap.size]? = some (.cells #[.int .i64 0, .int .i64 0, .int .i64 0, .int .i64 0] 73 (0, 0)) ∧ wr.heap[w.heap.size + 1]? = some (.cells (cutC t j) 73 (0, 0)) ∧ Below w.heap.size w wr) (fun _ q _ => 4 - (intOf q).toNat)
  case atStart => exact ⟨0, by omega, rfl, rfl, hA, hC, hb0⟩
  case round =>
    obtain ⟨j, hj, rfl, rfl, hA, hC, hB⟩ := hrel
    have hsz : w.heap.size + 1 < wr.heap.size := (Array.getElem?_eq_some_iff.1 hC).1
    match j, hj with
    | 0, _ =>
      have e1 := tmod16 (t)
      have e2 := tdiv16 (t)
      have hT : cutT t 0 = t := rfl
      rw [hT]
      have cx : wr.cell? ⟨w.heap.size + 1, 0, none⟩ = some (.int .i64 0) := by simp [World.cell?, hC, cutC]
      have fx : wr.frozen? ⟨w.heap.size + 1, 0, none⟩ = false := by simp [World.frozen?, hC]
      have hC' := cells_set (j := 0) (.int .i64 ((t % 16 : Nat) : Int)) hC
      have hA' := (Below.heap_setCell wr ⟨w.heap.size + 1, 0, none⟩ (.int .i64 ((t % 16 : Nat) : Int)) w.heap.size (by simp)).trans hA
      have hB' := hB.setCell (p := ⟨w.heap.size + 1, 0, none⟩) (Nat.le_succ _) (.int .i64 ((t % 16 : Nat) : Int))
      clear hA hC hB
      go_wp2_with fail
      go_roundw
      case rel =>
        refine ⟨1, by omega, rfl, rfl, hA', ?_, hB'⟩
        refine hC'.trans ?_
        simp [cutC, prt]
      case measure => simp [intOf]
    | 1, _ =>
      have e1 := tmod16 (t / 16)
      have e2 := tdiv16 (t / 16)
      have hT : cutT t 1 = t / 16 := rfl
      rw [hT]
      have cx : wr.cell? ⟨w.heap.size + 1, 1, none⟩ = some (.int .i64 0) := by simp [World.cell?, hC, cutC]
      have fx : wr.frozen? ⟨w.heap.size + 1, 1, none⟩ = false := by simp [World.frozen?, hC]
      have hC' := cells_set (j := 1) (.int .i64 ((t / 16 % 16 : Nat) : Int)) hC
      have hA' := (Below.heap_setCell wr ⟨w.heap.size + 1, 1, none⟩ (.int .i64 ((t / 16 % 16 : Nat) : Int)) w.heap.size (by simp)).trans hA
      have hB' := hB.setCell (p := ⟨w.heap.size + 1, 1, none⟩) (Nat.le_succ _) (.int .i64 ((t / 16 % 16 : Nat) : Int))
      clear hA hC hB
      go_wp2_with fail
      go_roundw
      case rel =>
        refine ⟨2, by omega, rfl, rfl, hA', ?_, hB'⟩
        refine hC'.trans ?_
        simp [cutC, prt]
      case measure => simp [intOf]
    | 2, _ =>
      have e1 := tmod16 (t / 16 / 16)
      have e2 := tdiv16 (t / 16 / 16)
      have hT : cutT t 2 = t / 16 / 16 := rfl
      rw [hT]
      have cx : wr.cell? ⟨w.heap.size + 1, 2, none⟩ = some (.int .i64 0) := by simp [World.cell?, hC, cutC]
      have fx : wr.frozen? ⟨w.heap.size + 1, 2, none⟩ = false := by simp [World.frozen?, hC]
      have hC' := cells_set (j := 2) (.int .i64 ((t / 16 / 16 % 16 : Nat) : Int)) hC
      have hA' := (Below.heap_setCell wr ⟨w.heap.size + 1, 2, none⟩ (.int .i64 ((t / 16 / 16 % 16 : Nat) : Int)) w.heap.size (by simp)).trans hA
      have hB' := hB.setCell (p := ⟨w.heap.size + 1, 2, none⟩) (Nat.le_succ _) (.int .i64 ((t / 16 / 16 % 16 : Nat) : Int))
      clear hA hC hB
      go_wp2_with fail
      go_roundw
      case rel =>
        refine ⟨3, by omega, rfl, rfl, hA', ?_, hB'⟩
        refine hC'.trans ?_
        simp [cutC, prt, Nat.div_div_eq_div_mul]
      case measure => simp [intOf]
    | 3, _ =>
      have hT : cutT t 3 = t / 16 / 16 / 16 := rfl
      rw [hT]
      have hp : t / 16 / 16 / 16 = prt 3 t := by simp only [prt]; omega
      rw [hp]
      simp only [cutC] at hC
      have fx : ∀ k, wr.frozen? ⟨w.heap.size + 1, k, none⟩ = false := fun k => by simp [World.frozen?, hC]
      have fy : ∀ k, wr.frozen? ⟨w.heap.size, k, none⟩ = false := fun k => by simp [World.frozen?, hA]
      have c0 : wr.cell? ⟨w.heap.size + 1, 0, none⟩ = some (.int .i64 (prt 0 t : Nat)) := by simp [World.cell?, hC]
      have c1 : wr.cell? ⟨w.heap.size + 1, 1, none⟩ = some (.int .i64 (prt 1 t : Nat)) := by simp [World.cell?, hC]
      have c2 : wr.cell? ⟨w.heap.size + 1, 2, none⟩ = some (.int .i64 (prt 2 t : Nat)) := by simp [World.cell?, hC]
      have c3 : wr.cell? ⟨w.heap.size + 1, 3, none⟩ = some (.int .i64 0) := by simp [World.cell?, hC]
      have d0 : wr.cell? ⟨w.heap.size, 0, none⟩ = some (.int .i64 0) := by simp [World.cell?, hA]
      have d1 : wr.cell? ⟨w.heap.size, 1, none⟩ = some (.int .i64 0) := by simp [World.cell?, hA]
      have d2 : wr.cell? ⟨w.heap.size, 2, none⟩ = some (.int .i64 0) := by simp [World.cell?, hA]
      have d3 : wr.cell? ⟨w.heap.size, 3, none⟩ = some (.int .i64 0) := by simp [World.cell?, hA]
      go_wp2_with fail
      exact bodyPost_ret (v := prtV t) (by simp [results, Try.results43, go_sem, prtV, prtC, d0, d1, d2, d3]) rfl ⟨rfl, ((((hB.setCell (p := ⟨w.heap.size + 1, 3, none⟩) (Nat.le_succ _) _).setCell (p := ⟨w.heap.size, 0, none⟩) (Nat.le_refl _) _).setCell (p := ⟨w.heap.size, 1, none⟩) (Nat.le_refl _) _).setCell (p := ⟨w.heap.size, 2, none⟩) (Nat.le_refl _) _).setCell (p := ⟨w.heap.size, 3, none⟩) (Nat.le_refl _) _⟩

end Go.Proofs.Ytmjjghhlalaeiaa
