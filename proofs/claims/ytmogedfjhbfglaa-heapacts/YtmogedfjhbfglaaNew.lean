/- Contracts of New; the document's example. -/
import Derived.Test.YtmogedfjhbfglaaOps
namespace Go.Proofs.Ytmogedfjhbfglaa
open Go.RowKit

theorem info3 : (Try.prog.info? 3).map (fun i => (i.zero, i.size, i.bytes)) = some (some (.int .i64 0), 1, 8) := by kernel_rfl

theorem mk_int (n : Nat) (hn : n ≤ 8192) (W : World) : (Instr.makeSlice 32 (.int .i64 n) (.int .i64 n)).run Try.prog W = .ok (.slice (some ⟨W.heap.size, 0, none⟩) n n) (W.alloc (.cells (madeCells #[.int .i64 0] n) 3)) := by
  obtain ⟨i0, hi, hz0, hz1, hz2⟩ := info_parts info3
  have h := run_make (P := Try.prog) W 32 3 i0 (.int .i64 0) Try.underlying32 hi hz0 .i64 .i64 n n (by omega) (Int.le_refl _) (by rw [hz2]; omega) (by omega)
  simpa [hz1, show (Value.int .i64 0).cells = #[.int .i64 0] from rfl] using h

theorem new_none (a : Int) (hm : inN 4096 (a - 1) = false) (w : World) :
    Calls Try.prog 9 #[.int .i64 a] w fun e w' => e = .returned (.pointer none) ∧ w' = w := by
  unfold inN at hm
  simp at hm
  by_cases h1 : a < 1
  · go_enter Try.func9, Try.ntmps9
    go_wp2_with fail
    go_ret
    exact ⟨rfl, rfl⟩
  · have h2 : 4096 < a := by omega
    go_enter Try.func9, Try.ntmps9
    go_wp2_with fail
    go_ret
    exact ⟨rfl, rfl⟩

theorem set_range {α : Type} {n : Nat} {f g : Nat → α} {i : Nat} {v : α} (h1 : ∀ x, x ≠ i → g x = f x) (h2 : g i = v) : ((List.range n).map f).set i v = (List.range n).map g := by
  apply List.ext_getElem?
  intro k
  by_cases hk : k < n
  · by_cases e : k = i
    · subst e
      rw [List.getElem?_set_self (by simpa using hk)]
      simp [hk, h2]
    · rw [List.getElem?_set_ne (Ne.symm e)]
      simp [hk, h1 k e]
  · rw [List.getElem?_eq_none (by simp; omega), List.getElem?_eq_none (by simp; omega)]
/-- The places on the way, behind j ids. -/
def wh0 (N j : Nat) : List Int := (List.range N).map (fun t => if t < j then -1 else 0)
theorem wh0_set (N j : Nat) : (wh0 N j).set j (-1) = wh0 N (j + 1) := set_range (fun x hx => by
  by_cases h : x < j
  · rw [if_pos h, if_pos (by omega)]
  · rw [if_neg h, if_neg (by omega)]) (by rw [if_pos (by omega)])
theorem wh0_end (N : Nat) : wh0 N N = List.replicate N (-1) := by
  apply List.ext_getElem?
  intro k
  by_cases hk : k < N
  · rw [List.getElem?_replicate_of_lt hk]
    simp [wh0, hk]
  · rw [List.getElem?_eq_none (by simp [wh0]; omega), List.getElem?_eq_none (by simp; omega)]
theorem zero_wh (N : Nat) : (wh0 N 0).map (Value.int .i64) = List.replicate N (.int .i64 0) := by
  apply List.ext_getElem?
  intro k
  by_cases hk : k < N
  · rw [List.getElem?_replicate_of_lt hk]
    simp [wh0, hk]
  · rw [List.getElem?_eq_none (by simp [wh0]; omega), List.getElem?_eq_none (by simp; omega)]
theorem row_made {W : World} {G n : Nat} {vs : List Value} (h : W.heap[G]? = some (.cells (madeCells #[.int .i64 0] n) 3)) (e : vs = List.replicate n (.int .i64 0)) : Row W G 3 vs := by
  refine ⟨_, h, fun j v hv => ?_⟩
  rw [e] at hv
  rw [← Array.getElem?_toList, toList_madeCells_one]
  exact hv

theorem HM.setP {w : World} {B G k N : Nat} {v : Value} {xs : List Th} {pl : List Int} (h : HM w B G k N v xs pl) (j : Nat) (x : Int) : HM (w.setCell ⟨G, j, none⟩ (.int .i64 x)) B G k N v xs (pl.set j x) := by
  refine ⟨(Below.heap_setCell w ⟨G, j, none⟩ _ B h.bg).trans h.b, ownsRow_put h.h (fun y hy => Below.heap_setCell w ⟨G, j, none⟩ _ y (fun e => h.vg (by rw [hy, e]))), ?_, h.bg, h.vb, h.vg, h.n1, h.n2⟩
  rw [List.map_set]
  exact h.g.set j _

theorem hm_new (w : World) (N : Nat) (h1 : 1 ≤ N) (h2 : N ≤ 4096) : HM ((w.alloc (.cells (madeCells #[.int .i64 0] N) 3)).alloc (.cells #[.slice none 0 0, .slice (some ⟨w.heap.size, 0, none⟩) N N] 54)) (w.heap.size + 1) w.heap.size N N (.slice none 0 0) [] (wh0 N 0) := by
  refine ⟨?_, World.ownsRow_nil _ _ _ _, row_made ?_ (zero_wh N), by omega, (fun e => by cases e), (fun e => by cases e), h1, h2⟩
  · have := heap_alloc_new (w.alloc (.cells (madeCells #[.int .i64 0] N) 3)) (.cells #[.slice none 0 0, .slice (some ⟨w.heap.size, 0, none⟩) N N] 54)
    rwa [World.size_alloc] at this
  · rw [Below.heap_alloc _ _ _ (by simp), heap_alloc_new]

set_option maxHeartbeats 1000000 in
theorem new_some (N : Nat) (h1 : 1 ≤ N) (h2 : N ≤ 4096) (w : World) :
    Calls Try.prog 9 #[.int .i64 N] w fun e w' => ∃ B T, e = .returned (.pointer (some ⟨B, 0, none⟩)) ∧ HQ w' B T N [] ∧ Step [] w T w' := by
  have m1 := mk_int N (by omega)
  have hm := hm_new w N h1 h2
  have hb : But [] w ((w.alloc (.cells (madeCells #[.int .i64 0] N) 3)).alloc (.cells #[.slice none 0 0, .slice (some ⟨w.heap.size, 0, none⟩) N N] 54)) := ((But.refl [] w).alloc _).alloc _
  have a1 : (1 : Int) ≤ (N : Int) := by omega
  have a2 : (N : Int) ≤ 4096 := by omega
  go_enter Try.func9, Try.ntmps9
  go_wp2_with fail
  go_loopw [16, 4] (fun v _ wr => ∃ j : Nat, j ≤ N ∧ v = .int .i64 j ∧ HM wr (w.heap.size + 1) w.heap.size N N (.slice none 0 0) [] (wh0 N j) ∧ But [] w wr) (fun v _ _ => 4096 - (intOf v).toNat)
  case atStart => exact ⟨0, by omega, rfl, hm, hb⟩
  case round =>
    clear hm hb m1
    obtain ⟨j, hj, rfl, hm, hb⟩ := hrel
    have c1 := hm.c1
    by_cases hlt : j < N
    · obtain ⟨y, hy⟩ : ∃ y, (wh0 N j)[j]? = some y := ⟨_, List.getElem?_eq_getElem (by simpa [wh0] using hlt)⟩
      have cy := hm.x hy
      have fy := hm.g.fz j
      have hlt' : (j : Int) < (N : Int) := by omega
      go_wp2_with fail
      go_roundw
      case rel =>
        have h3 := hm.setP j (-1)
        rw [wh0_set] at h3
        exact ⟨j + 1, by omega, by simp, h3, hb.trans_new ((But.refl [w.heap.size] _).set (p := ⟨w.heap.size, j, none⟩) (by simp) _) (by simp)⟩
      case measure =>
        simp [intOf]
        omega
    · obtain rfl : N = j := by omega
      go_wp2_with fail
      go_ret
      rw [wh0_end N] at hm
      refine ⟨_, _, rfl, ⟨_, _, _, _, _, rfl, hm, Rep.nil N⟩, hb, fun x hx => .inr ?_⟩
      simp [bks, Value.ownBlock] at hx
      omega

set_option maxHeartbeats 1000000 in
theorem lives_any (w : World) :
    Calls Try.prog 8 #[] w fun e w' => e = .returned (.bool true) ∧ Below w.heap.size w w' := by
  go_enter Try.func8, Try.ntmps8
  go_wp2_with (first
    | (go_at_call 9; refine (new_some 4 (by decide) (by decide) _).mono ?_; rintro e w1 ⟨B, T1, rfl, h1, s1⟩)
    | (go_at_call 20; (with_reducible refine (put_any h1 3 5).mono ?_); rintro e w2 ⟨rfl, T2, h2, s2⟩; change HQ w2 B T2 4 [(3, 5)] at h2; clear h1)
    | (go_at_call 20; (with_reducible refine (put_any h2 1 5).mono ?_); rintro e w3 ⟨rfl, T3, h3, s3⟩; change HQ w3 B T3 4 [(1, 5), (3, 5)] at h3; clear h2)
    | (go_at_call 20; (with_reducible refine (put_any h3 2 9).mono ?_); rintro e w4 ⟨rfl, T4, h4, s4⟩; change HQ w4 B T4 4 [(1, 5), (3, 5), (2, 9)] at h4; clear h3)
    | (go_at_call 21; (with_reducible refine (pop_any h4).mono ?_); rintro e w5 ⟨rfl, T5, h5, s5⟩; change HQ w5 B T5 4 [(3, 5), (2, 9)] at h5; clear h4; simp only [fstI, fstK, fstB])
    | (go_at_call 22; (with_reducible refine (change_any h5 2 1).mono ?_); rintro e w6 ⟨rfl, T6, h6, s6⟩; change HQ w6 B T6 4 [(2, 1), (3, 5)] at h6; clear h5; rw [show askE 4 [(3, 5), (2, 9)] 2 true 4 = 0 from rfl])
    | (go_at_call 21; (with_reducible refine (pop_any h6).mono ?_); rintro e w7 ⟨rfl, T7, h7, s7⟩; simp only [fstI, fstK, fstB]))
  go_ret
  exact ⟨rfl, ((((((s1.trans s2).trans s3).trans s4).trans s5).trans s6).trans s7).below⟩

end Go.Proofs.Ytmogedfjhbfglaa
