/- Contracts of New. -/
import Derived.Test.YtmbpmcgppnanpaaLkRem
import Derived.Deep.CutRange
namespace Go.Proofs.Ytmbpmcgppnanpaa.Lk
open Go.RowKit Go.Proofs.Ytmbpmcgppnanpaa.Bs

theorem mk_int (n : Nat) (hn : n ≤ 8192) (W : World) : (Instr.makeSlice 34 (.int .i64 n) (.int .i64 n)).run Try.prog W = .ok (.slice (some ⟨W.heap.size, 0, none⟩) n n) (W.alloc (.cells (madeCells #[.int .i64 0] n) 3)) := by
  obtain ⟨i0, hi, hz0, hz1, hz2⟩ := info_parts info3
  have h := run_make (P := Try.prog) W 34 3 i0 (.int .i64 0) Try.underlying34 hi hz0 .i64 .i64 n n (by omega) (Int.le_refl _) (by rw [hz2]; omega) (by omega)
  simpa [hz1, show (Value.int .i64 0).cells = #[.int .i64 0] from rfl] using h

theorem new_none (a b : Int) (hm : (inN 4096 (a - 1) && inN 4096 (b - 1)) = false) (w : World) :
    Calls Try.prog 23 #[.int .i64 a, .int .i64 b] w fun e w' => e = .returned (.pointer none) ∧ w' = w := by
  unfold inN at hm
  simp at hm
  by_cases h1 : a < 1
  · go_enter Try.func23, Try.ntmps23
    go_wp2_with fail
    go_ret
    exact ⟨rfl, rfl⟩
  · by_cases h2 : 4096 < a
    · go_enter Try.func23, Try.ntmps23
      go_wp2_with fail
      go_ret
      exact ⟨rfl, rfl⟩
    · by_cases h3 : b < 1
      · go_enter Try.func23, Try.ntmps23
        go_wp2_with fail
        go_ret
        exact ⟨rfl, rfl⟩
      · have h4 : 4096 < b := by omega
        go_enter Try.func23, Try.ntmps23
        go_wp2_with fail
        go_ret
        exact ⟨rfl, rfl⟩

theorem set_range {α : Type} {n : Nat} {f g : Nat → α} {i : Nat} {v : α} (h1 : ∀ x, x ≠ i → g x = f x) (h2 : g i = v) : ((List.range n).map f).set i v = (List.range n).map g := by
  apply List.ext_getElem?
  intro k
  by_cases hk : k < n
  · by_cases e : k = i
    · subst e
      rw [List.getElem?_set_self (by simpa using hk)]
      simp [hk, h2]
    · rw [List.getElem?_set_ne (Ne.symm e)]
      simp [hk, h1 k e]
  · rw [List.getElem?_eq_none (by simp; omega), List.getElem?_eq_none (by simp; omega)]

/-- Rows on the way: of where, behind j things; of next and prev, behind j lists. -/
def wh0 (N j : Nat) : List Int := (List.range N).map (fun t => if t < j then -1 else 0)
def nx0 (N L j : Nat) : List Nat := (List.range (N + L)).map (fun x => if N ≤ x ∧ x < N + j then x else 0)
theorem wh0_set (N j : Nat) : (wh0 N j).set j (-1) = wh0 N (j + 1) := set_range (fun x hx => by
  by_cases h : x < j
  · rw [if_pos h, if_pos (by omega)]
  · rw [if_neg h, if_neg (by omega)]) (by rw [if_pos (by omega)])
theorem nx0_set (N L j : Nat) : (nx0 N L j).set (N + j) (N + j) = nx0 N L (j + 1) := set_range (fun x hx => by
  by_cases h : N ≤ x ∧ x < N + j
  · rw [if_pos h, if_pos (by omega)]
  · rw [if_neg h, if_neg (by omega)]) (by rw [if_pos (by omega)])
theorem wh0_end (N L : Nat) : wh0 N N = whL N (List.replicate L []) := by
  unfold wh0 whL
  apply List.map_congr_left
  intro t ht
  rw [if_pos (List.mem_range.1 ht)]
  refine (whI_none fun i q hq => ?_).symm
  obtain ⟨_, e⟩ := List.getElem?_eq_some_iff.1 hq
  simp at e
  subst e
  simp
theorem ct0_end (L : Nat) : List.replicate L 0 = ctL (List.replicate L []) := by simp [ctL]
theorem nx0_rep (N L : Nat) : Rep N L (nx0 N L L) (nx0 N L L) (List.replicate L []) := by
  refine ⟨Ok.none, by simp [nx0], by simp [nx0], fun i q hq => ?_⟩
  obtain ⟨hi, e⟩ := List.getElem?_eq_some_iff.1 hq
  simp at e hi
  subst e
  have : (nx0 N L L)[N + i]? = some (N + i) := by
    unfold nx0
    rw [List.getElem?_map, List.getElem?_range (by omega)]
    simp [hi]
  exact ⟨this, this⟩

theorem row_made {W : World} {G n : Nat} {vs : List Value} (h : W.heap[G]? = some (.cells (madeCells #[.int .i64 0] n) 3)) (e : vs = List.replicate n (.int .i64 0)) : Row W G 3 vs := by
  refine ⟨_, h, fun j v hv => ?_⟩
  rw [e] at hv
  rw [← Array.getElem?_toList, toList_madeCells_one]
  exact hv
theorem zero_nx (N L : Nat) : (nx0 N L 0).map iv = List.replicate (N + L) (.int .i64 0) := by
  apply List.ext_getElem?
  intro k
  by_cases hk : k < N + L
  · rw [List.getElem?_replicate_of_lt hk]
    simp [nx0, hk, iv]
    omega
  · rw [List.getElem?_eq_none (by simp [nx0]; omega), List.getElem?_eq_none (by simp; omega)]
theorem zero_wh (N : Nat) : (wh0 N 0).map (Value.int .i64) = List.replicate N (.int .i64 0) := by
  apply List.ext_getElem?
  intro k
  by_cases hk : k < N
  · rw [List.getElem?_replicate_of_lt hk]
    simp [wh0, hk]
  · rw [List.getElem?_eq_none (by simp [wh0]; omega), List.getElem?_eq_none (by simp; omega)]
theorem zero_ct (L : Nat) : (List.replicate L 0).map iv = List.replicate L (.int .i64 0) := by simp [iv]

theorem laid5 (w : World) (o0 o1 o2 o3 o4 : Obj) {W : World} (hW : W = (((((w.alloc o0).alloc o1).alloc o2).alloc o3).alloc o4).drew) :
    W.heap[w.heap.size]? = some o0 ∧ W.heap[w.heap.size + 1]? = some o1 ∧ W.heap[w.heap.size + 1 + 1]? = some o2 ∧ W.heap[w.heap.size + 1 + 1 + 1]? = some o3 ∧ W.heap[w.heap.size + 1 + 1 + 1 + 1]? = some o4 ∧ Below w.heap.size w W := by
  subst hW
  have e : ∀ (A : World) (k : Nat), A.drew.heap[k]? = A.heap[k]? := fun _ _ => rfl
  have l : ∀ (A : World) (o : Obj) (k : Nat) (p : Obj), A.heap[k]? = some p → (A.alloc o).heap[k]? = some p := fun A o k p h => (Below.heap_alloc _ _ _ (Array.getElem?_eq_some_iff.1 h).1).trans h
  have n : ∀ (A : World) (o : Obj) (k : Nat), A.heap.size = k → (A.alloc o).heap[k]? = some o := fun A o k h => h ▸ heap_alloc_new A o
  refine ⟨?_, ?_, ?_, ?_, ?_, ?_⟩
  · exact l _ _ _ _ (l _ _ _ _ (l _ _ _ _ (l _ _ _ _ (n w o0 _ rfl))))
  · exact l _ _ _ _ (l _ _ _ _ (l _ _ _ _ (n _ o1 _ (by simp))))
  · exact l _ _ _ _ (l _ _ _ _ (n _ o2 _ (by simp)))
  · exact l _ _ _ _ (n _ o3 _ (by simp))
  · exact n _ o4 _ (by simp)
  · exact ((((((Below.refl _ w).alloc (Nat.le_refl _) _).alloc (by simp) _).alloc (by simp; omega) _).alloc (by simp; omega) _).alloc (by simp; omega) _).drew

set_option maxHeartbeats 4000000 in
theorem new_some (N L : Nat) (h1 : 1 ≤ N) (h2 : N ≤ 4096) (h3 : 1 ≤ L) (h4 : L ≤ 4096) (w : World) :
    Calls Try.prog 23 #[.int .i64 N, .int .i64 L] w fun e w' => ∃ P : Pl, e = .returned (.pointer (some ⟨P.B, 0, none⟩)) ∧ LQ w' P N L (List.replicate L []) ∧ (∀ k ∈ [P.B, P.n, P.p, P.w, P.c], w.heap.size ≤ k) ∧ Below w.heap.size w w' := by
  have m1 := mk_int (N + L) (by omega)
  have m2 := mk_int N (by omega)
  have m3 := mk_int L (by omega)
  rw [Int.natCast_add] at m1
  have a1 : (1 : Int) ≤ (N : Int) := by omega
  have a2 : (N : Int) ≤ 4096 := by omega
  have a3 : (1 : Int) ≤ (L : Int) := by omega
  have a4 : (L : Int) ≤ 4096 := by omega
  go_enter Try.func23, Try.ntmps23
  go_upto_region 3 with fail
  go_cut [5] from 22 to 35 (fun s5 wx => ∃ P : Pl, s5 = .pointer (some ⟨P.B, 0, none⟩) ∧ LM wx P N L (nx0 N L 0) (nx0 N L 0) (wh0 N 0) (List.replicate L 0) ∧ (∀ k ∈ [P.B, P.n, P.p, P.w, P.c], w.heap.size ≤ k) ∧ Below w.heap.size w wx)
  case first =>
    go_region
    all_goals
      go_wp2_with fail
      go_meet
      case rel =>
        generalize hW : World.drew _ = W
        obtain ⟨z0, z1, z2, z3, z4, hb⟩ := laid5 w _ _ _ _ _ hW.symm
        clear hW m1 m2 m3
        refine ⟨⟨_, _, _, _, _, N + L, N + L, N, L⟩, rfl, ⟨z4, ?_, ?_, ?_, ?_, (by simp <;> omega), by simp [nx0], by simp [nx0], by simp [wh0], by simp, h1, h2, h3, h4⟩, (by simp <;> omega), hb⟩
        · first | exact row_made z0 (zero_nx N L) | exact row_made z1 (zero_nx N L) | exact row_made z2 (zero_nx N L) | exact row_made z3 (zero_nx N L)
        · first | exact row_made z0 (zero_nx N L) | exact row_made z1 (zero_nx N L) | exact row_made z2 (zero_nx N L) | exact row_made z3 (zero_nx N L)
        · first | exact row_made z0 (zero_wh N) | exact row_made z1 (zero_wh N) | exact row_made z2 (zero_wh N) | exact row_made z3 (zero_wh N)
        · first | exact row_made z0 (zero_ct L) | exact row_made z1 (zero_ct L) | exact row_made z2 (zero_ct L) | exact row_made z3 (zero_ct L)
  case rest =>
    obtain ⟨P, rfl, hm, hk, hb⟩ := hcut
    clear m1 m2 m3
    have hk' : ∀ x ∈ P.S, w.heap.size ≤ x := fun x hx => hk x (by simp [Pl.S] at hx; simp; omega)
    go_wp2_with fail
    go_loopw [37, 6] (fun v _ wr => ∃ j : Nat, j ≤ N ∧ v = .int .i64 j ∧ LM wr P N L (nx0 N L 0) (nx0 N L 0) (wh0 N j) (List.replicate L 0) ∧ Below w.heap.size w wr) (fun v _ _ => 4096 - (intOf v).toNat)
    case atStart => exact ⟨0, by omega, rfl, hm, hb⟩
    case round =>
      obtain ⟨j, hj, rfl, hm, hb⟩ := hrel
      by_cases hlt : j < N
      · have c2 := hm.c2
        obtain ⟨y, hy⟩ : ∃ y, (wh0 N j)[j]? = some y := ⟨_, List.getElem?_eq_getElem (by simpa [wh0] using hlt)⟩
        have cy := hm.xw hy
        have fy := hm.rw.fz j
        have hlt' : (j : Int) < (N : Int) := by omega
        go_wp2_with fail
        go_roundw
        case rel =>
          refine ⟨j + 1, by omega, by simp, ?_, hb.trans (((But.refl P.S _).set (p := ⟨P.w, j, none⟩) (by simp [Pl.S]) _).below hb.size hk')⟩
          have := hm.setW j (-1)
          rwa [wh0_set] at this
        case measure =>
          simp [intOf]
          omega
      · obtain rfl : N = j := by omega
        go_wp2_with fail
        go_loopw [48, 7] (fun v _ wr => ∃ j : Nat, j ≤ L ∧ v = .int .i64 j ∧ LM wr P N L (nx0 N L j) (nx0 N L j) (wh0 N N) (List.replicate L 0) ∧ Below w.heap.size w wr) (fun v _ _ => 4096 - (intOf v).toNat)
        case atStart => exact ⟨0, by omega, rfl, hm, hb⟩
        case round =>
          obtain ⟨j, hj, rfl, hm, hb⟩ := hrel
          by_cases hlt : j < L
          · have hlt' : (j : Int) < (L : Int) := by omega
            go_wp2_with (first
              | (go_at_call 49; refine (end_any hm j (by omega)).mono ?_; rintro e w' ⟨rfl, hw⟩; subst w')
              | (go_at_call 48; refine (chain_any hm (N + j) (N + j) (by omega) (by omega)).mono ?_; rintro e w2 ⟨rfl, hm2, b2⟩))
            go_roundw
            case rel =>
              rw [nx0_set] at hm2
              exact ⟨j + 1, by omega, by simp, hm2, hb.trans (b2.below hb.size hk')⟩
            case measure =>
              simp [intOf]
              omega
          · obtain rfl : L = j := by omega
            go_wp2_with fail
            go_ret
            rw [wh0_end N L, ct0_end L] at hm
            exact ⟨P, rfl, ⟨_, _, hm, nx0_rep N L⟩, hk, hb⟩

end Go.Proofs.Ytmbpmcgppnanpaa.Lk
