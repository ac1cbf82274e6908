/- The iterator of mask's All: its contract for every loop body that keeps what lay below. -/
import Derived.RangeFuncNested
import Derived.RangeFuncBound
import Derived.RangeFuncCalls
import Derived.RangeFuncLeaves
import Derived.Shelf.Abstract
import Derived.Shelf.RegionOpen
import Derived.WalkKit
import Derived.OwnWalkIn
import Derived.TacticsInMore
import Derived.LoopNIn
import Derived.LoopIn
import Derived.Test.YtgoedlgilgnphaaDoorFnsB
namespace Go.Proofs.YtgoedlgilgnphaaDoor
open Go.RowKit Go.Shelf
attribute [local go_sem] Oper.semAt_some

/-- A number that can be a member. -/
abbrev C64 := { x : Nat // x < 64 }
/-- The members, each with its bound. -/
def memS (m : Nat) : List C64 := (mem m).pmap (fun x h => ⟨x, h⟩) mem_lt64
def vals (l : List C64) : List Nat := l.map (·.1)
theorem vals_memS (m : Nat) : vals (memS m) = mem m := by
  unfold vals memS
  rw [List.map_pmap]
  simp

/-- For a loop's measure. -/
def mes : Value → Nat
  | .int _ v => if v < 0 then 0 else (65 - v).toNat
  | _ => 0

/-- What lay below n₀, and one block more, lie as they lay. -/
def KeepB (n₀ Bn : Nat) (W W' : World) : Prop := Below n₀ W W' ∧ W'.heap[Bn]? = W.heap[Bn]?

theorem cell_of_heap {W W' : World} {b o : Nat} (h : W'.heap[b]? = W.heap[b]?) : W'.cell? ⟨b, o, none⟩ = W.cell? ⟨b, o, none⟩ := by
  simp [World.cell?, h]

theorem keepB_t {n₀ Bn : Nat} {A B C : World} (h : KeepB n₀ Bn A B) (h2 : KeepB n₀ Bn B C) : KeepB n₀ Bn A C := ⟨h.1.trans h2.1, h2.2.trans h.2⟩

theorem heap_putObj_ne (W : World) (l : Nat) (o' : Obj) {k : Nat} (h : k ≠ l) : (W.putObj l o').heap[k]? = W.heap[k]? := by
  simp [World.putObj, Ne.symm h]

theorem keepB_b {n₀ Bn : Nat} {w : World} (hn : n₀ ≤ w.heap.size) (hB : Bn < w.heap.size) (W : World) (l : Nat) (o o' : Obj) (hl : w.heap.size ≤ l) (h1 : W.heap[l]? = some o) (h2 : o.isCells = false) (h3 : o.isWalk = false) : KeepB n₀ Bn W (W.putObj l o') :=
  ⟨belowK_b hn W l o o' hl h1 h2 h3, heap_putObj_ne W l o' (by omega)⟩

theorem below_tab {n : Nat} {w w' : World} (h : Tab w) (hn : 0 < n) (hb : Below n w w') : Tab w' :=
  ⟨Nat.lt_of_lt_of_le h.1 hb.size, fun j hj => (hb.cell (p := ⟨0, j, none⟩) hn).trans (h.2 j hj)⟩

theorem next_rest {m : Nat} {pre rest : List C64} {x : C64} (h : memS m = pre ++ x :: rest) : aboveL (x.1 : Int) (mem m) = vals rest := by
  have e : mem m = vals pre ++ x.1 :: vals rest := by rw [← vals_memS, h]; simp [vals]
  have := filter_pre (mem_sorted m) e
  rw [← this]
  unfold aboveL
  congr 1
  funext y
  rw [decide_eq_decide]
  omega

theorem mes_next {m : Nat} {pre rest : List C64} {x : Nat} {h : x < 64} (hx : memS m = pre ++ ⟨x, h⟩ :: rest) :
    mes (.int .i64 (headI (vals rest))) < mes (.int .i64 (x : Int)) := by
  have hs := mem_sorted m
  have e : mem m = vals pre ++ x :: vals rest := by rw [← vals_memS, hx]; simp [vals]
  rw [e, List.pairwise_append] at hs
  cases rest with
  | nil =>
    simp only [vals, List.map_nil, headI, mes]
    rw [if_pos (by omega), if_neg (by omega)]
    omega
  | cons y r =>
    have h1 := (List.pairwise_cons.1 hs.2.1).1 y.1 (by simp [vals])
    have h2 := y.2
    simp only [vals, List.map_cons, headI, mes]
    rw [if_neg (by omega), if_neg (by omega)]
    omega

set_option maxRecDepth 100000 in
set_option maxHeartbeats 1000000 in
theorem all1_in (n : Nat) (hn : 1 ≤ n) (l Bn n₀ m : Nat) (hm : m < 18446744073709551616) (hB0 : 0 < n₀) (J Jx : List C64 → World → Prop)
    (hY : ∀ pre x W, J pre W → pre.length < (memS m).length → YieldAt Fence.wide (n - 1) Tryd.prog l #[.int .i64 x.1] W fun e W' =>
      (e = .returned (.bool true) ∧ J (pre ++ [x]) W' ∧ KeepB n₀ Bn W W') ∨ (e = .returned (.bool false) ∧ Jx (pre ++ [x]) W'))
    (W : World) (hc : W.cell? ⟨Bn, 0, none⟩ = some (.int .u64 m)) (hT : Tab W) (h0 : J [] W) :
    CallsIn Fence.wide n Tryd.prog 49 #[.func (.yield l) #[] #[], .pointer (some ⟨Bn, 0, none⟩)] W fun e W' => (∃ v, e = .returned v) ∧
      ((∃ ys, ys = memS m ∧ J ys W') ∨ (∃ pre, pre <+: memS m ∧ Jx pre W')) := by
  refine callsIn_of_wp Tryd.func49 rfl trivial ?_ rfl
  simp only [Tryd.ntmps49, List.size_toArray, List.length_cons, List.length_nil, Nat.reduceAdd, Nat.reduceSub, Array.replicate_succ, Array.replicate_zero, List.push_toArray, List.append_toArray, List.nil_append, List.cons_append]
  gi_wp2_with (refine ⟨trivial, ?_⟩; gi_at_call 17; refine (callsIn_wide.2 (first_any _ m rfl hm _ hT)).mono ?_; rintro e w' ⟨rfl, rfl⟩)
  gi_loopw [3] (fun p wr => ∃ (pre rest : List C64), p = .int .i64 (headI (vals rest)) ∧ memS m = pre ++ rest ∧ wr.cell? ⟨Bn, 0, none⟩ = some (.int .u64 m) ∧ Tab wr ∧ J pre wr)
    (fun p _ => mes p)
  case atStart =>
    exact ⟨[], memS m, by rw [vals_memS], rfl, hc, hT, h0⟩
  case round =>
    obtain ⟨pre, rest, rfl, hx, hcr, hTr, hJs⟩ := hrel
    cases rest with
    | nil =>
      rw [show headI (vals ([] : List C64)) = -1 from rfl]
      gi_wp2
      go_end0
      exact ⟨⟨_, rfl⟩, .inl ⟨pre, by simp [hx], hJs⟩⟩
    | cons x rest =>
      obtain ⟨x, hx64⟩ := x
      have hnext := next_rest hx
      have hpos : (0 : Int) ≤ (x : Int) := by omega
      obtain ⟨fn, tmps, assign, body, hy, hR⟩ := hY pre ⟨x, hx64⟩ _ hJs (by rw [hx]; simp)
      dsimp only at hy hnext
      rw [show headI (vals (⟨x, hx64⟩ :: rest)) = (x : Int) from rfl]
      gi_wp2
      refine hR.mono ?_
      rintro e W3 (⟨rfl, hJ3, hk3⟩ | ⟨rfl, hJx3⟩)
      · have hc3 : W3.cell? ⟨Bn, 0, none⟩ = some (.int .u64 m) := (cell_of_heap hk3.2).trans hcr
        have hT3 : Tab W3 := below_tab hTr hB0 hk3.1
        gi_wp2_with (refine ⟨trivial, ?_⟩; gi_at_call 21; refine (callsIn_wide.2 (next_any m x hm _ hT3 (by omega) (by omega))).mono ?_; rintro e w' ⟨rfl, rfl⟩)
        go_roundw
        case rel => exact ⟨pre ++ [⟨x, hx64⟩], rest, rfl, by simp [hx], hc3, hT3, hJ3⟩
        case measure =>
          exact mes_next hx
      · gi_wp2
        refine bodyPost_ret (results_none rfl _ _ _) rfl ?_
        exact ⟨⟨_, rfl⟩, .inr ⟨pre ++ [⟨x, hx64⟩], ⟨rest, by simp [hx]⟩, hJx3⟩⟩

theorem all_any (m : Nat) (w : World) :
    Calls Tryd.prog 37 #[.int .u64 m] w fun e w' => e = .returned (.func (.func 49) #[] #[.pointer (some ⟨w.heap.size, 0, none⟩)]) ∧ w' = w.alloc (.cells #[.int .u64 m] 23) := by
  go_enter Tryd.func37, Tryd.ntmps37
  go_wp2_with fail
  go_ret
  exact ⟨rfl, rfl⟩

theorem all_stops (n : Nat) (hn : 1 ≤ n) (Bn n₀ m : Nat) (hm : m < 18446744073709551616) (w : World) (hB0 : 0 < n₀) (hBn : Bn < w.heap.size)
    (hc : w.cell? ⟨Bn, 0, none⟩ = some (.int .u64 m)) (hT : Tab w) :
    SeqStopsK Fence.wide n Tryd.prog 49 #[.pointer (some ⟨Bn, 0, none⟩)] (fun x : C64 => #[Value.int .i64 x.1]) (KeepB n₀ Bn) (fun ys => ys = memS m) (fun pre => pre <+: memS m) (memS m).length w := fun l J Jx W hW _ _ hY h0 =>
  all1_in n hn l Bn n₀ m hm hB0 J Jx hY W ((hW.cell (p := ⟨Bn, 0, none⟩) hBn).trans hc) (hT.below hW (Nat.le_refl _)) h0

end Go.Proofs.YtgoedlgilgnphaaDoor
