/- The iterator of mask's runs: its contract. -/
import Derived.Test.YtgoedlgilgnphaaDoorIter
import Derived.Test.YtgoedlgilgnphaaDoorRunM
namespace Go.Proofs.YtgoedlgilgnphaaDoor
open Go.RowKit Go.Shelf
attribute [local go_sem] Oper.semAt_some

theorem endN_lt (m x : Nat) : endN m x < 64 := by
  unfold endN
  cases hl : aboveL (x : Int) (mem (18446744073709551615 - m)) with
  | nil => decide
  | cons g l =>
    have hg : g ∈ aboveL (x : Int) (mem (18446744073709551615 - m)) := by rw [hl]; simp
    unfold aboveL at hg
    have := mem_lt64 g (List.mem_filter.1 hg).1
    simp only
    omega

/-- A run: its first and its last. -/
abbrev R64 := { p : Nat × Nat // p.1 < 64 ∧ p.2 < 64 }
theorem starts_lt {m : Nat} : ∀ x ∈ starts m, x < 64 := fun x hx => mem_lt64 x (mem_starts.1 hx).1
def runsS (m : Nat) : List R64 := (starts m).pmap (fun x h => ⟨(x, endN m x), h, endN_lt m x⟩) starts_lt
def firsts (l : List R64) : List Nat := l.map (·.1.1)
theorem firsts_runsS (m : Nat) : firsts (runsS m) = starts m := by
  unfold firsts runsS
  rw [List.map_pmap]
  simp
theorem runsS_end {m : Nat} {p : R64} (h : p ∈ runsS m) : p.1.2 = endN m p.1.1 := by
  unfold runsS at h
  rw [List.mem_pmap] at h
  obtain ⟨x, hx, rfl⟩ := h
  rfl

theorem mes_run {m : Nat} {pre rest : List R64} {x : R64} (hx : runsS m = pre ++ x :: rest) :
    mes (.int .i64 (headI (firsts rest))) < mes (.int .i64 (x.1.1 : Int)) := by
  have hs := starts_sorted m
  have e : starts m = firsts pre ++ x.1.1 :: firsts rest := by rw [← firsts_runsS, hx]; simp [firsts]
  rw [e, List.pairwise_append] at hs
  have hx1 := x.2.1
  cases rest with
  | nil =>
    simp only [firsts, List.map_nil, headI, mes]
    rw [if_pos (by omega), if_neg (by omega)]
    omega
  | cons y r =>
    have h1 := (List.pairwise_cons.1 hs.2.1).1 y.1.1 (by simp [firsts])
    have h2 := y.2
    simp only [firsts, List.map_cons, headI, mes]
    rw [if_neg (by omega), if_neg (by omega)]
    omega

set_option maxRecDepth 100000 in
set_option maxHeartbeats 1000000 in
theorem runs1_in (n : Nat) (hn : 1 ≤ n) (l Bn n₀ m : Nat) (hm : m < 18446744073709551616) (hB0 : 0 < n₀) (J Jx : List R64 → World → Prop)
    (hY : ∀ pre x W, J pre W → pre.length < (runsS m).length → YieldAt Fence.wide (n - 1) Tryd.prog l #[.int .i64 x.1.1, .int .i64 x.1.2] W fun e W' =>
      (e = .returned (.bool true) ∧ J (pre ++ [x]) W' ∧ KeepB n₀ Bn W W') ∨ (e = .returned (.bool false) ∧ Jx (pre ++ [x]) W'))
    (W : World) (hc : W.cell? ⟨Bn, 0, none⟩ = some (.int .u64 m)) (hT : Tab W) (h0 : J [] W) :
    CallsIn Fence.wide n Tryd.prog 53 #[.func (.yield l) #[] #[], .pointer (some ⟨Bn, 0, none⟩)] W fun e W' => (∃ v, e = .returned v) ∧
      ((∃ ys, ys = runsS m ∧ J ys W') ∨ (∃ pre, pre <+: runsS m ∧ Jx pre W')) := by
  refine callsIn_of_wp Tryd.func53 rfl trivial ?_ rfl
  simp only [Tryd.ntmps53, List.size_toArray, List.length_cons, List.length_nil, Nat.reduceAdd, Nat.reduceSub, Array.replicate_succ, Array.replicate_zero, List.push_toArray, List.append_toArray, List.nil_append, List.cons_append]
  gi_wp2_with (refine ⟨trivial, ?_⟩; gi_at_call 17; refine (callsIn_wide.2 (first_any _ m rfl hm _ hT)).mono ?_; rintro e w' ⟨rfl, rfl⟩; rw [first_start hm])
  gi_loopw [3] (fun p wr => ∃ (pre rest : List R64), p = .int .i64 (headI (firsts rest)) ∧ runsS m = pre ++ rest ∧ wr.cell? ⟨Bn, 0, none⟩ = some (.int .u64 m) ∧ Tab wr ∧ J pre wr)
    (fun p _ => mes p)
  case atStart =>
    exact ⟨[], runsS m, by rw [firsts_runsS], rfl, hc, hT, h0⟩
  case round =>
    obtain ⟨pre, rest, rfl, hx, hcr, hTr, hJs⟩ := hrel
    cases rest with
    | nil =>
      rw [show headI (firsts ([] : List R64)) = -1 from rfl]
      gi_wp2
      go_end0
      exact ⟨⟨_, rfl⟩, .inl ⟨pre, by simp [hx], hJs⟩⟩
    | cons x rest =>
      have hend : x.1.2 = endN m x.1.1 := runsS_end (m := m) (by rw [hx]; simp)
      have hst : starts m = firsts pre ++ x.1.1 :: firsts rest := by rw [← firsts_runsS, hx]; simp [firsts]
      have hnext := next_start hm hst
      have hmes := mes_run hx
      obtain ⟨⟨x, y⟩, hx64, hy64⟩ := x
      dsimp only at hend hnext hx64 hy64 hmes
      rw [← hend] at hnext
      have hend' := hend.symm
      clear hend hst
      have hpos : (0 : Int) ≤ (x : Int) := by omega
      obtain ⟨fn, tmps, assign, body, hy, hR⟩ := hY pre ⟨(x, y), hx64, hy64⟩ _ hJs (by rw [hx]; simp)
      dsimp only at hy
      rw [show headI (firsts (⟨(x, y), hx64, hy64⟩ :: rest)) = (x : Int) from rfl]
      gi_wp2_with (refine ⟨trivial, ?_⟩; gi_at_call 54; refine (callsIn_wide.2 (end_any m x hm hx64 _ hTr)).mono ?_; rintro e w' ⟨rfl, rfl⟩; rw [hend'])
      refine hR.mono ?_
      rintro e W3 (⟨rfl, hJ3, hk3⟩ | ⟨rfl, hJx3⟩)
      · have hc3 : W3.cell? ⟨Bn, 0, none⟩ = some (.int .u64 m) := (cell_of_heap hk3.2).trans hcr
        have hT3 : Tab W3 := below_tab hTr hB0 hk3.1
        gi_wp2_with (refine ⟨trivial, ?_⟩; gi_at_call 21; refine (callsIn_wide.2 (next_any m y hm _ hT3 (by omega) (by omega))).mono ?_; rintro e w' ⟨rfl, rfl⟩)
        go_roundw
        case rel => exact ⟨pre ++ [⟨(x, y), hx64, hy64⟩], rest, rfl, by simp [hx], hc3, hT3, hJ3⟩
        case measure =>
          exact hmes
      · gi_wp2
        refine bodyPost_ret (results_none rfl _ _ _) rfl ?_
        exact ⟨⟨_, rfl⟩, .inr ⟨pre ++ [⟨(x, y), hx64, hy64⟩], ⟨rest, by simp [hx]⟩, hJx3⟩⟩

theorem runs_any (m : Nat) (w : World) :
    Calls Tryd.prog 45 #[.int .u64 m] w fun e w' => e = .returned (.func (.func 53) #[] #[.pointer (some ⟨w.heap.size, 0, none⟩)]) ∧ w' = w.alloc (.cells #[.int .u64 m] 23) := by
  go_enter Tryd.func45, Tryd.ntmps45
  go_wp2_with fail
  go_ret
  exact ⟨rfl, rfl⟩

theorem runs_stops (n : Nat) (hn : 1 ≤ n) (Bn n₀ m : Nat) (hm : m < 18446744073709551616) (w : World) (hB0 : 0 < n₀) (hBn : Bn < w.heap.size)
    (hc : w.cell? ⟨Bn, 0, none⟩ = some (.int .u64 m)) (hT : Tab w) :
    SeqStopsK Fence.wide n Tryd.prog 53 #[.pointer (some ⟨Bn, 0, none⟩)] (fun x : R64 => #[Value.int .i64 x.1.1, Value.int .i64 x.1.2]) (KeepB n₀ Bn) (fun ys => ys = runsS m) (fun pre => pre <+: runsS m) (runsS m).length w := fun l J Jx W hW _ _ hY h0 =>
  runs1_in n hn l Bn n₀ m hm hB0 J Jx hY W ((hW.cell (p := ⟨Bn, 0, none⟩) hBn).trans hc) (hT.below hW (Nat.le_refl _)) h0

end Go.Proofs.YtgoedlgilgnphaaDoor
