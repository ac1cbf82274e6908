/- The iterator of All: its contract for every loop body that keeps the row that it made. -/
import Derived.RangeFuncNested
import Derived.RangeFuncBound
import Derived.RangeFuncCalls
import Derived.RangeFuncLeaves
import Derived.Shelf.Abstract
import Derived.Shelf.RegionOpen
import Derived.WalkKit
import Derived.OwnWalkIn
import Derived.TacticsInMore
import Derived.LoopNIn
import Derived.LoopIn
import Derived.Test.YtmbpmcgppnanpaaLkNow
namespace Go.Proofs.Ytmbpmcgppnanpaa.Lk
open Go.RowKit Go.Shelf Go.Proofs.Ytmbpmcgppnanpaa.Bs
attribute [local go_sem] Oper.semAt_some

/-- What going over list i of v begins with. -/
structure Src (w : World) (v : Value) (i : Int) (q : List Nat) : Prop where
  now : ∀ W, Below w.heap.size w W → Calls Try.prog 59 #[v, .int .i64 i] W fun e w' => ∃ u, e = .returned u ∧ NowR w' W.heap.size u q ∧ But [] W w'
  le : q.length ≤ 4096

theorem LQ.src {w : World} {P : Pl} {N L : Nat} {ls : List (List Nat)} (h : LQ w P N L ls) (i : Int) : Src w (.pointer (some ⟨P.B, 0, none⟩)) i (lsI ls i) := by
  refine ⟨fun W hW => now_any (h.below hW) i, ?_⟩
  cases hi : inN L i with
  | false => rw [lsI_out h.ok hi]; simp
  | true =>
    obtain ⟨k, rfl, hk⟩ := inN_out hi
    exact Nat.le_trans (h.ok.short (h.ok.at hk)) h.sizes.2.1
theorem Src.later {w w' : World} {v : Value} {i : Int} {q : List Nat} (h : Src w v i q) (hb : Below w.heap.size w w') : Src w' v i q :=
  ⟨fun W hW => h.now W (hb.trans (hW.mono hb.size)), h.le⟩

theorem NowR.shape {α : Type} {val : α → Nat} {qa : List α} {W : World} {base : Nat} {u : Value} (h : NowR W base u (qa.map val)) : ∃ a c T, u = .slice a qa.length c ∧ (qa = [] ∨ (a = some ⟨T, 0, none⟩ ∧ base ≤ T ∧ Row W T 3 ((qa.map val).map iv))) := by
  rcases h with ⟨e1, rfl⟩ | ⟨T, h1, rfl, h2⟩
  · have e : qa = [] := by simpa using e1
    subst e
    exact ⟨none, 0, 0, rfl, .inl rfl⟩
  · exact ⟨_, _, T, by rw [List.length_map], .inr ⟨rfl, h1, h2⟩⟩

set_option maxRecDepth 100000 in
set_option maxHeartbeats 1000000 in
theorem all1_in {α : Type} (val : α → Nat) (n : Nat) (hn : 1 ≤ n) (l Bl Bi : Nat) (v : Value) (i : Int) (qa : List α) (w : World) (hs : Src w v i (qa.map val)) (hc : w.cell? ⟨Bl, 0, none⟩ = some v) (hci : w.cell? ⟨Bi, 0, none⟩ = some (.int .i64 i))
    (Kp : World → World → Prop) (Safe : World → Nat → Prop) (hf0 : ∀ W T, Below w.heap.size w W → w.heap.size ≤ T → Safe W T) (hf1 : ∀ A B T vs, Kp A B → Safe A T → Row A T 3 vs → Row B T 3 vs ∧ Safe B T)
    (J Jx : List α → World → Prop) (W : World) (hW : Below w.heap.size w W)
    (aJ : AbidesFrom W.heap.size J)
    (hY : ∀ pre x W, J pre W → pre.length < qa.length → YieldAt Fence.wide (n - 1) Try.prog l #[.int .i64 (val x : Nat)] W fun e W' =>
      (e = .returned (.bool true) ∧ J (pre ++ [x]) W' ∧ Kp W W') ∨ (e = .returned (.bool false) ∧ Jx (pre ++ [x]) W'))
    (h0 : J [] W) :
    CallsIn Fence.wide n Try.prog 58 #[.func (.yield l) #[] #[], .pointer (some ⟨Bl, 0, none⟩), .pointer (some ⟨Bi, 0, none⟩)] W fun e W' => (∃ v, e = .returned v) ∧
      ((∃ ys, ys = qa ∧ J ys W') ∨ (∃ pre, pre <+: qa ∧ Jx pre W')) := by
  have hle := hs.le
  rw [List.length_map] at hle
  have c0 := cell_on hW hc
  have c1 := cell_on hW hci
  have HN := hs.now W hW
  refine callsIn_of_wp Try.func58 rfl trivial ?_ rfl
  simp only [Try.ntmps58, List.size_toArray, List.length_cons, List.length_nil, Nat.reduceAdd, Nat.reduceSub, Array.replicate_succ, Array.replicate_zero, List.push_toArray, List.append_toArray, List.nil_append, List.cons_append]
  gi_wp2_with (first
    | (refine ⟨trivial, ?_⟩; gi_at_call 59; refine (callsIn_wide.2 HN).mono ?_; rintro e w2 ⟨u, rfl, hr2, hb2⟩; obtain ⟨ua, uc, T, rfl, hr3⟩ := hr2.shape))
  have hJ2 : J [] w2 := by
    refine aJ [] W w2 none h0 ⟨hb2.os, hb2.tape, hb2.output, hb2.size, fun k hk _ => hb2.block k hk (by simp)⟩ (fun r e => by cases e)
  have hT2 : qa = [] ∨ (ua = some ⟨T, 0, none⟩ ∧ Row w2 T 3 ((qa.map val).map iv) ∧ Safe w2 T) := by
    rcases hr3 with h | ⟨h1, h2, h3⟩
    · exact .inl h
    · exact .inr ⟨h1, h3, hf0 w2 T (hW.trans (hb2.to_below.mono hW.size)) (Nat.le_trans hW.size h2)⟩
  clear HN c0 c1 hs hc hci h0 aJ hr2 hr3 hb2 hf0
  gi_loopw [10, 5] (fun p _ wr => ∃ j : Nat, j ≤ qa.length ∧ p = .int .i64 j ∧ J (qa.take j) wr ∧ (qa = [] ∨ (ua = some ⟨T, 0, none⟩ ∧ Row wr T 3 ((qa.map val).map iv) ∧ Safe wr T))) (fun p _ _ => 4096 - (intOf p).toNat)
  case atStart => exact ⟨0, by omega, rfl, hJ2, hT2⟩
  case round =>
    obtain ⟨j, hj, rfl, hJ, hT⟩ := hrel
    by_cases hjq : j < qa.length
    · obtain ⟨rfl, hr, hsf⟩ : ua = some ⟨T, 0, none⟩ ∧ Row wr T 3 ((qa.map val).map iv) ∧ Safe wr T := by
        rcases hT with rfl | h
        · simp at hjq
        · exact h
      have hx : qa[j]? = some qa[j] := by simp
      have ht : qa.take j ++ [qa[j]] = qa.take (j + 1) := by rw [List.take_add_one, hx]; rfl
      have hcx : wr.cell? ⟨T, j, none⟩ = some (.int .i64 (val qa[j] : Nat)) := hr.cell (by rw [List.getElem?_map, List.getElem?_map, hx]; rfl)
      obtain ⟨fn, tmps, assign, body, hy, hR⟩ := hY (qa.take j) qa[j] _ hJ (by rw [List.length_take]; omega)
      rw [ht] at hR
      generalize qa[j] = x at hcx hy hR
      generalize val x = z at hcx hy hR
      clear hx ht hT hT2 hJ2
      have h3 : (j : Int) < (qa.length : Int) := by omega
      gi_wp2
      refine hR.mono ?_
      rintro e W3 (⟨rfl, hJ3, hk3⟩ | ⟨rfl, hJx3⟩)
      · obtain ⟨hr3, ho3⟩ := hf1 _ _ T _ hk3 hsf hr
        gi_wp2
        go_roundw
        case rel => exact ⟨j + 1, by omega, by simp, hJ3, .inr ⟨trivial, hr3, ho3⟩⟩
        case measure =>
          simp [intOf]
          omega
      · gi_wp2
        refine bodyPost_ret (results_none rfl _ _ _) rfl ?_
        exact ⟨⟨_, rfl⟩, .inr ⟨_, List.take_prefix _ _, hJx3⟩⟩
    · obtain rfl : j = qa.length := by omega
      gi_wp2
      go_end0
      exact ⟨⟨_, rfl⟩, .inl ⟨qa, rfl, by simpa using hJ⟩⟩

theorem all_any (p : Option Addr) (i : Int) (w : World) :
    Calls Try.prog 43 #[.pointer p, .int .i64 i] w fun e w' => e = .returned (.func (.func 58) #[] #[.pointer (some ⟨w.heap.size, 0, none⟩), .pointer (some ⟨w.heap.size + 1, 0, none⟩)]) ∧ w' = (w.alloc (.cells #[.pointer p] 50)).alloc (.cells #[.int .i64 i] 3) := by
  go_enter Try.func43, Try.ntmps43
  go_wp2_with fail
  go_ret
  exact ⟨rfl, rfl⟩

theorem all_stops {α : Type} (val : α → Nat) (n : Nat) (hn : 1 ≤ n) (Bl Bi : Nat) (v : Value) (i : Int) (qa : List α) (w : World) (hs : Src w v i (qa.map val)) (hc : w.cell? ⟨Bl, 0, none⟩ = some v) (hci : w.cell? ⟨Bi, 0, none⟩ = some (.int .i64 i))
    (Kp : World → World → Prop) (Safe : World → Nat → Prop) (hf0 : ∀ W T, Below w.heap.size w W → w.heap.size ≤ T → Safe W T) (hf1 : ∀ A B T vs, Kp A B → Safe A T → Row A T 3 vs → Row B T 3 vs ∧ Safe B T) :
    SeqStopsK Fence.wide n Try.prog 58 #[.pointer (some ⟨Bl, 0, none⟩), .pointer (some ⟨Bi, 0, none⟩)] (fun x : α => #[Value.int .i64 (val x : Nat)]) Kp (fun ys => ys = qa) (fun pre => pre <+: qa) qa.length w := fun l J Jx W hW aJ _ hY h0 =>
  all1_in val n hn l Bl Bi v i qa w hs hc hci Kp Safe hf0 hf1 J Jx W hW aJ hY h0

end Go.Proofs.Ytmbpmcgppnanpaa.Lk
