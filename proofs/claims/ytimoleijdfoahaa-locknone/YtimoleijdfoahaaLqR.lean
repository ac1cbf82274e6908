/- slices.Repeat of a row of one int. -/
import Derived.Test.YtimoleijdfoahaaLqM
import Derived.Test.YtimoleijdfoahaaLkNew
import Derived.Laws.CopyOwn
import Derived.WideShapes
import Derived.WalkSpells
namespace Go.Proofs.Ytimoleijdfoahaa.Lq
open Go Go.RowKit Go.Proofs.Ytimoleijdfoahaa.Bs

theorem ret_pair {k l : IntKind} {a b c d : Int} (h : a = b) (h' : c = d) : Ending.returned (.tuple #[.int k a, .int l c]) = .returned (.tuple #[.int k b, .int l d]) := by rw [h, h']
theorem low_any (n : Nat) (h : n ≤ 64) : bits BinOp.and .u64 (n : Int) 4294967295 = (n : Int) := by
  have : ∀ m : Fin 65, bits BinOp.and .u64 ((m : Nat) : Int) 4294967295 = ((m : Nat) : Int) := by decide
  exact this ⟨n, by omega⟩
set_option maxHeartbeats 1000000 in
theorem mul64_any (n : Nat) (h0 : 1 ≤ n) (h : n ≤ 64) (w : World) :
    Calls Try.prog 81 #[.int .u64 1, .int .u64 n] w fun e w' => e = .returned (.tuple #[.int .u64 0, .int .u64 n]) ∧ w' = w := by
  have h1 := low_any 1 (by omega)
  have hn := low_any n h
  go_enter Try.func81, Try.ntmps81
  go_wp2
  go_ret2
  refine ⟨ret_pair ?_ ?_, rfl⟩
  · simp only [Int.natCast_one] at h1
    have e0 : IntKind.u64.wrap (IntKind.u64.wrap (1 * (n : Int)) / 4294967296) = 0 := by
      simp only [IntKind.wrap_u64]
      omega
    have h2 := low_any 0 (by omega)
    simp only [Int.natCast_zero] at h2
    rw [h1, e0, h2]
    simp only [IntKind.wrap_u64]
    omega
  · rfl
theorem mul_any (n : Nat) (h0 : 1 ≤ n) (h : n ≤ 64) (w : World) :
    Calls Try.prog 53 #[.int .u64 1, .int .u64 n] w fun e w' => e = .returned (.tuple #[.int .u64 0, .int .u64 n]) ∧ w' = w := by
  have hM := mul64_any n h0 h w
  go_enter Try.func53, Try.ntmps53
  go_wp2_with (first | (go_at_call 81; (with_reducible refine hM.mono ?_); rintro e w1 ⟨rfl, hw⟩; subst w1))
  go_ret2
  exact ⟨rfl, rfl⟩
theorem size3 : (Try.prog.info? 3).map (·.size) = some 1 := by kernel_rfl
/-- The first k cells of a row of n are v. -/
structure Full (w : World) (G n k : Nat) (v : Value) : Prop where
  ex : ∃ cs : List Value, w.heap[G]? = some (.cells cs.toArray 3 (0, 0)) ∧ cs.length = n ∧ ∀ j, j < k → cs[j]? = some v
theorem splice_full {cs ds : List Value} {n k : Nat} {v : Value} (hl : cs.length = n) (hk : ∀ j, j < k → cs[j]? = some v) (hd : ∀ j, j < ds.length → ds[j]? = some v) (hn : k + ds.length ≤ n) : (splice cs k ds).length = n ∧ ∀ j, j < k + ds.length → (splice cs k ds)[j]? = some v := by
  refine ⟨by rw [length_splice _ _ _ (by omega)]; exact hl, fun j hj => ?_⟩
  unfold splice
  by_cases h : j < k
  · rw [List.getElem?_append_left (by rw [List.length_take]; omega), List.getElem?_take_of_lt h]
    exact hk j h
  · rw [List.getElem?_append_right (by rw [List.length_take]; omega), List.length_take, Nat.min_eq_left (by omega), List.getElem?_append_left (by omega)]
    exact hd _ (by omega)
theorem Full.all {w : World} {G n : Nat} {v : Value} (h : Full w G n n v) : Row w G 3 (List.replicate n v) := by
  obtain ⟨cs, h1, h2, h3⟩ := h.ex
  have e : cs = List.replicate n v := by
    refine List.ext_getElem? fun j => ?_
    by_cases hj : j < n
    · rw [h3 j hj, List.getElem?_replicate, if_pos hj]
    · rw [List.getElem?_eq_none (by omega), List.getElem?_eq_none (by simp; omega)]
  rw [e] at h1
  exact ⟨_, h1, fun j u hj => by rw [List.getElem?_toArray]; exact hj⟩
/-- The first copy, into a row that was just made. -/
theorem first_copy (n : Nat) (h0 : 1 ≤ n) (g c : Nat) (x : Int) (w : World) (hc : w.cell? ⟨g, 0, none⟩ = some (.int .i64 x)) :
    ∃ W2, Sem.run Try.prog (Builtin.copy_ #[35, 35] 3 #[.slice (some ⟨w.heap.size, 0, none⟩) n n, .slice (some ⟨g, 0, none⟩) 1 c]) (w.alloc (.cells (madeCells #[.int .i64 0] n) 3)) = .ok (.int .i64 1) W2 ∧ Full W2 w.heap.size n 1 (.int .i64 x) ∧ Below w.heap.size w W2 := by
  obtain ⟨W1, hW1⟩ : ∃ W1, W1 = w.alloc (.cells (madeCells #[.int .i64 0] n) 3) := ⟨_, rfl⟩
  have b1 : Below w.heap.size w W1 := by rw [hW1]; exact (Below.refl _ w).alloc (Nat.le_refl _) _
  have hg : W1.heap[w.heap.size]? = some (.cells (madeCells #[.int .i64 0] n) 3) := by
    rw [hW1]
    show (w.heap.push _)[w.heap.size]? = _
    rw [Array.getElem?_push_size]
  have hl : (madeCells #[Value.int .i64 0] n).size = n := by simp [madeCells]
  rw [← hW1]
  clear hW1
  generalize madeCells #[Value.int .i64 0] n = cur at *
  have hsz : 0 + [Value.int .i64 x].length ≤ cur.size := by rw [hl]; simpa using h0
  have hrun := run_copy_row (P := Try.prog) W1 35 35 3 3 w.heap.size 0 n n ⟨g, 0, none⟩ 1 c cur 3 [.int .i64 x] Try.underlying35 size3 hg (by show 1 = min 1 n; omega) (fun j v hj => by
    match j, hj with
    | 0, hj =>
      cases hj
      exact cell_on b1 hc) hsz (by simp [Value.oneCell'])
  have hF := splice_full (cs := cur.toList) (ds := [.int .i64 x]) (n := n) (k := 0) (v := .int .i64 x) (by simpa using hl) (fun j hj => by omega) (fun j hj => by
    match j, hj with
    | 0, _ => rfl) (by simpa using h0)
  refine ⟨_, hrun, ⟨splice cur.toList 0 [.int .i64 x], ?_, hF.1, fun j hj => hF.2 j (by simpa using hj)⟩, b1.trans ⟨rfl, rfl, rfl, by simp [World.setRow], fun k hk => setRow_other W1 _ k _ (by omega)⟩⟩
  simpa [splice] using setRow_heap W1 w.heap.size _ _ 3 _ hg
/-- Each other copy: what is there goes behind it. -/
theorem next_copy {W : World} {G n k : Nat} {x : Int} (hF : Full W G n k (.int .i64 x)) (hk : 1 ≤ k) (hlt : k < n) :
    ∃ W3 d, 1 ≤ d ∧ k + d ≤ n ∧ Sem.run Try.prog (Builtin.copy_ #[35, 35] 3 #[.slice (some ⟨G, k, none⟩) (n - k) (n - k), .slice (some ⟨G, 0, none⟩) k n]) W = .ok (.int .i64 (d : Nat)) W3 ∧ Full W3 G n (k + d) (.int .i64 x) ∧ But [G] W W3 := by
  obtain ⟨cs, hg, hl, hcs⟩ := hF.ex
  obtain ⟨d, hd⟩ : ∃ d, d = Nat.min k (n - k) := ⟨_, rfl⟩
  have hd1 : 1 ≤ d ∧ k + d ≤ n ∧ d ≤ k := by
    have : Nat.min k (n - k) = min k (n - k) := rfl
    omega
  obtain ⟨ds, hds⟩ : ∃ ds, ds = List.replicate d (Value.int .i64 x) := ⟨_, rfl⟩
  have hdl : ds.length = d := by rw [hds]; simp
  have hdj : ∀ j, j < ds.length → ds[j]? = some (Value.int .i64 x) := fun j hj => by rw [hds, List.getElem?_replicate, if_pos (by omega)]
  have hsp := splice_full hl hcs hdj (by omega)
  have hrun := run_copy_row (P := Try.prog) W 35 35 3 3 G k (n - k) (n - k) ⟨G, 0, none⟩ k n cs.toArray 3 ds Try.underlying35 size3 hg (hdl.trans hd) (fun j v hj => by
    have hjl := (List.getElem?_eq_some_iff.1 hj).1
    rw [hdj j hjl] at hj
    rw [WideShapes.add_plain, Nat.zero_add, ← Option.some.inj hj]
    have := hcs j (by omega)
    unfold World.cell?
    rw [hg]
    simpa using this) (by rw [List.size_toArray]; omega) (fun v hv => by rw [hds] at hv; rw [List.eq_of_mem_replicate hv]; rfl)
  rw [hdl] at hrun
  refine ⟨_, d, hd1.1, hd1.2.1, hrun, ⟨splice cs k ds, ?_, hsp.1, fun j hj => hsp.2 j (by omega)⟩, ⟨rfl, rfl, rfl, by simp [World.setRow], fun i _ hi => setRow_other W _ i _ (by simpa using hi)⟩⟩
  simpa [splice, hdl] using setRow_heap W G _ _ 3 _ hg
set_option maxRecDepth 100000 in
set_option maxHeartbeats 4000000 in
theorem repeat_any (n : Nat) (h0 : 1 ≤ n) (h : n ≤ 64) (g c : Nat) (x : Int) (w : World) (hc : w.cell? ⟨g, 0, none⟩ = some (.int .i64 x)) :
    Calls Try.prog 25 #[.slice (some ⟨g, 0, none⟩) 1 c, .int .i64 n] w fun e w' => ∃ G, e = .returned (.slice (some ⟨G, 0, none⟩) n n) ∧ w.heap.size ≤ G ∧ Row w' G 3 (List.replicate n (.int .i64 x)) ∧ Below w.heap.size w w' := by
  have hM := fun X => mul_any n h0 h X
  have hmk := fun X => Lk.mk_int n (by omega) X
  have h1 : ¬ (n : Int) < 0 := by omega
  have w1 : IntKind.wrap .u64 (n : Int) = (n : Int) := by rw [IntKind.wrap_u64]; omega
  have w2 : IntKind.wrap .i64 (n : Int) = (n : Int) := by rw [IntKind.wrap_i64]; omega
  obtain ⟨W2, hcp, hF, hB⟩ := first_copy n h0 g c x w hc
  clear hc
  go_enter Try.func25, Try.ntmps25
  go_wp2_with (first
    | (go_at_call 53; (with_reducible refine (hM _).mono ?_); rintro e w1 ⟨rfl, hw⟩; subst w1))
  clear hcp hmk hM
  go_loopw [8] (fun v wr => ∃ k : Nat, v = .int .i64 k ∧ 1 ≤ k ∧ k ≤ n ∧ Full wr w.heap.size n k (.int .i64 x) ∧ Below w.heap.size w wr) (fun v _ => 64 - (intOf v).toNat)
  case atStart => exact ⟨1, rfl, by omega, h0, hF, hB⟩
  case round =>
    clear hF hB
    obtain ⟨k, rfl, hk1, hkn, hF, hB⟩ := hrel
    by_cases hlt : k < n
    · have hlt' : (k : Int) < (n : Int) := by omega
      have hnk : ¬ n = k := by omega
      have hFd : Full wr.drew w.heap.size n k (.int .i64 x) := ⟨hF.ex⟩
      obtain ⟨w3, d, hd1, hd2, hcp, hF3, hb3⟩ := next_copy hFd hk1 hlt
      have hBd : Below w.heap.size w wr.drew := hB.drew
      have hd64 : (k : Int) + (d : Int) ≤ 64 := by omega
      clear hF hFd hB
      go_wp2_with fail
      go_region
      all_goals
        go_wp2_with fail
        go_roundw
        case rel => exact ⟨k + d, by simp, by omega, hd2, hF3, hBd.trans (hb3.below hBd.size (by simp))⟩
        case measure =>
          simp [intOf]
          omega
    · obtain rfl : k = n := by omega
      go_wp2_with fail
      go_ret
      exact ⟨_, rfl, Nat.le_refl _, hF.all, hB⟩
end Go.Proofs.Ytimoleijdfoahaa.Lq
