/- Contract of the reference's Lower. -/
import Derived.Test.YtmogedfjhbfglaaRefOps
namespace Go.Proofs.Ytmogedfjhbfglaa
open Go.RowKit

theorem rsub_any (a b : Int) (ha : I64 a) (hb : I64 b) (w : World) :
    Calls Try.prog 44 #[.int .i64 a, .int .i64 b] w fun e w' => e = .returned (.tuple #[.int .i64 (toldI (a - b)), .bool (fitsB (a - b))]) ∧ Below w.heap.size w w' := Big.rsub_any a b w ha.1 ha.2 hb.1 hb.2

theorem keysL_low (q : List Th) (c : Int) : keysL (lowL q c) = (keysL q).map (· - c) := by simp [keysL, lowL]
theorem idsL_low' (q : List Th) (c : Int) : idsL (lowL q c) = idsL q := by simp [idsL, lowL]

section
variable {w : World} {M N : Nat} {R : List Nat} {q : List Th}

set_option maxHeartbeats 2000000 in
theorem rlower_any (h : RQ w M R N q) (hq : ∀ p ∈ q, I64 p.2) (c : Int) (hc : I64 c) :
    Calls Try.prog 30 #[.pointer (some ⟨M, 0, none⟩), .int .i64 c] w fun e w' => e = .returned (.int .i64 (lowE q c)) ∧ ∃ R', RQ w' M R' N (lowS q c) ∧ Step R w R' w' := by
  obtain ⟨vi, vk, rfl, h⟩ := h
  have hl := Nat.le_trans h.l h.n2
  obtain ⟨ak, ck, rfl, hk, -⟩ := h.sk
  have c2 := h.c2
  go_enter Try.func30, Try.ntmps30
  go_wp2_with fail
  go_loopw [15, 5, 7, 8, 9] (fun v u _ _ _ wr => ∃ i : Nat, i ≤ q.length ∧ v = .int .i64 i ∧ RowI wr w.heap.size u ((keysL (q.take i)).map (· - c)) ∧ (∀ p ∈ q.take i, fitsB (p.2 - c) = true) ∧ But [] w wr) (fun v _ _ _ _ _ => 4096 - (intOf v).toNat)
  case atStart => exact ⟨0, by omega, rfl, World.ownsRow_nil _ _ _ _, by simp, But.refl _ _⟩
  case round =>
    clear c2
    obtain ⟨i, hi, rfl, hrow, hf, hB⟩ := hrel
    by_cases hlt : i < q.length
    · have hx : q[i]? = some q[i] := List.getElem?_eq_getElem hlt
      obtain ⟨g, rfl, x0⟩ := hk i _ (keysL_get hx)
      have cx := hB.cell x0
      have ht : q.take (i + 1) = q.take i ++ [q[i]] := by rw [List.take_add_one, hx]; rfl
      have hmem : q[i] ∈ q := List.getElem_mem hlt
      have h64 := hq q[i] hmem
      have SB := rsub_any q[i].2 c h64 hc
      have hlt' : (i : Int) < (q.length : Int) := by omega
      have hll : ((keysL (q.take i)).map (· - c)).length = i := by rw [List.length_map, keysL_len, List.length_take]; omega
      clear hx x0
      generalize q[i] = p at *
      cases hfit : fitsB (p.2 - c) with
      | true =>
        have SB' : ∀ W, Calls Try.prog 44 #[.int .i64 p.2, .int .i64 c] W fun e w' => e = .returned (.tuple #[.int .i64 (p.2 - c), .bool true]) ∧ Below W.heap.size W w' := fun W => by
          have := SB W
          unfold toldI at this
          rw [hfit, if_pos rfl] at this
          exact this
        have hf2 : ∀ r ∈ q.take (i + 1), fitsB (r.2 - c) = true := fun r hr => by
          rw [ht] at hr
          rcases List.mem_append.1 hr with hr | hr
          · exact hf r hr
          · rw [List.mem_singleton.1 hr]
            exact hfit
        have hks : (keysL (q.take (i + 1))).map (· - c) = (keysL (q.take i)).map (· - c) ++ [p.2 - c] := by rw [ht]; simp [keysL]
        have Hks : Hid ((keysL (q.take (i + 1))).map (· - c) = (keysL (q.take i)).map (· - c) ++ [p.2 - c]) := hks
        have Hll : Hid (((keysL (q.take i)).map (· - c)).length = i) := hll
        clear hf ht SB hks hll
        generalize (keysL (q.take i)).map (· - c) = ys at *
        generalize p.2 - c = y at *
        generalize p.2 = x at *
        have hrow' : wr.ownsRow w.heap.size 3 1 u5 i (ys.map (Value.int .i64)) := by have := hrow; unfold RowI at this; rwa [Hll.out] at this
        obtain ⟨ua, uc, rfl⟩ := own_shape hrow'
        go_wp2_with (first
          | (go_at_call 44; refine (SB' _).mono ?_; rintro e w1 ⟨rfl, b1⟩; have hB1 := hB.trans (.of_below b1); have hr1 : w1.ownsRow w.heap.size 3 1 (.slice ua i uc) i (ys.map (Value.int .i64)) := ownsRow_put hrow' (fun x hx => b1.block x (hrow'.lt x hx).2))
          | (at_builtin; refine wpList_app rfl _ _ rfl w.heap.size _ _ _ rfl (hr1.alloc _) _ _ _ [y] rfl rfl (reads_one _ _) (by omega) (by have := hB1.size; simp; omega) ?_; intro v3 w3 ho3 hg3; have hb3 : But [] w w3 := (hB1.alloc _).grown hg3 (fun k e => (hr1.lt k e).1)))
        go_roundw
        case rel =>
          refine ⟨i + 1, by omega, by simp, ?_, hf2, hb3⟩
          rw [Hks.out]
          unfold RowI
          rw [List.length_append, Hll.out]
          exact ho3
        case measure =>
          simp [intOf]
          omega
      | false =>
        have SB' : ∀ W, Calls Try.prog 44 #[.int .i64 p.2, .int .i64 c] W fun e w' => e = .returned (.tuple #[.int .i64 0, .bool false]) ∧ Below W.heap.size W w' := fun W => by
          have := SB W
          unfold toldI at this
          rw [hfit, if_neg (by simp)] at this
          exact this
        have hno : lowB q c = false := by
          unfold lowB
          rw [List.all_eq_false]
          exact ⟨p, hmem, by simp [hfit]⟩
        have E1 : Hid (lowE q c = 8) := by show lowE q c = 8; unfold lowE; rw [hno]; rfl
        have E2 : Hid (lowS q c = q) := by show lowS q c = q; unfold lowS; rw [hno]; rfl
        clear hf ht SB hno hll
        generalize p.2 = x at *
        go_wp2_with (first
          | (go_at_call 44; refine (SB' _).mono ?_; rintro e w1 ⟨rfl, b1⟩))
        go_ret
        rw [E1.out, E2.out]
        have hB1 := hB.trans (.of_below b1)
        exact ⟨rfl, _, ⟨vi, _, rfl, h.keep hB1⟩, Step.keep hB1⟩
    · obtain rfl : i = q.length := by omega
      rw [List.take_length] at hf hrow
      have hyes : lowB q c = true := by
        unfold lowB
        rw [List.all_eq_true]
        exact hf
      have E1 : Hid (lowE q c = 0) := by show lowE q c = 0; unfold lowE; rw [hyes]; rfl
      have E2 : Hid (lowS q c = lowL q c) := by show lowS q c = lowL q c; unfold lowS; rw [hyes]; rfl
      have hrow' : wr.ownsRow w.heap.size 3 1 u5 q.length (((keysL q).map (· - c)).map (Value.int .i64)) := by have := hrow; unfold RowI at this; rwa [List.length_map, keysL_len] at this
      obtain ⟨ua, uc, rfl⟩ := own_shape hrow'
      have hmr := h.keep hB
      have d2 := hmr.c2
      have f2 := hmr.fz 2
      obtain ⟨r1, r2⟩ := h.two.setK hB hrow
      rw [← keysL_low, ← idsL_low' q c] at r1
      have r3 := r1.one h.n1 h.n2 (by rw [show (lowL q c).length = q.length by simp [lowL]]; exact h.l)
      clear hf hyes r1
      go_wp2_with fail
      go_ret
      rw [E1.out, E2.out]
      exact ⟨rfl, _, ⟨vi, _, rfl, r3⟩, r2⟩
end

end Go.Proofs.Ytmogedfjhbfglaa
