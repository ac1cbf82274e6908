/- slices.Grow of nothing, slices.Concat of two rows; Undo. -/
import Derived.Test.YtcffmdimfmpheaaDoorMlAsk
namespace Go.Proofs.YtcffmdimfmpheaaDoor
open Go Go.RowKit

/-- So many events, all zero, behind nothing. -/
theorem run_zeros {w : World} {ty : TypeId} (n : Nat) (h0 : 0 < n) (hn : n ≤ 100000) :
    ∃ c w', (Builtin.append_ #[56, 3] ty #[.slice none 0 0, .int .i64 n]).run Tryd.prog w = .ok (.slice (some ⟨w.heap.size, 0, none⟩) n c) w' ∧ n ≤ c ∧ OwE w' w.heap.size (.slice (some ⟨w.heap.size, 0, none⟩) 0 c) [] ∧ Below w.heap.size w w' := by
  obtain ⟨i0, hi, hz0, hz1, hz2⟩ := info_parts infoE
  have hw : IntKind.i64.wrap (n : Int) = (n : Int) := by rw [IntKind.wrap_i64]; omega
  have hn0' : ¬ n = 0 := by omega
  have hneg : ¬ ((n : Int) < 0) := by omega
  have hfit := growslice_fits (need := n) (old := 0) (bytes := 120) (by omega) (by omega)
  have h48' : ¬ (281474976710656 < Builtin.nextslicecap n 0 * 120) := by omega
  have hbig : ¬ (281474976710656 < (n : Int) * 120) := by omega
  have h63 : ¬ (9223372036854775807 < (n : Int)) := by omega
  have hnz : ¬ (n * 15 = 0) := by omega
  refine ⟨grownCap w n 0 33, w.drew.alloc (.cells (Builtin.zeroCells (Value.agg #[.int .i64 0, .int .i64 0, .int .i64 0, .int .i64 0, .int .i64 0, .int .i64 0, .int .i64 0, .int .i64 0, .int .i64 0, .int .i64 0, .int .i64 0, .int .i64 0, .int .i64 0, .int .i64 0, .int .i64 0]).cells n ++ Builtin.zeroCells (Value.agg #[.int .i64 0, .int .i64 0, .int .i64 0, .int .i64 0, .int .i64 0, .int .i64 0, .int .i64 0, .int .i64 0, .int .i64 0, .int .i64 0, .int .i64 0, .int .i64 0, .int .i64 0, .int .i64 0, .int .i64 0]).cells (grownCap w n 0 33 - n)) 33), ?_, grownCap_ge w n 0 33, ?_, (Below.refl _ w).drew.alloc (Nat.le_refl _) _⟩
  · simp [Builtin.append_, run_underlying Tryd.underlying56, run_underlying Tryd.underlying3, asInt, asIntOf, sizeOf, typeInfo, zeroValue, hi, hz0, hz1, hz2, hw, hn0', hneg, h48', hbig, h63, hnz, Question.forced, run_firstCells_none, newRow, grownCap]
  · have hge := grownCap_ge w n 0 33
    have hcm : grownCap w n 0 33 ≤ maxLen := grownCap_le_maxLen w n 0 33 (by unfold maxLen; omega)
    refine ⟨rfl, .inr ⟨w.heap.size, _, _, rfl, Nat.le_refl _, World.alloc_heap_new w.drew _, Nat.zero_le _, hcm, ?_, ?_⟩⟩
    · simp [size_zeroCells, Value.cells]
      omega
    · simp [flatE]
theorem wpList_zeros {w : World} {ops : Array Oper} {rest : List Oper} {o : Oper} {a : Act} {Q : Exit → Act → World → Prop} (hg : o.guard = none) (s x : Operand) (hop : o.op = Op.call { callee := Callee.builtin Builtin.append, args := #[s, x], argTypes := #[56, 3] })
    (n : Nat) (hs : a.eval s = .slice none 0 0) (hx : a.eval x = .int .i64 n) (h0 : 0 < n) (hn : n ≤ 100000)
    (hK : ∀ c w', n ≤ c → OwE w' w.heap.size (.slice (some ⟨w.heap.size, 0, none⟩) 0 c) [] → Below w.heap.size w w' → wpList Tryd.prog ops Q rest (a.put o.dst (.slice (some ⟨w.heap.size, 0, none⟩) n c)) w') :
    wpList Tryd.prog ops Q (o :: rest) a w := by
  refine wpList_plain hg fun K hK' => ?_
  obtain ⟨c, w', hrun, r1, r2, r3⟩ := run_zeros (w := w) (ty := o.type) n h0 hn
  unfold Oper.wp execOp
  simp only [hop, resolve, invoke, builtin, Sem.run_bind, Sem.run_pure, Result.andThen_ok, List.map_toArray, List.map_cons, List.map_nil, hs, hx, hrun]
  exact hK' _ _ (hK c w' r1 r2 r3)
theorem grow_any (w : World) (n : Nat) (hn : n ≤ 100000) :
    Calls Tryd.prog 49 #[.slice none 0 0, .int .i64 n] w fun e w' => ∃ v, e = .returned v ∧ OwE w' w.heap.size v [] ∧ Below w.heap.size w w' := by
  by_cases h0 : n = 0
  · subst h0
    go_enter Tryd.func49, Tryd.ntmps49
    go_wp2_with fail
    go_ret
    exact ⟨_, rfl, OwE.nil _ _, Below.refl _ _⟩
  · have h1 : (0 : Int) < (n : Int) := by omega
    have h2 : (n : Int) ≤ 100000 := by omega
    go_enter Tryd.func49, Tryd.ntmps49
    go_wp2_with (at_builtin; refine wpList_zeros rfl _ _ rfl n rfl rfl (by omega) hn ?_; intro c5 w5 hc5 ho5 b5)
    go_ret
    exact ⟨_, rfl, ho5, b5⟩

set_option maxHeartbeats 2000000 in
/-- Two rows that lie in memory, one behind the other. -/
theorem concat_any {w : World} {G : Nat} {a1 a2 : Option Addr} {c1 c2 : Nat} {xs ys : List Ev} (h0 : w.cell? ⟨G, 0, none⟩ = some (.slice a1 xs.length c1)) (h1 : w.cell? ⟨G, 1, none⟩ = some (.slice a2 ys.length c2)) (hx : EV w a1 xs) (hy : EV w a2 ys) (hn : xs.length + ys.length ≤ 50000) :
    Calls Tryd.prog 37 #[.slice (some ⟨G, 0, none⟩) 2 2] w fun e w' => ∃ v, e = .returned v ∧ OwE w' w.heap.size v (xs ++ ys) ∧ Below w.heap.size w w' := by
  obtain ⟨zs, hz⟩ : ∃ zs : Nat → List Ev, Hid (zs 0 = [] ∧ zs 1 = xs ∧ zs 2 = xs ++ ys) := ⟨fun j => if j = 0 then [] else if j = 1 then xs else xs ++ ys, by simp [Hid]⟩
  go_enter Tryd.func37, Tryd.ntmps37
  go_wp2_with fail
  go_loopw [11, 3, 5] (fun v s _ wr => ∃ j : Nat, j ≤ 2 ∧ v = .int .i64 j ∧ s = .int .i64 ((zs j).length : Nat) ∧ wr = w) (fun v _ _ _ => 2 - (intOf v).toNat)
  case atStart => exact ⟨0, by omega, rfl, by rw [hz.out.1]; rfl, rfl⟩
  case round =>
    obtain ⟨j, hj, rfl, rfl, hw⟩ := hrel
    rw [hw]
    clear hw
    rcases (show j = 0 ∨ j = 1 ∨ j = 2 by omega) with rfl | rfl | rfl
    · have hl : ((zs 0).length : Int) = 0 := by rw [hz.out.1]; rfl
      have hl1 : ((zs 1).length : Int) = (xs.length : Int) := by rw [hz.out.2.1]
      rw [hl]
      have hb : (xs.length : Int) ≤ 50000 := by omega
      go_wp2_with fail
      go_roundw
      case rel => exact ⟨1, by omega, by simp, by simp [hl1], by first | rfl | trivial⟩
      case measure => simp [intOf]
    · have hl1 : ((zs 1).length : Int) = (xs.length : Int) := by rw [hz.out.2.1]
      have hl2 : ((zs 2).length : Int) = (xs.length : Int) + (ys.length : Int) := by rw [hz.out.2.2]; simp
      rw [hl1]
      have hb : (xs.length : Int) + (ys.length : Int) ≤ 50000 := by omega
      have hwr : IntKind.i64.wrap ((xs.length : Int) + (ys.length : Int)) = (xs.length : Int) + (ys.length : Int) := by rw [IntKind.wrap_i64]; omega
      go_wp2_with fail
      go_roundw
      case rel => exact ⟨2, by omega, by simp, by simp [hl2], by first | rfl | trivial⟩
      case measure => simp [intOf]
    · have hl2 : (zs 2).length = xs.length + ys.length := by rw [hz.out.2.2]; simp
      have GR := grow_any w (zs 2).length (by omega)
      clear hl2
      go_wp2_with (go_at_call 49; (with_reducible refine GR.mono ?_); rintro e w1 ⟨v1, rfl, ho1, b1⟩)
      have ho1' : OwE w1 w.heap.size v1 (zs 0) := by rw [hz.out.1]; exact ho1
      clear GR ho1
      go_loopw [27, 6, 8] (fun v s _ wr => ∃ j : Nat, j ≤ 2 ∧ v = .int .i64 j ∧ OwE wr w.heap.size s (zs j) ∧ Below w.heap.size w wr) (fun v _ _ _ => 2 - (intOf v).toNat)
      case atStart => exact ⟨0, by omega, rfl, ho1', b1⟩
      case round =>
        clear ho1' b1
        obtain ⟨j, hj, rfl, ho, hb⟩ := hrel
        have d0 := cell_on hb h0
        have d1 := cell_on hb h1
        rcases (show j = 0 ∨ j = 1 ∨ j = 2 by omega) with rfl | rfl | rfl
        · have hx1 := hx.below hb
          have hlz : (zs 0).length + xs.length ≤ 100000 := by rw [hz.out.1]; simp; omega
          have hz1 : zs 1 = zs 0 ++ xs := by rw [hz.out.1, hz.out.2.1]; rfl
          have HZ := Hid.mk hz1
          clear hz1
          go_wp2_with (at_builtin; refine wpList_appL rfl _ _ rfl w.heap.size _ (zs 0) rfl ho _ _ _ xs rfl rfl hx1 hlz hb.size ?_; intro v5 w5 ho5 hg5 hv5)
          have b5 := below_grown hb hg5 ho hb.size
          go_roundw
          case rel => exact ⟨1, by omega, by simp, by rw [HZ.out]; exact ho5, b5⟩
          case measure => simp [intOf]
        · have hy1 := hy.below hb
          have hlz : (zs 1).length + ys.length ≤ 100000 := by rw [hz.out.2.1]; omega
          have HZ : Hid (zs 2 = zs 1 ++ ys) := by rw [hz.out.2.2, hz.out.2.1]; rfl
          go_wp2_with (at_builtin; refine wpList_appL rfl _ _ rfl w.heap.size _ (zs 1) rfl ho _ _ _ ys rfl rfl hy1 hlz hb.size ?_; intro v5 w5 ho5 hg5 hv5)
          have b5 := below_grown hb hg5 ho hb.size
          go_roundw
          case rel => exact ⟨2, by omega, by simp, by rw [HZ.out]; exact ho5, b5⟩
          case measure => simp [intOf]
        · have ho2 := ho
          rw [hz.out.2.2] at ho2
          clear ho
          go_wp2_with fail
          go_ret
          exact ⟨_, rfl, ho2, hb⟩

section
variable {w : World} {B N : Nat} {T : List Nat} {xs l : List Ev} {a : Option Addr}
set_option maxHeartbeats 2000000 in
theorem undo_any (h : BQ w B T N xs) (hT : Tab w) (c : Nat) (hy : EV w a l) (hn : l.length ≤ maxLen) :
    Calls Tryd.prog 21 #[.pointer (some ⟨B, 0, none⟩), .slice a l.length c] w fun r w' => r = .returned (.int .i64 (askE N xs l)) ∧ ∃ T', BQ w' B T' N (undX N xs l) ∧ Step T w T' w' := by
  have hL := und_len h.len.1 l
  have hln := h.len
  obtain ⟨v, rfl, hm, hl⟩ := h
  have AK := ask_any hm hl hT c hy hn
  obtain ⟨sl, c2, rfl, hxv, -, -⟩ := hm.shape
  by_cases h0 : askE N xs l = 0
  · have HX : Hid (undX N xs l = l ++ xs) := by unfold undX; rw [if_pos h0]; rfl
    have hfit := (askE_inv h0).2
    rw [h0] at AK ⊢
    clear h0
    have HK : ∀ W, Below w.heap.size w W → BM W B N (.slice sl xs.length c2) xs ∧ Below w.heap.size w (W.alloc (.cells #[.slice a l.length c, .slice sl xs.length c2] 56)) ∧ Calls Tryd.prog 37 #[.slice (some ⟨W.heap.size, 0, none⟩) 2 2] (W.alloc (.cells #[.slice a l.length c, .slice sl xs.length c2] 56)) fun e w' => ∃ v, e = .returned v ∧ OwE w' (W.alloc (.cells #[.slice a l.length c, .slice sl xs.length c2] 56)).heap.size v (l ++ xs) ∧ Below (W.alloc (.cells #[.slice a l.length c, .slice sl xs.length c2] 56)).heap.size (W.alloc (.cells #[.slice a l.length c, .slice sl xs.length c2] 56)) w' := fun W b => by
      have ba := b.alloc b.size (.cells #[.slice a l.length c, .slice sl xs.length c2] 56)
      have hc := Cel.new W #[.slice a l.length c, .slice sl xs.length c2] 56
      exact ⟨hm.below b, ba, concat_any (hc.cell (j := 0) rfl) (hc.cell (j := 1) rfl) (hy.below ba) (hxv.below ba) (by omega)⟩
    go_enter Tryd.func21, Tryd.ntmps21
    go_upto_region 3 with (go_at_call 35; (with_reducible refine AK.mono ?_); rintro r w1 ⟨rfl, bb⟩)
    obtain ⟨k1, b2, CC⟩ := HK _ bb
    have d0 := k1.c0
    go_wp2_with (go_at_call 37; (with_reducible refine CC.mono ?_); rintro r w2 ⟨v2, rfl, ho2, b3⟩; obtain ⟨k5, s5, f0, f1⟩ := hm.fresh (below2 b2 b2.size b3) (ho2.lower b2.size); obtain ⟨a5, c5, rfl⟩ := ho2.at_ (n := l.length + xs.length) (by simp))
    go_ret
    rw [HX.out] at hL ⊢
    exact ⟨rfl, _, ⟨_, rfl, k5, hL⟩, s5⟩
  · have HX : Hid (undX N xs l = xs) := by unfold undX; rw [if_neg h0]; rfl
    have hne : (askE N xs l == 0) = false := by simpa using h0
    generalize askE N xs l = q at *
    clear h0
    go_enter Tryd.func21, Tryd.ntmps21
    go_wp2_with (go_at_call 35; (with_reducible refine AK.mono ?_); rintro r w1 ⟨rfl, bb⟩)
    go_ret
    rw [HX.out]
    exact ⟨rfl, _, ⟨_, rfl, hm.below bb, hl⟩, Step.keep (.of_below bb)⟩
end
end Go.Proofs.YtcffmdimfmpheaaDoor
