/- A row of one activation, made of it. -/
/- The document's put. -/
import Derived.Test.YtjgclehghnmhnaaDoorLrM
namespace Go.Proofs.YtjgclehghnmhnaaDoor
open Go Go.RowKit

set_option maxRecDepth 100000 in
set_option maxHeartbeats 1000000 in
theorem run_bsR (a : Ac) (W : World) : (Instr.buildSlice 35 1 #[(0, .agg (c16 a).toArray)]).run Tryd.prog W = .ok (.slice (some ⟨W.heap.size, 0, none⟩) 1 1) (W.alloc (.cells (acA a) 47)) := by
  rw [c16_arr]
  unfold acA
  go_simp
theorem wpList_bsR {w : World} {ops : Array Oper} {rest : List Oper} {o : Oper} {act : Act} {Q : Exit → Act → World → Prop} (hg : o.guard = none) (x : Operand) (hop : o.op = Op.buildSlice 35 1 #[(0, x)]) (a : Ac) (hx : act.eval x = .agg (c16 a).toArray)
    (hK : wpList Tryd.prog ops Q rest (act.put o.dst (.slice (some ⟨w.heap.size, 0, none⟩) 1 1)) (w.alloc (.cells (acA a) 47))) : wpList Tryd.prog ops Q (o :: rest) act w := by
  refine wpList_plain hg fun K' hK' => ?_
  have hrun := run_bsR a w
  unfold Oper.wp execOp
  simp only [hop, List.map_toArray, List.map_cons, List.map_nil, hx, hrun, Sem.run_bind, Sem.run_pure, Result.andThen_ok]
  exact hK' _ _ hK
theorem at_grown {W w3 : World} {row : Option Nat} {X : Nat} {x : Ac} (h : At16 W X 0 x) (hg : W.grownBy w3 row) (hr : row ≠ some X) : At16 w3 X 0 x := fun i v hv => by
  have h0 := h i v hv
  rw [World.cell?_of_block (hg.block X (World.block_lt_of_cell? W _ h0) (fun e => hr e.symm))]
  exact h0
theorem at_alloc {W : World} {X : Nat} {x : Ac} (h : At16 W X 0 x) (o : Obj) : At16 (W.alloc o) X 0 x := range_below h ((Below.refl _ _).alloc (Nat.le_refl _) _)
end Go.Proofs.YtjgclehghnmhnaaDoor
namespace Go.Proofs.YtjgclehghnmhnaaDoor
open Go Go.RowKit

section
variable {w : World} {M N : Nat} {R : List Nat} {σ : Sta}
theorem putG_cons (a : Ac) (d : Bool) (x : Ac) (r : List Ac) : putG a d (x :: r) = (if !d && decide (a.id ≤ x.id) then [a] else []) ++ ((if x.id ≠ a.id then [x] else []) ++ putG a (d || decide (a.id ≤ x.id)) r) := rfl
set_option maxHeartbeats 4000000 in
set_option maxRecDepth 100000 in
theorem rput_any (h : RQ w M R N σ) (a : Ac) (hl1 : (insA a σ.xs).length ≤ 4096) :
    Calls Tryd.prog 58 #[.pointer (some ⟨M, 0, none⟩), .agg (acA a)] w fun e w' => e = .returned (.tuple #[]) ∧ ∃ R', RQ w' M R' N { σ with xs := insA a σ.xs } ∧ Step R w R' w' := by
  obtain ⟨S, A, K, v, rfl, hm⟩ := h
  have ba : Below w.heap.size w (w.alloc (.cells (acA a) 47)) := (Below.refl _ _).alloc (Nat.le_refl _) _
  have hl := hm.len
  have HFR : Hid (∀ W v', Below w.heap.size w W → OwA 47 W w.heap.size v' (insA a σ.xs) → RM (W.setCell ⟨M, 1, none⟩ v') M S A K N v' { σ with xs := insA a σ.xs } ∧ Step (bR M S A K v) w (bR M S A K v') (W.setCell ⟨M, 1, none⟩ v')) := fun W v' hB ho => ⟨(hm.fresh hB ho hl1 (insA_srt hm.srt)).1, (hm.fresh hB ho hl1 (insA_srt hm.srt)).2.1⟩
  have HPI : Hid (putG a false σ.xs = insA a σ.xs) := putG_ins a hm.srt
  have HLN : Hid ((insA a σ.xs).length ≤ 4096) := hl1
  obtain ⟨sl, c, rfl, he⟩ := hm.shape
  have c1 := (hm.below ba).c1
  have HM : ∀ W, Below w.heap.size w W → W.cell? ⟨M, 1, none⟩ = some (.slice sl σ.xs.length c) ∧ W.frozen? ⟨M, 1, none⟩ = false := fun W hB => ⟨(hm.below hB).c1, (hm.below hB).fb 1⟩
  have hat0 := Cel.new w (acA a) 47
  have he0 := he.below ba
  obtain ⟨n, hN⟩ : ∃ n, Hid (σ.xs.length = n) := ⟨_, rfl⟩
  have hn' : n ≤ 4096 := by rw [← hN.out]; exact hl
  rw [hN.out] at c1 HM
  clear hl hm he hl1
  have HW : ∀ W, Below (w.alloc (.cells (acA a) 47)).heap.size (w.alloc (.cells (acA a) 47)) W → AV W sl σ.xs ∧ At16 W w.heap.size 0 a ∧ Below w.heap.size w W := fun W b => ⟨he0.below b, (hat0.below b).range, below2 ba ba.size b⟩
  have HS : Hid (w.heap.size ≤ (w.alloc (.cells (acA a) 47)).heap.size) := ba.size
  clear hat0 he0 ba
  go_enter Tryd.func58, Tryd.ntmps58
  go_upto_region 4 with fail
  generalize (w.alloc (.cells (acA a) 47)) = W0 at *
  generalize (Value.agg (acA a)) = ga at *
  obtain ⟨A0, hA0⟩ : ∃ A0, Hid (w.heap.size = A0) := ⟨_, rfl⟩
  have HWc : ∀ W, Below W0.heap.size W0 W → W.cell? ⟨w.heap.size, 0, none⟩ = some (.int .i64 a.id) := fun W b => (HW W b).2.1.cells.1
  go_loopw [4, 5, 13, 7] (fun s d v _ wr => ∃ (j : Nat) (dn : Bool) (out : List Ac), j ≤ n ∧ v = .int .i64 j ∧ d = .bool dn ∧ OwA 47 wr W0.heap.size s out ∧ out ++ putG a dn (σ.xs.drop j) = putG a false σ.xs ∧ Below W0.heap.size W0 wr) (fun _ _ v _ _ => 4096 - (intOf v).toNat)
  case atStart => exact ⟨0, false, [], Nat.zero_le _, rfl, rfl, OwA.nil _ _, rfl, Below.refl _ _⟩
  case round =>
    obtain ⟨j, dn, out, hj, rfl, rfl, ho, heq, hb⟩ := hrel
    have HQ := Hid.mk heq
    have hol : out.length ≤ 4096 := by
      have e := congrArg List.length heq
      rw [HPI.out, List.length_append] at e
      have := HLN.out
      omega
    clear heq
    by_cases hlt : j < n
    · have hjx : j < σ.xs.length := by rw [hN.out]; exact hlt
      have hq := HQ.out
      rw [ac_drop hjx, putG_cons] at hq
      obtain ⟨b, o, rfl, hc⟩ := (HW _ hb).1 j hjx
      have hlt' : (j : Int) < (n : Int) := by omega
      have hxr : wr.rangeAt b (o + j * 16) (c16 (ac σ.xs j)) := hc
      have hz0 := Cel.new wr (acA zA) 47
      have hth := hz0.there
      have hcx : Cel ((wr.alloc (.cells (acA zA) 47)).setCells wr.heap.size 0 (c16 (ac σ.xs j))) wr.heap.size (acA (ac σ.xs j)) 47 := hz0.ac _
      have B1 : Below W0.heap.size W0 ((wr.alloc (.cells (acA zA) 47)).setCells wr.heap.size 0 (c16 (ac σ.xs j))) := (hb.alloc hb.size (.cells (acA zA) 47)).trans ((But.setCells _ 0 _).below (by have := hb.size; simp; omega) (by simpa using hb.size))
      have ho1 : OwA 47 ((wr.alloc (.cells (acA zA) 47)).setCells wr.heap.size 0 (c16 (ac σ.xs j))) W0.heap.size u4 out := (ho.below ((Below.refl _ wr).alloc (Nat.le_refl _) _)).put (fun k hk => (But.setCells _ 0 _).block k (by have := (ho.lt hk).2; simp; omega) (by have := (ho.lt hk).2; simp; omega))
      have hxr' := range_below hxr ((Below.refl _ wr).alloc (Nat.le_refl _) (.cells (acA zA) 47))
      have hsX : u4.ownBlock ≠ some wr.heap.size := fun e => by
        have := (ho.lt e).2
        omega
      clear hc hjx hz0 ho
      generalize ac σ.xs j = x at *
      rw [zA_A] at *
      go_upto_region 5 with fail
      refine wp_region_lit ?_
      iterate 3 go_step
      refine wpList_load_mid rfl 47 (.tmp 15) rfl b (o + j * 16) rfl (c16 x) _ hxr Tryd.underlying47 rfl size16R ?_
      iterate 3 go_step
      refine wpList_store_mid rfl 47 (.tmp 7) (.tmp 16) rfl wr.heap.size 0 (c16 x).toArray rfl rfl hth size16R (c16_one _) ?_
      rw [show (c16 x).toArray.toList = c16 x from rfl]
      generalize (World.setCells _ wr.heap.size 0 (c16 x)) = w1 at *
      generalize wr.heap.size = X at *
      generalize (Value.agg (c16 x).toArray) = gx at *
      have hx1 : At16 w1 X 0 x := hcx.range
      have n0 : w1.cell? ⟨X, 0, none⟩ = some (.int .i64 x.id) := hcx.cell (j := 0) rfl
      have m0 := HWc _ B1
      have hol1 : out.length + 1 ≤ 100000 := by omega
      have hol2 : (out ++ [a]).length + 1 ≤ 100000 := by simp; omega
      have HAP : Hid (∀ W y v2 ot, Below W0.heap.size W0 W → OwA 47 W W0.heap.size v2 ot → OwA 47 (W.alloc (.cells (acA y) 47)) W0.heap.size v2 ot ∧ AV (W.alloc (.cells (acA y) 47)) (some ⟨W.heap.size, 0, none⟩) [y] ∧ W0.heap.size ≤ (W.alloc (.cells (acA y) 47)).heap.size ∧ Below W0.heap.size W0 (W.alloc (.cells (acA y) 47))) := fun W y v2 ot b ho => ⟨ho.below ((Below.refl _ _).alloc (Nat.le_refl _) _), av_one W y 47, by have := b.size; simp; omega, b.alloc b.size _⟩
      clear hcx hth hxr hxr' hb
      cases dn
      · by_cases hle : a.id ≤ x.id
        · by_cases hid : x.id = a.id
          · have hid' : (x.id == a.id) = true := by simpa using hid
            have HQ1 : Hid ((out ++ [a]) ++ putG a true (σ.xs.drop (j + 1)) = putG a false σ.xs) := by
              show _ = _
              rw [← hq]
              simp [hid]
            clear hq
            have hA1 := (HW _ B1).2.1
            go_upto_region 7 with fail
            obtain ⟨oA3, avA3, szA3, BA3⟩ := HAP.out w1 a u4 out B1 ho1
            refine wp_region_lit ?_
            iterate 3 go_step
            refine wpList_load_mid rfl 47 (.tmp 3) rfl w.heap.size 0 rfl (c16 a) _ hA1 Tryd.underlying47 rfl size16R ?_
            refine wpList_bsR rfl (.tmp 27) rfl a rfl ?_
            refine wpList_appA tyR rfl _ _ rfl W0.heap.size _ _ rfl oA3 _ _ _ [a] rfl rfl avA3 hol1 szA3 ?_
            intro v3 w3 o3 g3 s3
            have b3 := below_grown BA3 g3 oA3 szA3
            have hx3 := at_grown (at_alloc hx1 (.cells (acA a) 47)) g3 hsX
            have n3 := hx3.cells.1
            have m3 := HWc _ b3
            clear n0 m0
            go_wp2_with fail
            go_roundw
            case rel => exact ⟨j + 1, true, (out ++ [a]), by omega, by simp, rfl, o3, HQ1.out, b3⟩
            case measure =>
              simp [intOf]
              omega
          · have hid' : (x.id == a.id) = false := by simpa using hid
            have HQ1 : Hid (((out ++ [a]) ++ [x]) ++ putG a true (σ.xs.drop (j + 1)) = putG a false σ.xs) := by
              show _ = _
              rw [← hq]
              simp [hid, hle]
            clear hq
            have hA1 := (HW _ B1).2.1
            go_upto_region 7 with fail
            obtain ⟨oA3, avA3, szA3, BA3⟩ := HAP.out w1 a u4 out B1 ho1
            refine wp_region_lit ?_
            iterate 3 go_step
            refine wpList_load_mid rfl 47 (.tmp 3) rfl w.heap.size 0 rfl (c16 a) _ hA1 Tryd.underlying47 rfl size16R ?_
            refine wpList_bsR rfl (.tmp 27) rfl a rfl ?_
            refine wpList_appA tyR rfl _ _ rfl W0.heap.size _ _ rfl oA3 _ _ _ [a] rfl rfl avA3 hol1 szA3 ?_
            intro v3 w3 o3 g3 s3
            have b3 := below_grown BA3 g3 oA3 szA3
            have hx3 := at_grown (at_alloc hx1 (.cells (acA a) 47)) g3 hsX
            have n3 := hx3.cells.1
            have m3 := HWc _ b3
            clear n0 m0
            go_upto_region 10 with fail
            obtain ⟨oA4, avA4, szA4, BA4⟩ := HAP.out w3 x v3 (out ++ [a]) b3 o3
            refine wp_region_lit ?_
            iterate 3 go_step
            refine wpList_load_mid rfl 47 (.tmp 7) rfl X 0 rfl (c16 x) _ hx3 Tryd.underlying47 rfl size16R ?_
            refine wpList_bsR rfl (.tmp 36) rfl x rfl ?_
            refine wpList_appA tyR rfl _ _ rfl W0.heap.size _ _ rfl oA4 _ _ _ [x] rfl rfl avA4 hol2 szA4 ?_
            intro v4 w4 o4 g4 s4
            have b4 := below_grown BA4 g4 oA4 szA4
            go_wp2_with fail
            go_roundw
            case rel => exact ⟨j + 1, true, ((out ++ [a]) ++ [x]), by omega, by simp, rfl, o4, HQ1.out, b4⟩
            case measure =>
              simp [intOf]
              omega
        · have hid : x.id ≠ a.id := by omega
          have hid' : (x.id == a.id) = false := by simpa using hid
          have HQ1 : Hid ((out ++ [x]) ++ putG a false (σ.xs.drop (j + 1)) = putG a false σ.xs) := by
            show _ = _
            rw [← hq]
            simp [hid, hle]
          clear hq
          go_upto_region 10 with fail
          obtain ⟨oA3, avA3, szA3, BA3⟩ := HAP.out w1 x u4 out B1 ho1
          refine wp_region_lit ?_
          iterate 3 go_step
          refine wpList_load_mid rfl 47 (.tmp 7) rfl X 0 rfl (c16 x) _ hx1 Tryd.underlying47 rfl size16R ?_
          refine wpList_bsR rfl (.tmp 36) rfl x rfl ?_
          refine wpList_appA tyR rfl _ _ rfl W0.heap.size _ _ rfl oA3 _ _ _ [x] rfl rfl avA3 hol1 szA3 ?_
          intro v3 w3 o3 g3 s3
          have b3 := below_grown BA3 g3 oA3 szA3
          go_wp2_with fail
          go_roundw
          case rel => exact ⟨j + 1, false, (out ++ [x]), by omega, by simp, rfl, o3, HQ1.out, b3⟩
          case measure =>
            simp [intOf]
            omega
      · by_cases hid : x.id = a.id
        · have hid' : (x.id == a.id) = true := by simpa using hid
          have HQ1 : Hid (out ++ putG a true (σ.xs.drop (j + 1)) = putG a false σ.xs) := by
            show _ = _
            rw [← hq]
            simp [hid]
          clear hq
          go_wp2_with fail
          go_roundw
          case rel => exact ⟨j + 1, true, out, by omega, by simp, rfl, ho1, HQ1.out, B1⟩
          case measure =>
            simp [intOf]
            omega
        · have hid' : (x.id == a.id) = false := by simpa using hid
          have HQ1 : Hid ((out ++ [x]) ++ putG a true (σ.xs.drop (j + 1)) = putG a false σ.xs) := by
            show _ = _
            rw [← hq]
            simp [hid]
          clear hq
          go_upto_region 10 with fail
          obtain ⟨oA3, avA3, szA3, BA3⟩ := HAP.out w1 x u4 out B1 ho1
          refine wp_region_lit ?_
          iterate 3 go_step
          refine wpList_load_mid rfl 47 (.tmp 7) rfl X 0 rfl (c16 x) _ hx1 Tryd.underlying47 rfl size16R ?_
          refine wpList_bsR rfl (.tmp 36) rfl x rfl ?_
          refine wpList_appA tyR rfl _ _ rfl W0.heap.size _ _ rfl oA3 _ _ _ [x] rfl rfl avA3 hol1 szA3 ?_
          intro v3 w3 o3 g3 s3
          have b3 := below_grown BA3 g3 oA3 szA3
          go_wp2_with fail
          go_roundw
          case rel => exact ⟨j + 1, true, (out ++ [x]), by omega, by simp, rfl, o3, HQ1.out, b3⟩
          case measure =>
            simp [intOf]
            omega
    · obtain rfl : j = n := by omega
      have hq := HQ.out
      rw [List.drop_eq_nil_of_le (by rw [hN.out]; exact Nat.le_refl _), HPI.out] at hq
      obtain ⟨-, hat, hBw⟩ := HW _ hb
      obtain ⟨z1, z2⟩ := HM _ hBw
      cases dn
      · have HF : Hid (out ++ [a] = insA a σ.xs) := hq
        have avA := av_one wr a 47
        have oA := ho.below ((Below.refl _ wr).alloc (Nat.le_refl _) (.cells (acA a) 47))
        have BA : Below W0.heap.size W0 (wr.alloc (.cells (acA a) 47)) := hb.alloc hb.size _
        have szA := BA.size
        have hol1 : out.length + 1 ≤ 100000 := by omega
        clear hq
        go_upto_region 13 with fail
        refine wp_region_lit ?_
        iterate 3 go_step
        refine wpList_load_mid rfl 47 (.tmp 3) rfl w.heap.size 0 rfl (c16 a) _ hat Tryd.underlying47 rfl size16R ?_
        refine wpList_bsR rfl (.tmp 43) rfl a rfl ?_
        refine wpList_appA tyR rfl _ _ rfl W0.heap.size _ _ rfl oA _ _ _ [a] rfl rfl avA hol1 szA ?_
        intro v3 w3 o3 g3 s3
        have b3 := below_grown BA g3 oA szA
        obtain ⟨y1, y2⟩ := HM _ (HW _ b3).2.2
        obtain ⟨va, vc, e3, -⟩ := o3.sl
        rw [List.length_append, List.length_singleton] at e3
        subst e3
        go_wp2_with fail
        go_end0
        obtain ⟨q1, q2⟩ := HFR.out w3 _ (HW _ b3).2.2 (by rw [← HF.out]; exact o3.lower HS.out)
        exact ⟨rfl, _, ⟨S, A, K, _, rfl, q1⟩, q2⟩
      · have HF : Hid (out = insA a σ.xs) := by
          show out = _
          have : out ++ [] = insA a σ.xs := hq
          simpa using this
        clear hq hat
        obtain ⟨va, vc, rfl, -⟩ := ho.sl
        go_wp2_with fail
        go_end0
        obtain ⟨q1, q2⟩ := HFR.out wr _ hBw (by rw [← HF.out]; exact ho.lower HS.out)
        exact ⟨rfl, _, ⟨S, A, K, _, rfl, q1⟩, q2⟩
end
end Go.Proofs.YtjgclehghnmhnaaDoor
