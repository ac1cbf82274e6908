/- The document's put. -/
/- The document's in. -/
import Derived.Test.YtjgclehghnmhnaaDoorJ01LCopies
namespace Go.Proofs.YtjgclehghnmhnaaDoor
open Go Go.RowKit

section
variable {w : World} {M N : Nat} {R : List Nat} {σ : Sta}
theorem putG_cons (a : Ac) (d : Bool) (x : Ac) (r : List Ac) : putG a d (x :: r) = (if !d && decide (a.id ≤ x.id) then [a] else []) ++ ((if x.id ≠ a.id then [x] else []) ++ putG a (d || decide (a.id ≤ x.id)) r) := rfl
set_option maxHeartbeats 4000000 in
set_option maxRecDepth 100000 in
theorem rput_any (h : RQ w M R N σ) (a : Ac) (hl1 : (insA a σ.xs).length ≤ 4096) :
    Calls Tryd.prog 58 #[.pointer (some ⟨M, 0, none⟩), .agg (acA a)] w fun e w' => e = .returned (.tuple #[]) ∧ ∃ R', RQ w' M R' N { σ with xs := insA a σ.xs } ∧ Step R w R' w' := by
  obtain ⟨S, A, K, v, rfl, hm⟩ := h
  have ba : Below w.heap.size w (w.alloc (.cells (acA a) 47)) := (Below.refl _ _).alloc (Nat.le_refl _) _
  have hl := hm.len
  have HFR : Hid (∀ W v', Below w.heap.size w W → OwA 47 W w.heap.size v' (insA a σ.xs) → RM (W.setCell ⟨M, 1, none⟩ v') M S A K N v' { σ with xs := insA a σ.xs } ∧ Step (bR M S A K v) w (bR M S A K v') (W.setCell ⟨M, 1, none⟩ v')) := fun W v' hB ho => ⟨(hm.fresh hB ho hl1 (insA_srt hm.srt)).1, (hm.fresh hB ho hl1 (insA_srt hm.srt)).2.1⟩
  have HPI : Hid (putG a false σ.xs = insA a σ.xs) := putG_ins a hm.srt
  have HLN : Hid ((insA a σ.xs).length ≤ 4096) := hl1
  obtain ⟨sl, c, rfl, he⟩ := hm.shape
  have c1 := (hm.below ba).c1
  have HM : ∀ W, Below w.heap.size w W → W.cell? ⟨M, 1, none⟩ = some (.slice sl σ.xs.length c) ∧ W.frozen? ⟨M, 1, none⟩ = false := fun W hB => ⟨(hm.below hB).c1, (hm.below hB).fb 1⟩
  have hat0 := Cel.new w (acA a) 47
  have he0 := he.below ba
  obtain ⟨n, hN⟩ : ∃ n, Hid (σ.xs.length = n) := ⟨_, rfl⟩
  have hn' : n ≤ 4096 := by rw [← hN.out]; exact hl
  rw [hN.out] at c1 HM
  clear hl hm he hl1
  have HW : ∀ W, Below (w.alloc (.cells (acA a) 47)).heap.size (w.alloc (.cells (acA a) 47)) W → AV W sl σ.xs ∧ At16 W w.heap.size 0 a ∧ Below w.heap.size w W := fun W b => ⟨he0.below b, (hat0.below b).range, below2 ba ba.size b⟩
  have HS : Hid (w.heap.size ≤ (w.alloc (.cells (acA a) 47)).heap.size) := ba.size
  clear hat0 he0 ba
  go_enter Tryd.func58, Tryd.ntmps58
  go_upto_region 4 with fail
  generalize (w.alloc (.cells (acA a) 47)) = W0 at *
  generalize (Value.agg (acA a)) = ga at *
  obtain ⟨A0, hA0⟩ : ∃ A0, Hid (w.heap.size = A0) := ⟨_, rfl⟩
  have HWc : ∀ W, Below W0.heap.size W0 W → W.cell? ⟨w.heap.size, 0, none⟩ = some (.int .i64 a.id) := fun W b => (HW W b).2.1.cells.1
  go_loopw [4, 5, 13, 7] (fun s d v _ wr => ∃ (j : Nat) (dn : Bool) (out : List Ac), j ≤ n ∧ v = .int .i64 j ∧ d = .bool dn ∧ OwA 47 wr W0.heap.size s out ∧ out ++ putG a dn (σ.xs.drop j) = putG a false σ.xs ∧ Below W0.heap.size W0 wr) (fun _ _ v _ _ => 4096 - (intOf v).toNat)
  case atStart => exact ⟨0, false, [], Nat.zero_le _, rfl, rfl, OwA.nil _ _, rfl, Below.refl _ _⟩
  case round =>
    obtain ⟨j, dn, out, hj, rfl, rfl, ho, heq, hb⟩ := hrel
    have HQ := Hid.mk heq
    have hol : out.length ≤ 4096 := by
      have e := congrArg List.length heq
      rw [HPI.out, List.length_append] at e
      have := HLN.out
      omega
    clear heq
    by_cases hlt : j < n
    · have hjx : j < σ.xs.length := by rw [hN.out]; exact hlt
      have hq := HQ.out
      rw [ac_drop hjx, putG_cons] at hq
      obtain ⟨b, o, rfl, hc⟩ := (HW _ hb).1 j hjx
      have hlt' : (j : Int) < (n : Int) := by omega
      have hxr : wr.rangeAt b (o + j * 16) (c16 (ac σ.xs j)) := hc
      have hz0 := Cel.new wr (acA zA) 47
      have hth := hz0.there
      have hcx : Cel ((wr.alloc (.cells (acA zA) 47)).setCells wr.heap.size 0 (c16 (ac σ.xs j))) wr.heap.size (acA (ac σ.xs j)) 47 := hz0.ac _
      have B1 : Below W0.heap.size W0 ((wr.alloc (.cells (acA zA) 47)).setCells wr.heap.size 0 (c16 (ac σ.xs j))) := (hb.alloc hb.size (.cells (acA zA) 47)).trans ((But.setCells _ 0 _).below (by have := hb.size; simp; omega) (by simpa using hb.size))
      have ho1 : OwA 47 ((wr.alloc (.cells (acA zA) 47)).setCells wr.heap.size 0 (c16 (ac σ.xs j))) W0.heap.size u4 out := (ho.below ((Below.refl _ wr).alloc (Nat.le_refl _) _)).put (fun k hk => (But.setCells _ 0 _).block k (by have := (ho.lt hk).2; simp; omega) (by have := (ho.lt hk).2; simp; omega))
      have hxr' := range_below hxr ((Below.refl _ wr).alloc (Nat.le_refl _) (.cells (acA zA) 47))
      have hsX : u4.ownBlock ≠ some wr.heap.size := fun e => by
        have := (ho.lt e).2
        omega
      clear hc hjx hz0 ho
      generalize ac σ.xs j = x at *
      rw [zA_A] at *
      go_upto_region 5 with fail
      refine wp_region_lit ?_
      iterate 3 go_step
      refine wpList_load_mid rfl 47 (.tmp 15) rfl b (o + j * 16) rfl (c16 x) _ hxr Tryd.underlying47 rfl size16R ?_
      iterate 3 go_step
      refine wpList_store_mid rfl 47 (.tmp 7) (.tmp 16) rfl wr.heap.size 0 (c16 x).toArray rfl rfl hth size16R (c16_one _) ?_
      rw [show (c16 x).toArray.toList = c16 x from rfl]
      generalize (World.setCells _ wr.heap.size 0 (c16 x)) = w1 at *
      generalize wr.heap.size = X at *
      generalize (Value.agg (c16 x).toArray) = gx at *
      have hx1 : At16 w1 X 0 x := hcx.range
      have n0 : w1.cell? ⟨X, 0, none⟩ = some (.int .i64 x.id) := hcx.cell (j := 0) rfl
      have m0 := HWc _ B1
      have hol1 : out.length + 1 ≤ 100000 := by omega
      have hol2 : (out ++ [a]).length + 1 ≤ 100000 := by simp; omega
      have HAP : Hid (∀ W y v2 ot, Below W0.heap.size W0 W → OwA 47 W W0.heap.size v2 ot → OwA 47 (W.alloc (.cells (acA y) 47)) W0.heap.size v2 ot ∧ AV (W.alloc (.cells (acA y) 47)) (some ⟨W.heap.size, 0, none⟩) [y] ∧ W0.heap.size ≤ (W.alloc (.cells (acA y) 47)).heap.size ∧ Below W0.heap.size W0 (W.alloc (.cells (acA y) 47))) := fun W y v2 ot b ho => ⟨ho.below ((Below.refl _ _).alloc (Nat.le_refl _) _), av_one W y 47, by have := b.size; simp; omega, b.alloc b.size _⟩
      clear hcx hth hxr hxr' hb
      cases dn
      · by_cases hle : a.id ≤ x.id
        · by_cases hid : x.id = a.id
          · have hid' : (x.id == a.id) = true := by simpa using hid
            have HQ1 : Hid ((out ++ [a]) ++ putG a true (σ.xs.drop (j + 1)) = putG a false σ.xs) := by
              show _ = _
              rw [← hq]
              simp [hid]
            clear hq
            have hA1 := (HW _ B1).2.1
            go_upto_region 7 with fail
            obtain ⟨oA3, avA3, szA3, BA3⟩ := HAP.out w1 a u4 out B1 ho1
            refine wp_region_lit ?_
            iterate 3 go_step
            refine wpList_load_mid rfl 47 (.tmp 3) rfl w.heap.size 0 rfl (c16 a) _ hA1 Tryd.underlying47 rfl size16R ?_
            refine wpList_bsR rfl (.tmp 27) rfl a rfl ?_
            refine wpList_appA tyR rfl _ _ rfl W0.heap.size _ _ rfl oA3 _ _ _ [a] rfl rfl avA3 hol1 szA3 ?_
            intro v3 w3 o3 g3 s3
            have b3 := below_grown BA3 g3 oA3 szA3
            have hx3 := at_grown (at_alloc hx1 (.cells (acA a) 47)) g3 hsX
            have n3 := hx3.cells.1
            have m3 := HWc _ b3
            clear n0 m0
            go_wp2_with fail
            go_roundw
            case rel => exact ⟨j + 1, true, (out ++ [a]), by omega, by simp, rfl, o3, HQ1.out, b3⟩
            case measure =>
              simp [intOf]
              omega
          · have hid' : (x.id == a.id) = false := by simpa using hid
            have HQ1 : Hid (((out ++ [a]) ++ [x]) ++ putG a true (σ.xs.drop (j + 1)) = putG a false σ.xs) := by
              show _ = _
              rw [← hq]
              simp [hid, hle]
            clear hq
            have hA1 := (HW _ B1).2.1
            go_upto_region 7 with fail
            obtain ⟨oA3, avA3, szA3, BA3⟩ := HAP.out w1 a u4 out B1 ho1
            refine wp_region_lit ?_
            iterate 3 go_step
            refine wpList_load_mid rfl 47 (.tmp 3) rfl w.heap.size 0 rfl (c16 a) _ hA1 Tryd.underlying47 rfl size16R ?_
            refine wpList_bsR rfl (.tmp 27) rfl a rfl ?_
            refine wpList_appA tyR rfl _ _ rfl W0.heap.size _ _ rfl oA3 _ _ _ [a] rfl rfl avA3 hol1 szA3 ?_
            intro v3 w3 o3 g3 s3
            have b3 := below_grown BA3 g3 oA3 szA3
            have hx3 := at_grown (at_alloc hx1 (.cells (acA a) 47)) g3 hsX
            have n3 := hx3.cells.1
            have m3 := HWc _ b3
            clear n0 m0
            go_upto_region 10 with fail
            obtain ⟨oA4, avA4, szA4, BA4⟩ := HAP.out w3 x v3 (out ++ [a]) b3 o3
            refine wp_region_lit ?_
            iterate 3 go_step
            refine wpList_load_mid rfl 47 (.tmp 7) rfl X 0 rfl (c16 x) _ hx3 Tryd.underlying47 rfl size16R ?_
            refine wpList_bsR rfl (.tmp 36) rfl x rfl ?_
            refine wpList_appA tyR rfl _ _ rfl W0.heap.size _ _ rfl oA4 _ _ _ [x] rfl rfl avA4 hol2 szA4 ?_
            intro v4 w4 o4 g4 s4
            have b4 := below_grown BA4 g4 oA4 szA4
            go_wp2_with fail
            go_roundw
            case rel => exact ⟨j + 1, true, ((out ++ [a]) ++ [x]), by omega, by simp, rfl, o4, HQ1.out, b4⟩
            case measure =>
              simp [intOf]
              omega
        · have hid : x.id ≠ a.id := by omega
          have hid' : (x.id == a.id) = false := by simpa using hid
          have HQ1 : Hid ((out ++ [x]) ++ putG a false (σ.xs.drop (j + 1)) = putG a false σ.xs) := by
            show _ = _
            rw [← hq]
            simp [hid, hle]
          clear hq
          go_upto_region 10 with fail
          obtain ⟨oA3, avA3, szA3, BA3⟩ := HAP.out w1 x u4 out B1 ho1
          refine wp_region_lit ?_
          iterate 3 go_step
          refine wpList_load_mid rfl 47 (.tmp 7) rfl X 0 rfl (c16 x) _ hx1 Tryd.underlying47 rfl size16R ?_
          refine wpList_bsR rfl (.tmp 36) rfl x rfl ?_
          refine wpList_appA tyR rfl _ _ rfl W0.heap.size _ _ rfl oA3 _ _ _ [x] rfl rfl avA3 hol1 szA3 ?_
          intro v3 w3 o3 g3 s3
          have b3 := below_grown BA3 g3 oA3 szA3
          go_wp2_with fail
          go_roundw
          case rel => exact ⟨j + 1, false, (out ++ [x]), by omega, by simp, rfl, o3, HQ1.out, b3⟩
          case measure =>
            simp [intOf]
            omega
      · by_cases hid : x.id = a.id
        · have hid' : (x.id == a.id) = true := by simpa using hid
          have HQ1 : Hid (out ++ putG a true (σ.xs.drop (j + 1)) = putG a false σ.xs) := by
            show _ = _
            rw [← hq]
            simp [hid]
          clear hq
          go_wp2_with fail
          go_roundw
          case rel => exact ⟨j + 1, true, out, by omega, by simp, rfl, ho1, HQ1.out, B1⟩
          case measure =>
            simp [intOf]
            omega
        · have hid' : (x.id == a.id) = false := by simpa using hid
          have HQ1 : Hid ((out ++ [x]) ++ putG a true (σ.xs.drop (j + 1)) = putG a false σ.xs) := by
            show _ = _
            rw [← hq]
            simp [hid]
          clear hq
          go_upto_region 10 with fail
          obtain ⟨oA3, avA3, szA3, BA3⟩ := HAP.out w1 x u4 out B1 ho1
          refine wp_region_lit ?_
          iterate 3 go_step
          refine wpList_load_mid rfl 47 (.tmp 7) rfl X 0 rfl (c16 x) _ hx1 Tryd.underlying47 rfl size16R ?_
          refine wpList_bsR rfl (.tmp 36) rfl x rfl ?_
          refine wpList_appA tyR rfl _ _ rfl W0.heap.size _ _ rfl oA3 _ _ _ [x] rfl rfl avA3 hol1 szA3 ?_
          intro v3 w3 o3 g3 s3
          have b3 := below_grown BA3 g3 oA3 szA3
          go_wp2_with fail
          go_roundw
          case rel => exact ⟨j + 1, true, (out ++ [x]), by omega, by simp, rfl, o3, HQ1.out, b3⟩
          case measure =>
            simp [intOf]
            omega
    · obtain rfl : j = n := by omega
      have hq := HQ.out
      rw [List.drop_eq_nil_of_le (by rw [hN.out]; exact Nat.le_refl _), HPI.out] at hq
      obtain ⟨-, hat, hBw⟩ := HW _ hb
      obtain ⟨z1, z2⟩ := HM _ hBw
      cases dn
      · have HF : Hid (out ++ [a] = insA a σ.xs) := hq
        have avA := av_one wr a 47
        have oA := ho.below ((Below.refl _ wr).alloc (Nat.le_refl _) (.cells (acA a) 47))
        have BA : Below W0.heap.size W0 (wr.alloc (.cells (acA a) 47)) := hb.alloc hb.size _
        have szA := BA.size
        have hol1 : out.length + 1 ≤ 100000 := by omega
        clear hq
        go_upto_region 13 with fail
        refine wp_region_lit ?_
        iterate 3 go_step
        refine wpList_load_mid rfl 47 (.tmp 3) rfl w.heap.size 0 rfl (c16 a) _ hat Tryd.underlying47 rfl size16R ?_
        refine wpList_bsR rfl (.tmp 43) rfl a rfl ?_
        refine wpList_appA tyR rfl _ _ rfl W0.heap.size _ _ rfl oA _ _ _ [a] rfl rfl avA hol1 szA ?_
        intro v3 w3 o3 g3 s3
        have b3 := below_grown BA g3 oA szA
        obtain ⟨y1, y2⟩ := HM _ (HW _ b3).2.2
        obtain ⟨va, vc, e3, -⟩ := o3.sl
        rw [List.length_append, List.length_singleton] at e3
        subst e3
        go_wp2_with fail
        go_end0
        obtain ⟨q1, q2⟩ := HFR.out w3 _ (HW _ b3).2.2 (by rw [← HF.out]; exact o3.lower HS.out)
        exact ⟨rfl, _, ⟨S, A, K, _, rfl, q1⟩, q2⟩
      · have HF : Hid (out = insA a σ.xs) := by
          show out = _
          have : out ++ [] = insA a σ.xs := hq
          simpa using this
        clear hq hat
        obtain ⟨va, vc, rfl, -⟩ := ho.sl
        go_wp2_with fail
        go_end0
        obtain ⟨q1, q2⟩ := HFR.out wr _ hBw (by rw [← HF.out]; exact ho.lower HS.out)
        exact ⟨rfl, _, ⟨S, A, K, _, rfl, q1⟩, q2⟩
end
end Go.Proofs.YtjgclehghnmhnaaDoor
namespace Go.Proofs.YtjgclehghnmhnaaDoor
open Go Go.RowKit

/-- What in tells of one, asked by states. -/
def inE (sts : List Int) (xs : List Ac) (i : Int) : Int := match fndA xs i with
  | none => 4
  | some a => if sts.contains a.st then 0 else 5
/-- Ints that lie somewhere. -/
def IR (w : World) (a : Option Addr) (l : List Int) : Prop := ∀ j, j < l.length → ∃ b o, a = some ⟨b, o, none⟩ ∧ w.cell? ⟨b, o + j, none⟩ = some (.int .i64 (l.getD j 0))
theorem IR.below {w w' : World} {a : Option Addr} {l : List Int} (h : IR w a l) (hb : Below w.heap.size w w') : IR w' a l := fun j hj => by
  obtain ⟨b, o, e, h0⟩ := h j hj
  exact ⟨b, o, e, cell_on hb h0⟩
theorem ir1 (w : World) (x : Int) : IR (w.alloc (.cells #[.int .i64 x] 3)) (some ⟨w.heap.size, 0, none⟩) [x] := fun j hj => by
  obtain rfl : j = 0 := by simpa using hj
  exact ⟨_, _, rfl, (Cel.new w _ _).cell rfl⟩
theorem ir2 (w : World) (x y : Int) : IR (w.alloc (.cells #[.int .i64 x, .int .i64 y] 3)) (some ⟨w.heap.size, 0, none⟩) [x, y] := fun j hj => by
  simp only [List.length_cons, List.length_nil] at hj
  rcases (by omega : j = 0 ∨ j = 1) with rfl | rfl
  · exact ⟨_, _, rfl, (Cel.new w _ _).cell rfl⟩
  · exact ⟨_, _, rfl, (Cel.new w _ _).cell rfl⟩
theorem ir3 (w : World) (x y z : Int) : IR (w.alloc (.cells #[.int .i64 x, .int .i64 y, .int .i64 z] 3)) (some ⟨w.heap.size, 0, none⟩) [x, y, z] := fun j hj => by
  simp only [List.length_cons, List.length_nil] at hj
  rcases (by omega : j = 0 ∨ j = 1 ∨ j = 2) with rfl | rfl | rfl
  · exact ⟨_, _, rfl, (Cel.new w _ _).cell rfl⟩
  · exact ⟨_, _, rfl, (Cel.new w _ _).cell rfl⟩
  · exact ⟨_, _, rfl, (Cel.new w _ _).cell rfl⟩
theorem getV_some {xs : List Ac} {i : Int} {a : Ac} (h : fndA xs i = some a) : getV xs i = a ∧ getB xs i = true := by
  unfold getV getB
  rw [h]
  exact ⟨rfl, rfl⟩
theorem getV_none {xs : List Ac} {i : Int} (h : fndA xs i = none) : getV xs i = zA ∧ getB xs i = false := by
  unfold getV getB
  rw [h]
  exact ⟨rfl, rfl⟩

section
variable {w : World} {M N : Nat} {R : List Nat} {σ : Sta}
set_option maxHeartbeats 2000000 in
set_option maxRecDepth 100000 in
theorem rin_any (h : RQ w M R N σ) (i : Int) {sl : Option Addr} {sts : List Int} (c : Nat) (hI : IR w sl sts) (hl : sts.length ≤ 4096) :
    Calls Tryd.prog 60 #[.pointer (some ⟨M, 0, none⟩), .int .i64 i, .slice sl sts.length c] w fun e w' => e = .returned (.tuple #[.agg (acA (getV σ.xs i)), .int .i64 (inE sts σ.xs i)]) ∧ Below w.heap.size w w' := by
  have ba : Below w.heap.size w (w.alloc (.cells (acA zA) 47)) := (Below.refl _ _).alloc (Nat.le_refl _) _
  have hG := rget_any (h.below ba) i
  have HI : ∀ W, Below (w.alloc (.cells (acA zA) 47)).heap.size (w.alloc (.cells (acA zA) 47)) W → IR W sl sts ∧ Cel W w.heap.size (acA zA) 47 ∧ Below w.heap.size w W := fun W b => ⟨(hI.below ba).below b, (Cel.new w (acA zA) 47).below b, below2 ba ba.size b⟩
  obtain ⟨z, hz⟩ : ∃ z, Hid (inE sts σ.xs i = z) := ⟨_, rfl⟩
  obtain ⟨v, hv⟩ : ∃ v, Hid (getV σ.xs i = v) := ⟨_, rfl⟩
  obtain ⟨g, hg⟩ : ∃ g, Hid (getB σ.xs i = g) := ⟨_, rfl⟩
  have HE4 : Hid (g = false → z = 4) := fun hg' => by
    have e1 := hg.out
    rw [hg'] at e1
    rw [← hz.out]
    cases hf : fndA σ.xs i with
    | none => unfold inE; rw [hf]
    | some a =>
      rw [(getV_some hf).2] at e1
      cases e1
  have HEK : Hid (g = true → z = if sts.contains v.st then 0 else 5) := fun hg' => by
    have e1 := hg.out
    rw [hg'] at e1
    rw [← hz.out, ← hv.out]
    cases hf : fndA σ.xs i with
    | none =>
      rw [(getV_none hf).2] at e1
      cases e1
    | some a =>
      rw [(getV_some hf).1]
      unfold inE
      rw [hf]
  obtain ⟨n, hN⟩ : ∃ n, Hid (sts.length = n) := ⟨_, rfl⟩
  have HE0 : Hid (∀ k, k < n → sts.getD k 0 = v.st → g = true → z = 0) := fun k hk e hg' => by
    have hk' : k < sts.length := by rw [hN.out]; exact hk
    rw [HEK.out hg', if_pos]
    rw [List.getD_eq_getElem?_getD, List.getElem?_eq_getElem hk'] at e
    rw [List.contains_iff_mem, ← e]
    exact List.getElem_mem hk'
  have HE5 : Hid ((∀ k, k < n → sts.getD k 0 ≠ v.st) → g = true → z = 5) := fun ha hg' => by
    rw [HEK.out hg', if_neg]
    intro hc
    rw [List.contains_iff_mem] at hc
    obtain ⟨k, hk, e⟩ := List.mem_iff_getElem.1 hc
    refine ha k (by rw [← hN.out]; exact hk) ?_
    rw [List.getD_eq_getElem?_getD, List.getElem?_eq_getElem hk]
    exact e
  have hn' : n ≤ 4096 := by rw [← hN.out]; exact hl
  rw [hz.out, hv.out, hN.out]
  rw [hv.out, hg.out] at hG
  clear hI hl ba h HEK
  rw [zA_A] at *
  rw [show acA v = #[.int .i64 v.id, .int .i64 v.st, .int .i64 v.sp, .int .i64 v.co, .int .i64 v.th, .int .i64 v.pg, .int .i64 v.pc, .int .i64 (v.rs 0), .int .i64 (v.rs 1), .int .i64 (v.rs 2), .int .i64 (v.rs 3), .int .i64 (v.rs 4), .int .i64 (v.rs 5), .int .i64 (v.rs 6), .int .i64 (v.rs 7), .int .i64 v.dp] from rfl] at *
  go_enter Tryd.func60, Tryd.ntmps60
  go_upto_region 2 with (go_at_call 18; (with_reducible refine hG.mono ?_); rintro e w1 ⟨rfl, b1⟩; obtain ⟨hI1, hC1, hB1⟩ := HI w1 b1; have hcv := Cel.new w1 (acA v) 47; have bv : Below w1.heap.size w1 (w1.alloc (.cells (acA v) 47)) := (Below.refl _ _).alloc (Nat.le_refl _) _; rw [show acA v = #[.int .i64 v.id, .int .i64 v.st, .int .i64 v.sp, .int .i64 v.co, .int .i64 v.th, .int .i64 v.pg, .int .i64 v.pc, .int .i64 (v.rs 0), .int .i64 (v.rs 1), .int .i64 (v.rs 2), .int .i64 (v.rs 3), .int .i64 (v.rs 4), .int .i64 (v.rs 5), .int .i64 (v.rs 6), .int .i64 (v.rs 7), .int .i64 v.dp] from rfl] at hcv bv)
  have hI2 := hI1.below bv
  have hC2 := hC1.below bv
  have hB2 := below2 hB1 hB1.size bv
  generalize (w1.alloc (.cells #[.int .i64 v.id, .int .i64 v.st, .int .i64 v.sp, .int .i64 v.co, .int .i64 v.th, .int .i64 v.pg, .int .i64 v.pc, .int .i64 (v.rs 0), .int .i64 (v.rs 1), .int .i64 (v.rs 2), .int .i64 (v.rs 3), .int .i64 (v.rs 4), .int .i64 (v.rs 5), .int .i64 (v.rs 6), .int .i64 (v.rs 7), .int .i64 v.dp] 47)) = W1 at *
  generalize w1.heap.size = X at *
  clear hI1 hC1 hB1 bv hG HI b1 w1
  have hrv : W1.rangeAt X 0 (c16 v) := Cel.range (a := v) hcv
  have hth := Cel.there (a := zA) hC2
  have hfin := (Cel.ac (a := zA) v hC2).range
  have hbf : Below w.heap.size w (W1.setCells w.heap.size 0 (c16 v)) := hB2.trans ((But.setCells (c16 v) 0 _).below hB2.size (by simp))
  have hst : W1.cell? ⟨X, 1, none⟩ = some (.int .i64 v.st) := hcv.cell (j := 1) rfl
  clear hcv hC2 hB2
  cases g
  · have HZ : Hid (z = 4) := HE4.out rfl
    clear HE4 HE0 HE5
    go_upto_region 3 with fail
    refine wp_region_lit ?_
    refine wpList_load_mid rfl 47 (.tmp 8) rfl X 0 rfl (c16 v) _ hrv Tryd.underlying47 rfl size16R ?_
    refine wpList_store_mid rfl 47 (.tmp 6) (.tmp 20) rfl w.heap.size 0 (c16 v).toArray rfl rfl hth size16R (c16_one _) ?_
    rw [show (c16 v).toArray.toList = c16 v from rfl]
    generalize World.setCells _ w.heap.size 0 (c16 v) = wf at *
    go_wp2_with fail
    exact bodyPost_ret (results_acR rfl _ _ w.heap.size v (.int .i64 4) rfl rfl hfin) rfl ⟨by rw [HZ.out]; rfl, hbf⟩
  · go_upto_region 5 with fail
    go_loopw [23, 11] (fun x _ wr => ∃ k : Nat, k ≤ n ∧ x = .int .i64 k ∧ (∀ j, j < k → sts.getD j 0 ≠ v.st) ∧ wr = W1) (fun x _ _ => 4096 - (intOf x).toNat)
    case atStart => exact ⟨0, Nat.zero_le _, rfl, fun k hk => by omega, rfl⟩
    case round =>
      obtain ⟨k, hk, rfl, hall, rfl⟩ := hrel
      have HALL := Hid.mk hall
      clear hall
      by_cases hlt : k < n
      · obtain ⟨b, o, rfl, hc⟩ := hI2 k (by rw [hN.out]; exact hlt)
        have hlt' : (k : Int) < (n : Int) := by omega
        by_cases hp : sts.getD k 0 = v.st
        · have HZ : Hid (z = 0) := HE0.out k hlt hp trivial
          rw [hp] at hc
          have hp' : (v.st == v.st) = true := by simp
          clear hp
          go_upto_region 8 with fail
          refine wp_region_lit ?_
          refine wpList_load_mid rfl 47 (.tmp 8) rfl X 0 rfl (c16 v) _ hrv Tryd.underlying47 rfl size16R ?_
          refine wpList_store_mid rfl 47 (.tmp 6) (.tmp 31) rfl w.heap.size 0 (c16 v).toArray rfl rfl hth size16R (c16_one _) ?_
          rw [show (c16 v).toArray.toList = c16 v from rfl]
          generalize World.setCells _ w.heap.size 0 (c16 v) = wf at *
          go_wp2_with fail
          exact bodyPost_ret (results_acR rfl _ _ w.heap.size v (.int .i64 0) rfl rfl hfin) rfl ⟨by rw [HZ.out]; rfl, hbf⟩
        · have hp' : (v.st == sts.getD k 0) = false := by simpa using fun e => hp e.symm
          have HE : Hid (∀ j, j < k + 1 → sts.getD j 0 ≠ v.st) := fun j hj => by
            by_cases e : j = k
            · rw [e]; exact hp
            · exact HALL.out j (by omega)
          clear hp
          generalize sts.getD k 0 = s at *
          go_wp2_with fail
          go_roundw
          case rel => exact ⟨k + 1, by omega, by simp, HE.out, trivial⟩
          case measure =>
            simp [intOf]
            omega
      · obtain rfl : k = n := by omega
        have HZ : Hid (z = 5) := HE5.out HALL.out trivial
        go_upto_region 10 with fail
        refine wp_region_lit ?_
        refine wpList_load_mid rfl 47 (.tmp 8) rfl X 0 rfl (c16 v) _ hrv Tryd.underlying47 rfl size16R ?_
        refine wpList_store_mid rfl 47 (.tmp 6) (.tmp 33) rfl w.heap.size 0 (c16 v).toArray rfl rfl hth size16R (c16_one _) ?_
        rw [show (c16 v).toArray.toList = c16 v from rfl]
        generalize World.setCells _ w.heap.size 0 (c16 v) = wf at *
        go_wp2_with fail
        exact bodyPost_ret (results_acR rfl _ _ w.heap.size v (.int .i64 5) rfl rfl hfin) rfl ⟨by rw [HZ.out]; rfl, hbf⟩
end
end Go.Proofs.YtjgclehghnmhnaaDoor
