/- The statements' plain; rows that are alike. -/
/- The document's Discard, Drop. -/
import Derived.Test.YtjgclehghnmhnaaDoorJ06LCores
import Derived.Test.YtjgclehghnmhnaaDoorJ03LCores
namespace Go.Proofs.YtjgclehghnmhnaaDoor
open Go Go.RowKit

section
variable {w : World} {xs : List Ac} {a b : Option Addr}
set_option maxHeartbeats 4000000 in
set_option maxRecDepth 100000 in
theorem plain_any (c : Nat) (he : AV w a xs) (hl : xs.length ≤ 4096) :
    Calls Tryd.prog 13 #[.slice a xs.length c] w fun e w' => ∃ v, e = .returned v ∧ OwA 47 w' w.heap.size v xs ∧ Below w.heap.size w w' := by
  obtain ⟨n, hN⟩ : ∃ n, Hid (xs.length = n) := ⟨_, rfl⟩
  have hn' : n ≤ 4096 := by rw [← hN.out]; exact hl
  rw [hN.out]
  clear hl
  go_enter Tryd.func13, Tryd.ntmps13
  go_upto_region 3 with fail
  go_loopw [3, 8, 5] (fun s x _ wr => ∃ (j : Nat) (out : List Ac), j ≤ n ∧ x = .int .i64 j ∧ OwA 47 wr w.heap.size s out ∧ out ++ xs.drop j = xs ∧ Below w.heap.size w wr) (fun _ x _ _ => 4096 - (intOf x).toNat)
  case atStart => exact ⟨0, [], Nat.zero_le _, rfl, OwA.nil _ _, rfl, Below.refl _ _⟩
  case round =>
    obtain ⟨j, out, hj, rfl, ho, heq, hb⟩ := hrel
    have HQ := Hid.mk heq
    have hol : out.length ≤ 4096 := by
      have e := congrArg List.length heq
      rw [List.length_append] at e
      have := hN.out
      omega
    clear heq
    by_cases hlt : j < n
    · have hjx : j < xs.length := by rw [hN.out]; exact hlt
      have hq := HQ.out
      rw [ac_drop hjx] at hq
      obtain ⟨b, o, rfl, hc⟩ := he.below hb j hjx
      have hlt' : (j : Int) < (n : Int) := by omega
      have hxr : wr.rangeAt b (o + j * 16) (c16 (ac xs j)) := hc
      have hz0 := Cel.new wr (acA zA) 44
      have hth := hz0.there
      have hcx : Cel ((wr.alloc (.cells (acA zA) 44)).setCells wr.heap.size 0 (c16 (ac xs j))) wr.heap.size (acA (ac xs j)) 44 := hz0.ac _
      have B1 : Below w.heap.size w ((wr.alloc (.cells (acA zA) 44)).setCells wr.heap.size 0 (c16 (ac xs j))) := (hb.alloc hb.size (.cells (acA zA) 44)).trans ((But.setCells _ 0 _).below (by have := hb.size; simp; omega) (by simpa using hb.size))
      have ho1 : OwA 47 ((wr.alloc (.cells (acA zA) 44)).setCells wr.heap.size 0 (c16 (ac xs j))) w.heap.size u3 out := (ho.below ((Below.refl _ wr).alloc (Nat.le_refl _) _)).put (fun k hk => (But.setCells _ 0 _).block k (by have := (ho.lt hk).2; simp; omega) (by have := (ho.lt hk).2; simp; omega))
      have HQ1 : Hid ((out ++ [ac xs j]) ++ xs.drop (j + 1) = xs) := by
        show _ = _
        rw [List.append_assoc]
        exact hq
      clear hc hjx hz0 ho hq
      generalize ac xs j = x at *
      rw [zA_A] at *
      go_upto_region 4 with fail
      refine wp_region_lit ?_
      iterate 3 go_step
      refine wpList_load_mid rfl 44 (.tmp 10) rfl b (o + j * 16) rfl (c16 x) _ hxr Tryd.underlying44 rfl size16L ?_
      iterate 3 go_step
      refine wpList_store_mid rfl 44 (.tmp 5) (.tmp 11) rfl wr.heap.size 0 (c16 x).toArray rfl rfl hth size16L (c16_one _) ?_
      rw [show (c16 x).toArray.toList = c16 x from rfl]
      generalize (World.setCells _ wr.heap.size 0 (c16 x)) = w1 at *
      generalize wr.heap.size = X at *
      generalize (Value.agg (c16 x).toArray) = gx at *
      have hx1 : At16 w1 X 0 x := hcx.range
      have hol1 : out.length + 1 ≤ 100000 := by omega
      have oA := ho1.below ((Below.refl _ w1).alloc (Nat.le_refl _) (.cells (acA x) 47))
      have avA := av_one w1 x 47
      have BA : Below w.heap.size w (w1.alloc (.cells (acA x) 47)) := B1.alloc B1.size _
      have szA := BA.size
      clear hcx hth hxr hb
      go_upto_region 5 with fail
      refine wp_region_lit ?_
      iterate 3 go_step
      refine wpList_load_mid rfl 44 (.tmp 5) rfl X 0 rfl (c16 x) _ hx1 Tryd.underlying44 rfl size16L ?_
      refine wpList_bsR rfl (.tmp 13) rfl x rfl ?_
      refine wpList_appA tyR rfl _ _ rfl w.heap.size _ _ rfl oA _ _ _ [x] rfl rfl avA hol1 szA ?_
      intro v3 w3 o3 g3 s3
      have b3 := below_grown BA g3 oA szA
      go_wp2_with fail
      go_roundw
      case rel => exact ⟨j + 1, (out ++ [x]), by omega, by simp, o3, HQ1.out, b3⟩
      case measure =>
        simp [intOf]
        omega
    · obtain rfl : j = n := by omega
      have hq := HQ.out
      rw [List.drop_eq_nil_of_le (by rw [hN.out]; exact Nat.le_refl _), List.append_nil] at hq
      subst hq
      clear HQ
      go_wp2_with fail
      go_ret
      exact ⟨_, rfl, ho, hb⟩
set_option maxHeartbeats 4000000 in
set_option maxRecDepth 100000 in
theorem rsame_any (c d : Nat) (hx : AV w a xs) (hy : AV w b xs) (hl : xs.length ≤ 4096) :
    Calls Tryd.prog 12 #[.slice a xs.length c, .slice b xs.length d] w fun e w' => e = .returned (.bool true) ∧ Below w.heap.size w w' := by
  obtain ⟨n, hN⟩ : ∃ n, Hid (xs.length = n) := ⟨_, rfl⟩
  have hn' : n ≤ 4096 := by rw [← hN.out]; exact hl
  rw [hN.out]
  clear hl
  go_enter Tryd.func12, Tryd.ntmps12
  go_upto_region 4 with fail
  go_loopw [13, 5] (fun v _ wr => ∃ j : Nat, j ≤ n ∧ v = .int .i64 j ∧ Below w.heap.size w wr) (fun v _ _ => 4096 - (intOf v).toNat)
  case atStart => exact ⟨0, Nat.zero_le _, rfl, Below.refl _ _⟩
  case round =>
    obtain ⟨j, hj, rfl, hb⟩ := hrel
    by_cases hlt : j < n
    · have hjx : j < xs.length := by rw [hN.out]; exact hlt
      obtain ⟨g, o, rfl, hc⟩ := hx.below hb j hjx
      obtain ⟨g', o', rfl, hd⟩ := hy.below hb j hjx
      have NE : ∀ W, (binOp .neq 47 (.agg (c16 (ac xs j)).toArray) (.agg (c16 (ac xs j)).toArray)).run Tryd.prog W = .ok (.bool false) W := fun W => by
        have := neAc (ac xs j) (ac xs j) W
        rw [eqA_refl] at this
        exact this
      have hlt' : (j : Int) < (n : Int) := by omega
      have h1 : wr.rangeAt g (o + j * 16) (c16 (ac xs j)) := hc
      have h2 : wr.rangeAt g' (o' + j * 16) (c16 (ac xs j)) := hd
      clear hc hd hjx
      generalize ac xs j = x at *
      go_upto_region 6 with fail
      have bd : Below wr.heap.size wr wr.drew := below_drew wr
      refine wp_region_held_drew (S := (fun w' : World => w'.rangeAt g (o + j * 16) (c16 x) ∧ w'.rangeAt g' (o' + j * 16) (c16 x))) (by kernel_rfl) ⟨range_below h1 bd, range_below h2 bd⟩ (fun hHeld => ?_)
      refine anyH_take (i := 0) (v := ?_) (some 16) rfl rfl (by kernel_rfl) (fun _ _ _ h => h) (Or.inl ⟨by rfl, ?_⟩) (by assumption) ?_
      rotate_left
      · (intro w hSw; go_simp; all_goals with_reducible rfl)
      try simp only [Act.put, List.setIfInBounds_toArray, List.set_cons_zero, List.set_cons_succ]
      refine anyH_take (i := 1) (v := ?_) (some 17) rfl rfl (by kernel_rfl) (fun _ _ _ h => h) (Or.inl ⟨by rfl, ?_⟩) (by assumption) ?_
      rotate_left
      · (intro w hSw; go_simp; all_goals with_reducible rfl)
      try simp only [Act.put, List.setIfInBounds_toArray, List.set_cons_zero, List.set_cons_succ]
      refine anyH_take (i := 2) (v := ?_) (some 18) rfl rfl (by kernel_rfl) (fun _ _ _ h => h) (Or.inl ⟨by rfl, ?_⟩) (by assumption) ?_
      rotate_left
      · (intro w hSw; go_simp; all_goals with_reducible rfl)
      try simp only [Act.put, List.setIfInBounds_toArray, List.set_cons_zero, List.set_cons_succ]
      refine anyH_take (i := 3) (v := .agg (c16 x).toArray) (some 19) rfl rfl (by kernel_rfl) (fun _ _ _ h => h) (yieldsIf_load_mid (by rfl) 47 (.tmp 18) rfl _ (o + j * 16) rfl (c16 x) _ (fun w hSw => hSw.1) Tryd.underlying47 rfl size16R) (by assumption) ?_
      try simp only [Act.put, List.setIfInBounds_toArray, List.set_cons_zero, List.set_cons_succ]
      refine anyH_take (i := 4) (v := ?_) (some 20) rfl rfl (by kernel_rfl) (fun _ _ _ h => h) (Or.inl ⟨by rfl, ?_⟩) (by assumption) ?_
      rotate_left
      · (intro w hSw; go_simp; all_goals with_reducible rfl)
      try simp only [Act.put, List.setIfInBounds_toArray, List.set_cons_zero, List.set_cons_succ]
      refine anyH_take (i := 5) (v := ?_) (some 21) rfl rfl (by kernel_rfl) (fun _ _ _ h => h) (Or.inl ⟨by rfl, ?_⟩) (by assumption) ?_
      rotate_left
      · (intro w hSw; go_simp; all_goals with_reducible rfl)
      try simp only [Act.put, List.setIfInBounds_toArray, List.set_cons_zero, List.set_cons_succ]
      refine anyH_take (i := 6) (v := ?_) (some 22) rfl rfl (by kernel_rfl) (fun _ _ _ h => h) (Or.inl ⟨by rfl, ?_⟩) (by assumption) ?_
      rotate_left
      · (intro w hSw; go_simp; all_goals with_reducible rfl)
      try simp only [Act.put, List.setIfInBounds_toArray, List.set_cons_zero, List.set_cons_succ]
      refine anyH_take (i := 7) (v := .agg (c16 x).toArray) (some 23) rfl rfl (by kernel_rfl) (fun _ _ _ h => h) (yieldsIf_load_mid (by rfl) 47 (.tmp 22) rfl _ (o' + j * 16) rfl (c16 x) _ (fun w hSw => hSw.2) Tryd.underlying47 rfl size16R) (by assumption) ?_
      try simp only [Act.put, List.setIfInBounds_toArray, List.set_cons_zero, List.set_cons_succ]
      refine anyH_take (i := 8) (v := ?_) (some 24) rfl rfl (by kernel_rfl) (fun _ _ _ h => h) (Or.inl ⟨by rfl, ?_⟩) (by assumption) ?_
      rotate_left
      · (intro w hSw; go_simp; all_goals with_reducible rfl)
      try simp only [Act.put, List.setIfInBounds_toArray, List.set_cons_zero, List.set_cons_succ]
      refine wpAnyH_done (by kernel_rfl) ?_ _
      generalize (Value.agg (c16 x).toArray) = gx at *
      have bw := hb.trans (bd.mono hb.size)
      go_wp2_with fail
      go_roundw
      case rel => exact ⟨j + 1, by omega, by simp, bw⟩
      case measure =>
        simp [intOf]
        omega
    · obtain rfl : j = n := by omega
      go_wp2_with fail
      go_ret
      exact ⟨rfl, hb⟩
end
end Go.Proofs.YtjgclehghnmhnaaDoor
namespace Go.Proofs.YtjgclehghnmhnaaDoor
open Go Go.RowKit

theorem in_dis (σ : Sta) (i : Int) (z : Int) (v : Ac) (pe : Int) (τ : Sta)
    (hz : inE [1, 5] σ.xs i = z) (hv : getV σ.xs i = v) (hp : opE 32 noK σ.xs i = pe) (ht : disS σ i = τ) :
    ((z == 0) = false ∧ Hid (pe = z ∧ τ = σ)) ∨ (z = 0 ∧ Hid (pe = 0 ∧ τ = endS σ i)) := by
  rcases in_told fol32 σ i noK id z v pe _ hz hv hp rfl with ⟨h1, h2⟩ | ⟨h1, _, h2⟩
  · refine .inl ⟨h1, h2.out.1, ?_⟩
    have hz' : z ≠ 0 := by simpa using h1
    rw [← ht]
    unfold disS
    rw [hp, h2.out.1, if_neg hz']
  · refine .inr ⟨h1, h2.out.1, ?_⟩
    have h0 : pe = 0 := h2.out.1
    rw [← ht]
    unfold disS
    rw [hp, h0, if_pos rfl]
section
variable {w : World} {M N : Nat} {R : List Nat} {σ : Sta}
set_option maxHeartbeats 2000000 in
set_option maxRecDepth 100000 in
theorem rdis_any (h : RQ w M R N σ) (i : Int) (hi : i ≤ 9223372036854775807) :
    Calls Tryd.prog 38 #[.pointer (some ⟨M, 0, none⟩), .int .i64 i] w fun e w' => e = .returned (.int .i64 (opE 32 noK σ.xs i)) ∧ ∃ R', RQ w' M R' N (disS σ i) ∧ Step R w R' w' := by
  have hI := rin2 h i 1 5
  obtain ⟨z, hz⟩ : ∃ z, Hid (inE [1, 5] σ.xs i = z) := ⟨_, rfl⟩
  obtain ⟨v, hv⟩ : ∃ v, Hid (getV σ.xs i = v) := ⟨_, rfl⟩
  obtain ⟨pe, hpe⟩ : ∃ pe, Hid (opE 32 noK σ.xs i = pe) := ⟨_, rfl⟩
  obtain ⟨τ, hτ⟩ : ∃ τ, Hid (disS σ i = τ) := ⟨_, rfl⟩
  have HC := Hid.mk (in_dis σ i z v pe τ hz.out hv.out hpe.out hτ.out)
  rw [hpe.out, hτ.out]
  rw [hz.out, hv.out] at hI
  have HP : ∀ W, Below w.heap.size w W → Calls Tryd.prog 61 #[.pointer (some ⟨M, 0, none⟩), .int .i64 i] W fun e w' => e = .returned (.tuple #[]) ∧ ∃ R', RQ w' M R' N (endS σ i) ∧ Step R w R' w' := fun W b => (rout_any (h.below b) i hi).mono (fun e w' ⟨e1, R', q, s⟩ => ⟨e1, R', q, (Step.keep (.of_below b)).trans s⟩)
  have HK := fun W b => RQ.back h (W := W) b
  clear hz hv hpe hτ
  go_enter Tryd.func38, Tryd.ntmps38
  go_upto_region 1 with fail
  refine wp_region_lit ?_
  iterate 11 go_step
  go_at_call 60
  with_reducible refine hI.mono ?_
  rintro e w1 ⟨rfl, b1⟩
  dsimp only
  iterate 13 go_step
  have hB1 : Below w.heap.size w w1 := b1
  have hz0 := Cel.new w1 (acA zA) 47
  have hth := hz0.there
  have hcv : Cel ((w1.alloc (.cells (acA zA) 47)).setCells w1.heap.size 0 (c16 v)) w1.heap.size (acA v) 47 := hz0.ac _
  have hB2 : Below w.heap.size w ((w1.alloc (.cells (acA zA) 47)).setCells w1.heap.size 0 (c16 v)) := (hB1.alloc hB1.size (.cells (acA zA) 47)).trans ((But.setCells _ 0 _).below (by have := hB1.size; simp; omega) (by simpa using hB1.size))
  have hXs : w.heap.size ≤ w1.heap.size := hB1.size
  rw [zA_A] at *
  refine wpList_store_mid rfl 47 (.tmp 5) (.tmp 12) rfl w1.heap.size 0 (c16 v).toArray rfl rfl hth size16R (c16_one _) ?_
  rw [show (c16 v).toArray.toList = c16 v from rfl]
  generalize (World.setCells _ w1.heap.size 0 (c16 v)) = W1 at *
  generalize w1.heap.size = X at *
  generalize (Value.agg (acA v)) = ga at *
  clear hI hB1 b1 hz0 hth w1
  rcases HC.out with ⟨hz', HZ⟩ | ⟨rfl, HZ⟩
  · have hz1 : ¬ z = 0 := by simpa using hz'
    go_wp2_with fail
    go_ret
    exact ⟨by rw [HZ.out.1]; rfl, by rw [HZ.out.2]; exact HK _ hB2⟩
  · have hP := HP _ hB2
    clear HP HK hcv hB2
    go_wp2_with (go_at_call 61; (with_reducible refine hP.mono ?_); rintro e w3 ⟨rfl, R', q, s⟩)
    go_ret
    exact ⟨by rw [HZ.out.1]; rfl, R', by rw [HZ.out.2]; exact q, s⟩
theorem drpN_cons0 (sp : Int) (a : Ac) (r : List Ac) : drpN sp (a :: r) = (if a.sp = sp then 1 else 0) + drpN sp r := by
  unfold drpN
  by_cases h : a.sp = sp
  · simp [h]; omega
  · simp [h]
set_option maxHeartbeats 4000000 in
set_option maxRecDepth 100000 in
theorem rdrop_any (h : RQ w M R N σ) (hid : ∀ a ∈ σ.xs, a.id ≤ 9223372036854775807) (q : Int) :
    Calls Tryd.prog 39 #[.pointer (some ⟨M, 0, none⟩), .int .i64 q] w fun e w' => e = .returned (.int .i64 (drpN q σ.xs)) ∧ ∃ R', RQ w' M R' N (drpS q σ.xs σ) ∧ Step R w R' w' := by
  obtain ⟨S, A, K, v, rfl, hm⟩ := h
  have hl := hm.len
  have ap := hm.apart
  have hv0 : ∀ W, But [M, K] w W → ∀ sl c, v = .slice sl σ.xs.length c → AV w sl σ.xs → AV W sl σ.xs := fun W hb sl c e he => by
    subst e
    refine he.put (fun b o e => hb.block b ?_ ?_)
    · obtain ⟨a', c', e1, -, -, h3⟩ := hm.h.sl
      cases e1
      rcases h3 with ⟨h3, _⟩ | ⟨g, h3, _, h4⟩
      · rw [h3] at e; cases e
      · rw [h3] at e; cases e; exact h4
    · obtain ⟨a', c', e1, -, -, h3⟩ := hm.h.sl
      cases e1
      rcases h3 with ⟨h3, _⟩ | ⟨g, h3, _, h4⟩
      · rw [h3] at e; cases e
      · rw [h3] at e
        cases e
        have hob : (Value.slice sl σ.xs.length c).ownBlock = some b := by rw [h3]; rfl
        simp only [List.mem_cons, List.not_mem_nil, or_false, not_or]
        exact ⟨fun e => ap.2.2.2.1 (by rw [hob, e]), fun e => ap.2.2.2.2.2.2 (by rw [hob, e])⟩
  obtain ⟨sl, c, rfl, he⟩ := hm.shape
  have c1 := hm.c1
  have HV : Hid (∀ W, But [M, K] w W → AV W sl σ.xs) := fun W hb => hv0 W hb sl c rfl he
  obtain ⟨n, hN⟩ : ∃ n, Hid (σ.xs.length = n) := ⟨_, rfl⟩
  have hn' : n ≤ 4096 := by rw [← hN.out]; exact hl
  have HS0 := Hid.mk hm
  rw [hN.out] at c1
  obtain ⟨kN, hkN⟩ : ∃ k, Hid (drpN q σ.xs = k) := ⟨_, rfl⟩
  obtain ⟨σN, hσN⟩ : ∃ s, Hid (drpS q σ.xs σ = s) := ⟨_, rfl⟩
  rw [hkN.out, hσN.out]
  have hkl : kN ≤ 4096 := by
    rw [← hkN.out]
    exact Nat.le_trans (List.length_filter_le _ _) hl
  obtain ⟨T0, hT0⟩ : ∃ T0, Hid (bR M S A K (.slice sl σ.xs.length c) = T0) := ⟨_, rfl⟩
  rw [hT0.out]
  clear hl hm ap hv0 he
  go_enter Tryd.func39, Tryd.ntmps39
  go_upto_region 3 with fail
  go_loopw [5, 13, 7] (fun cc x _ wr => ∃ (j k : Nat) (v1 : Value) (σ1 : Sta), j ≤ n ∧ x = .int .i64 j ∧ cc = .int .i64 k ∧ k + drpN q (σ.xs.drop j) = kN ∧ drpS q (σ.xs.drop j) σ1 = σN ∧ RM wr M S A K N v1 σ1 ∧ Step T0 w (bR M S A K v1) wr ∧ But [M, K] w wr) (fun _ x _ _ => 4096 - (intOf x).toNat)
  case atStart => exact ⟨0, 0, _, σ, Nat.zero_le _, rfl, rfl, by rw [← hkN.out]; simp, hσN.out, HS0.out, by rw [← hT0.out]; exact Step.refl _ _, But.refl _ _⟩
  case round =>
    obtain ⟨j, k, v1, σ1, hj, rfl, rfl, hk, hd, hm1, hs1, hb1⟩ := hrel
    have HK := Hid.mk hk
    have HD := Hid.mk hd
    clear hk hd
    by_cases hlt : j < n
    · have hjx : j < σ.xs.length := by rw [hN.out]; exact hlt
      have hk := HK.out
      have hd := HD.out
      rw [ac_drop hjx, drpN_cons0] at hk
      rw [ac_drop hjx] at hd
      have hx9 := hid _ (ac_mem hjx)
      obtain ⟨b, o, rfl, hc⟩ := HV.out _ hb1 j hjx
      have hlt' : (j : Int) < (n : Int) := by omega
      have hxr : wr.rangeAt b (o + j * 16) (c16 (ac σ.xs j)) := hc
      have hz0 := Cel.new wr (acA zA) 47
      have hth := hz0.there
      have hcx : Cel ((wr.alloc (.cells (acA zA) 47)).setCells wr.heap.size 0 (c16 (ac σ.xs j))) wr.heap.size (acA (ac σ.xs j)) 47 := hz0.ac _
      have B1 : Below wr.heap.size wr ((wr.alloc (.cells (acA zA) 47)).setCells wr.heap.size 0 (c16 (ac σ.xs j))) := ((Below.refl _ wr).alloc (Nat.le_refl _) (.cells (acA zA) 47)).trans ((But.setCells _ 0 _).below (by simp) (by simp))
      clear hc hjx hz0
      generalize ac σ.xs j = x at *
      rw [zA_A] at *
      go_upto_region 4 with fail
      refine wp_region_lit ?_
      iterate 3 go_step
      refine wpList_load_mid rfl 47 (.tmp 15) rfl b (o + j * 16) rfl (c16 x) _ hxr Tryd.underlying47 rfl size16R ?_
      iterate 3 go_step
      refine wpList_store_mid rfl 47 (.tmp 7) (.tmp 16) rfl wr.heap.size 0 (c16 x).toArray rfl rfl hth size16R (c16_one _) ?_
      rw [show (c16 x).toArray.toList = c16 x from rfl]
      generalize (World.setCells _ wr.heap.size 0 (c16 x)) = w1 at *
      have n0 : w1.cell? ⟨wr.heap.size, 0, none⟩ = some (.int .i64 x.id) := hcx.cell (j := 0) rfl
      have n2 : w1.cell? ⟨wr.heap.size, 2, none⟩ = some (.int .i64 x.sp) := hcx.cell (j := 2) rfl
      have hm2 := hm1.below B1
      have hs2 : Step T0 w (bR M S A K v1) w1 := hs1.trans (Step.keep (.of_below B1))
      have hb2 : But [M, K] w w1 := hb1.trans (.of_below B1)
      generalize wr.heap.size = X at *
      generalize (Value.agg (c16 x).toArray) = gx at *
      clear hcx hth hxr hm1 hs1 hb1 B1
      by_cases hq : x.sp = q
      · have hq' : (x.sp == q) = true := by simpa using hq
        have HK1 : Hid ((k + 1) + drpN q (σ.xs.drop (j + 1)) = kN) := by
          rw [if_pos hq] at hk
          show _ = _
          omega
        have HD1 : Hid (drpS q (σ.xs.drop (j + 1)) (endS σ1 x.id) = σN) := by
          have hd' : drpS q (σ.xs.drop (j + 1)) (if x.sp = q then endS σ1 x.id else σ1) = σN := hd
          rw [if_pos hq] at hd'
          exact hd'
        have hkk : k + 1 ≤ 4096 := by have := HK1.out; omega
        have hw1 : IntKind.i64.wrap ((k : Int) + 1) = ((k + 1 : Nat) : Int) := by rw [IntKind.wrap_i64]; omega
        have hF := rout_rm hm2 x.id hx9
        clear hk hd hq
        go_wp2_with (go_at_call 61; (with_reducible refine hF.mono ?_); rintro e w3 ⟨rfl, v3, m3, s3, b3⟩; have s4 := hs2.trans s3; have b4 := hb2.trans b3)
        go_roundw
        case rel => exact ⟨j + 1, k + 1, v3, endS σ1 x.id, by omega, by simp, by simp, HK1.out, HD1.out, m3, s4, b4⟩
        case measure =>
          simp [intOf]
          omega
      · have hq' : (x.sp == q) = false := by simpa using hq
        have HK1 : Hid (k + drpN q (σ.xs.drop (j + 1)) = kN) := by
          rw [if_neg hq] at hk
          show _ = _
          omega
        have HD1 : Hid (drpS q (σ.xs.drop (j + 1)) σ1 = σN) := by
          have hd' : drpS q (σ.xs.drop (j + 1)) (if x.sp = q then endS σ1 x.id else σ1) = σN := hd
          rw [if_neg hq] at hd'
          exact hd'
        clear hk hd hq
        go_wp2_with fail
        go_roundw
        case rel => exact ⟨j + 1, k, v1, σ1, by omega, by simp, rfl, HK1.out, HD1.out, hm2, hs2, hb2⟩
        case measure =>
          simp [intOf]
          omega
    · obtain rfl : j = n := by omega
      have hk := HK.out
      have hd := HD.out
      rw [List.drop_eq_nil_of_le (by rw [hN.out]; exact Nat.le_refl _)] at hk hd
      have HK1 : Hid (k = kN) := hk
      have HD1 : Hid (σ1 = σN) := hd
      clear hk hd HK HD
      go_wp2_with fail
      go_ret
      exact ⟨by rw [← HK1.out]; rfl, _, ⟨S, A, K, v1, rfl, by rw [← HD1.out]; exact hm1⟩, hs1⟩
end
end Go.Proofs.YtjgclehghnmhnaaDoor
