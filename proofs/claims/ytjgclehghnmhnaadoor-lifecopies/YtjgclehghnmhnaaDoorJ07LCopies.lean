/- The statements' plain, id; rows that are alike. -/
/- The statements' plain; rows that are alike. -/
import Derived.Test.YtjgclehghnmhnaaDoorJ06LCopies
import Derived.Test.YtjgclehghnmhnaaDoorLfE
import Derived.BigQuiet
namespace Go.Proofs.YtjgclehghnmhnaaDoor
open Go Go.RowKit

/-- The id that a step is about. -/
def idX (xs : List Ac) (s : Sp) : Int := if s.re = true ∧ xs.length ≠ 0 then (ac xs ((s.i % 18446744073709551616) % xs.length).toNat).id else s.i
section
variable {w : World} {M N : Nat} {R : List Nat} {σ : Sta}
set_option maxHeartbeats 2000000 in
set_option maxRecDepth 100000 in
theorem lid_any (h : RQ w M R N σ) (s : Sp) :
    Calls Tryd.prog 31 #[.pointer (some ⟨M, 0, none⟩), .agg (spA s)] w fun e w' => e = .returned (.int .i64 (idX σ.xs s)) ∧ Below w.heap.size w w' := by
  have ba : Below w.heap.size w (w.alloc (.cells (spA s) 32)) := (Below.refl _ _).alloc (Nat.le_refl _) _
  obtain ⟨S, A, K, v, rfl, hm⟩ := h
  have hl := hm.len
  have hcb := Cel.new w (spA s) 32
  have n1 : (w.alloc (.cells (spA s) 32)).cell? ⟨w.heap.size, 1, none⟩ = some (.int .i64 s.i) := hcb.cell (j := 1) rfl
  have n3 : (w.alloc (.cells (spA s) 32)).cell? ⟨w.heap.size, 3, none⟩ = some (.bool s.re) := hcb.cell (j := 3) rfl
  obtain ⟨sl, c, rfl, he⟩ := hm.shape
  have c1 := (hm.below ba).c1
  have he1 := he.below ba
  obtain ⟨z, hz⟩ : ∃ z, Hid (idX σ.xs s = z) := ⟨_, rfl⟩
  have HZ := hz.out
  unfold idX at HZ
  rw [hz.out]
  have HI : Hid (s.re = true → σ.xs.length ≠ 0 → (ac σ.xs ((s.i % 18446744073709551616) % σ.xs.length).toNat).id = z) := fun h1 h2 => by rw [← HZ, if_pos ⟨h1, h2⟩]
  have HN : Hid (¬ (s.re = true ∧ σ.xs.length ≠ 0) → s.i = z) := fun h1 => by rw [← HZ, if_neg h1]
  clear hm hz HZ hcb he
  go_enter Tryd.func31, Tryd.ntmps31
  go_upto_region 1 with fail
  generalize (w.alloc (.cells (spA s) 32)) = W at *
  generalize (Value.agg (spA s)) = ga at *
  cases hre : s.re
  · rw [hre] at n3
    have HF := Hid.mk (HN.out (fun e => by rw [hre] at e; cases e.1))
    clear HI HN hre
    go_wp2_with fail
    go_ret
    exact ⟨by rw [← HF.out]; rfl, ba⟩
  · rw [hre] at n3
    by_cases h0 : σ.xs.length = 0
    · have HF := Hid.mk (HN.out (fun e => e.2 h0))
      clear HI HN hre
      rw [h0] at c1
      clear h0
      go_wp2_with fail
      go_ret
      exact ⟨by rw [← HF.out]; rfl, ba⟩
    · have HF := Hid.mk (HI.out hre h0)
      clear HI HN hre
      have hn0 : 0 < σ.xs.length := by omega
      obtain ⟨k, hk, hkl⟩ : ∃ k : Nat, Hid ((s.i % 18446744073709551616) % (σ.xs.length : Int) = k) ∧ k < σ.xs.length := by
        refine ⟨((s.i % 18446744073709551616) % (σ.xs.length : Int)).toNat, ?_, ?_⟩
        · show _ = _
          have := Int.emod_nonneg (s.i % 18446744073709551616) (b := (σ.xs.length : Int)) (by omega)
          omega
        · have := Int.emod_lt_of_pos (s.i % 18446744073709551616) (b := (σ.xs.length : Int)) (by omega)
          have := Int.emod_nonneg (s.i % 18446744073709551616) (b := (σ.xs.length : Int)) (by omega)
          omega
      obtain ⟨b, o, rfl, hc⟩ := he1 k hkl
      have d0 := hc.cells.1
      have HF2 : Hid ((ac σ.xs k).id = z) := by
        have := HF.out
        rw [hk.out] at this
        exact this
      generalize ac σ.xs k = x at *
      clear HF hc he1
      generalize σ.xs.length = n at *
      have hn1 : (n : Int) ≠ 0 := by omega
      have hkl' : (k : Int) < (n : Int) := by omega
      have u1 : IntKind.u64.wrap (n : Int) = (n : Int) := by rw [IntKind.wrap_u64]; omega
      have u2 : (IntKind.u64.wrap s.i).tmod (n : Int) = (k : Int) := by
        rw [IntKind.wrap_u64, Int.tmod_eq_emod_of_nonneg (Int.emod_nonneg _ (by decide))]
        exact hk.out
      go_upto_region 3 with fail
      have bd : Below W.heap.size W W.drew := below_drew W
      refine wp_region_held_drew (S := (fun w' : World => w'.cell? ⟨M, 1, none⟩ = some (.slice (some ⟨b, o, none⟩) n c) ∧ w'.cell? ⟨w.heap.size, 1, none⟩ = some (.int .i64 s.i) ∧ w'.cell? ⟨b, o + k * 16, none⟩ = some (.int .i64 x.id))) (by kernel_rfl) ⟨cell_on bd c1, cell_on bd n1, cell_on bd d0⟩ (fun hHeld => ?_)
      refine anyH_take (i := 0) (v := ?_) (some 18) rfl rfl (by kernel_rfl) (fun _ _ _ h => h) (Or.inl ⟨by rfl, ?_⟩) (by assumption) ?_
      rotate_left
      · (intro w hSw; obtain ⟨z0, z1, z2⟩ := hSw; go_simp; all_goals with_reducible rfl)
      try simp only [Act.put, List.setIfInBounds_toArray, List.set_cons_zero, List.set_cons_succ]
      refine anyH_take (i := 1) (v := ?_) (some 19) rfl rfl (by kernel_rfl) (fun _ _ _ h => h) (Or.inl ⟨by rfl, ?_⟩) (by assumption) ?_
      rotate_left
      · (intro w hSw; obtain ⟨z0, z1, z2⟩ := hSw; go_simp; all_goals with_reducible rfl)
      try simp only [Act.put, List.setIfInBounds_toArray, List.set_cons_zero, List.set_cons_succ]
      refine anyH_take (i := 2) (v := ?_) (some 20) rfl rfl (by kernel_rfl) (fun _ _ _ h => h) (Or.inl ⟨by rfl, ?_⟩) (by assumption) ?_
      rotate_left
      · (intro w hSw; obtain ⟨z0, z1, z2⟩ := hSw; go_simp; all_goals with_reducible rfl)
      try simp only [Act.put, List.setIfInBounds_toArray, List.set_cons_zero, List.set_cons_succ]
      refine anyH_take (i := 3) (v := ?_) (some 21) rfl rfl (by kernel_rfl) (fun _ _ _ h => h) (Or.inl ⟨by rfl, ?_⟩) (by assumption) ?_
      rotate_left
      · (intro w hSw; obtain ⟨z0, z1, z2⟩ := hSw; go_simp; all_goals with_reducible rfl)
      try simp only [Act.put, List.setIfInBounds_toArray, List.set_cons_zero, List.set_cons_succ]
      refine anyH_take (i := 4) (v := ?_) (some 22) rfl rfl (by kernel_rfl) (fun _ _ _ h => h) (Or.inl ⟨by rfl, ?_⟩) (by assumption) ?_
      rotate_left
      · (intro w hSw; obtain ⟨z0, z1, z2⟩ := hSw; go_simp; all_goals with_reducible rfl)
      try simp only [Act.put, List.setIfInBounds_toArray, List.set_cons_zero, List.set_cons_succ]
      refine anyH_take (i := 5) (v := ?_) (some 23) rfl rfl (by kernel_rfl) (fun _ _ _ h => h) (Or.inl ⟨by rfl, ?_⟩) (by assumption) ?_
      rotate_left
      · (intro w hSw; obtain ⟨z0, z1, z2⟩ := hSw; go_simp; all_goals with_reducible rfl)
      try simp only [Act.put, List.setIfInBounds_toArray, List.set_cons_zero, List.set_cons_succ]
      refine anyH_take (i := 6) (v := ?_) (some 24) rfl rfl (by kernel_rfl) (fun _ _ _ h => h) (Or.inl ⟨by rfl, ?_⟩) (by assumption) ?_
      rotate_left
      · (intro w hSw; obtain ⟨z0, z1, z2⟩ := hSw; go_simp; all_goals with_reducible rfl)
      try simp only [Act.put, List.setIfInBounds_toArray, List.set_cons_zero, List.set_cons_succ]
      refine anyH_take (i := 7) (v := ?_) (some 25) rfl rfl (by kernel_rfl) (fun _ _ _ h => h) (Or.inl ⟨by rfl, ?_⟩) (by assumption) ?_
      rotate_left
      · (intro w hSw; obtain ⟨z0, z1, z2⟩ := hSw; go_simp; all_goals with_reducible rfl)
      try simp only [Act.put, List.setIfInBounds_toArray, List.set_cons_zero, List.set_cons_succ]
      refine anyH_take (i := 8) (v := ?_) (some 26) rfl rfl (by kernel_rfl) (fun _ _ _ h => h) (Or.inl ⟨by rfl, ?_⟩) (by assumption) ?_
      rotate_left
      · (intro w hSw; obtain ⟨z0, z1, z2⟩ := hSw; go_simp; all_goals with_reducible rfl)
      try simp only [Act.put, List.setIfInBounds_toArray, List.set_cons_zero, List.set_cons_succ]
      refine anyH_take (i := 9) (v := ?_) (some 27) rfl rfl (by kernel_rfl) (fun _ _ _ h => h) (Or.inl ⟨by rfl, ?_⟩) (by assumption) ?_
      rotate_left
      · (intro w hSw; obtain ⟨z0, z1, z2⟩ := hSw; go_simp; all_goals with_reducible rfl)
      try simp only [Act.put, List.setIfInBounds_toArray, List.set_cons_zero, List.set_cons_succ]
      refine anyH_take (i := 10) (v := ?_) (some 28) rfl rfl (by kernel_rfl) (fun _ _ _ h => h) (Or.inl ⟨by rfl, ?_⟩) (by assumption) ?_
      rotate_left
      · (intro w hSw; obtain ⟨z0, z1, z2⟩ := hSw; go_simp; all_goals with_reducible rfl)
      try simp only [Act.put, List.setIfInBounds_toArray, List.set_cons_zero, List.set_cons_succ]
      refine anyH_take (i := 11) (v := ?_) (some 29) rfl rfl (by kernel_rfl) (fun _ _ _ h => h) (Or.inl ⟨by rfl, ?_⟩) (by assumption) ?_
      rotate_left
      · (intro w hSw; obtain ⟨z0, z1, z2⟩ := hSw; go_simp; all_goals with_reducible rfl)
      try simp only [Act.put, List.setIfInBounds_toArray, List.set_cons_zero, List.set_cons_succ]
      refine anyH_take (i := 12) (v := ?_) (some 30) rfl rfl (by kernel_rfl) (fun _ _ _ h => h) (Or.inl ⟨by rfl, ?_⟩) (by assumption) ?_
      rotate_left
      · (intro w hSw; obtain ⟨z0, z1, z2⟩ := hSw; go_simp; all_goals with_reducible rfl)
      try simp only [Act.put, List.setIfInBounds_toArray, List.set_cons_zero, List.set_cons_succ]
      refine anyH_take (i := 13) (v := ?_) (some 31) rfl rfl (by kernel_rfl) (fun _ _ _ h => h) (Or.inl ⟨by rfl, ?_⟩) (by assumption) ?_
      rotate_left
      · (intro w hSw; obtain ⟨z0, z1, z2⟩ := hSw; go_simp; all_goals with_reducible rfl)
      try simp only [Act.put, List.setIfInBounds_toArray, List.set_cons_zero, List.set_cons_succ]
      refine anyH_take (i := 14) (v := ?_) (some 32) rfl rfl (by kernel_rfl) (fun _ _ _ h => h) (Or.inl ⟨by rfl, ?_⟩) (by assumption) ?_
      rotate_left
      · (intro w hSw; obtain ⟨z0, z1, z2⟩ := hSw; go_simp; all_goals with_reducible rfl)
      try simp only [Act.put, List.setIfInBounds_toArray, List.set_cons_zero, List.set_cons_succ]
      refine anyH_take (i := 15) (v := ?_) (some 33) rfl rfl (by kernel_rfl) (fun _ _ _ h => h) (Or.inl ⟨by rfl, ?_⟩) (by assumption) ?_
      rotate_left
      · (intro w hSw; obtain ⟨z0, z1, z2⟩ := hSw; go_simp; all_goals with_reducible rfl)
      try simp only [Act.put, List.setIfInBounds_toArray, List.set_cons_zero, List.set_cons_succ]
      refine anyH_take (i := 16) (v := ?_) (some 34) rfl rfl (by kernel_rfl) (fun _ _ _ h => h) (Or.inl ⟨by rfl, ?_⟩) (by assumption) ?_
      rotate_left
      · (intro w hSw; obtain ⟨z0, z1, z2⟩ := hSw; go_simp; all_goals with_reducible rfl)
      try simp only [Act.put, List.setIfInBounds_toArray, List.set_cons_zero, List.set_cons_succ]
      refine anyH_take (i := 17) (v := ?_) (some 4) rfl rfl (by kernel_rfl) (fun _ _ _ h => h) (Or.inl ⟨by rfl, ?_⟩) (by assumption) ?_
      rotate_left
      · (intro w hSw; obtain ⟨z0, z1, z2⟩ := hSw; go_simp; all_goals with_reducible rfl)
      try simp only [Act.put, List.setIfInBounds_toArray, List.set_cons_zero, List.set_cons_succ]
      refine wpAnyH_done (by kernel_rfl) ?_ _
      go_wp2_with fail
      go_ret
      exact ⟨by rw [← HF2.out]; rfl, ba.trans (bd.mono ba.size)⟩
end
end Go.Proofs.YtjgclehghnmhnaaDoor
namespace Go.Proofs.YtjgclehghnmhnaaDoor
open Go Go.RowKit

section
variable {w : World} {xs : List Ac} {a b : Option Addr}
set_option maxHeartbeats 4000000 in
set_option maxRecDepth 100000 in
theorem plain_any (c : Nat) (he : AV w a xs) (hl : xs.length ≤ 4096) :
    Calls Tryd.prog 13 #[.slice a xs.length c] w fun e w' => ∃ v, e = .returned v ∧ OwA 47 w' w.heap.size v xs ∧ Below w.heap.size w w' := by
  obtain ⟨n, hN⟩ : ∃ n, Hid (xs.length = n) := ⟨_, rfl⟩
  have hn' : n ≤ 4096 := by rw [← hN.out]; exact hl
  rw [hN.out]
  clear hl
  go_enter Tryd.func13, Tryd.ntmps13
  go_upto_region 3 with fail
  go_loopw [3, 8, 5] (fun s x _ wr => ∃ (j : Nat) (out : List Ac), j ≤ n ∧ x = .int .i64 j ∧ OwA 47 wr w.heap.size s out ∧ out ++ xs.drop j = xs ∧ Below w.heap.size w wr) (fun _ x _ _ => 4096 - (intOf x).toNat)
  case atStart => exact ⟨0, [], Nat.zero_le _, rfl, OwA.nil _ _, rfl, Below.refl _ _⟩
  case round =>
    obtain ⟨j, out, hj, rfl, ho, heq, hb⟩ := hrel
    have HQ := Hid.mk heq
    have hol : out.length ≤ 4096 := by
      have e := congrArg List.length heq
      rw [List.length_append] at e
      have := hN.out
      omega
    clear heq
    by_cases hlt : j < n
    · have hjx : j < xs.length := by rw [hN.out]; exact hlt
      have hq := HQ.out
      rw [ac_drop hjx] at hq
      obtain ⟨b, o, rfl, hc⟩ := he.below hb j hjx
      have hlt' : (j : Int) < (n : Int) := by omega
      have hxr : wr.rangeAt b (o + j * 16) (c16 (ac xs j)) := hc
      have hz0 := Cel.new wr (acA zA) 44
      have hth := hz0.there
      have hcx : Cel ((wr.alloc (.cells (acA zA) 44)).setCells wr.heap.size 0 (c16 (ac xs j))) wr.heap.size (acA (ac xs j)) 44 := hz0.ac _
      have B1 : Below w.heap.size w ((wr.alloc (.cells (acA zA) 44)).setCells wr.heap.size 0 (c16 (ac xs j))) := (hb.alloc hb.size (.cells (acA zA) 44)).trans ((But.setCells _ 0 _).below (by have := hb.size; simp; omega) (by simpa using hb.size))
      have ho1 : OwA 47 ((wr.alloc (.cells (acA zA) 44)).setCells wr.heap.size 0 (c16 (ac xs j))) w.heap.size u3 out := (ho.below ((Below.refl _ wr).alloc (Nat.le_refl _) _)).put (fun k hk => (But.setCells _ 0 _).block k (by have := (ho.lt hk).2; simp; omega) (by have := (ho.lt hk).2; simp; omega))
      have HQ1 : Hid ((out ++ [ac xs j]) ++ xs.drop (j + 1) = xs) := by
        show _ = _
        rw [List.append_assoc]
        exact hq
      clear hc hjx hz0 ho hq
      generalize ac xs j = x at *
      rw [zA_A] at *
      go_upto_region 4 with fail
      refine wp_region_lit ?_
      iterate 3 go_step
      refine wpList_load_mid rfl 44 (.tmp 10) rfl b (o + j * 16) rfl (c16 x) _ hxr Tryd.underlying44 rfl size16L ?_
      iterate 3 go_step
      refine wpList_store_mid rfl 44 (.tmp 5) (.tmp 11) rfl wr.heap.size 0 (c16 x).toArray rfl rfl hth size16L (c16_one _) ?_
      rw [show (c16 x).toArray.toList = c16 x from rfl]
      generalize (World.setCells _ wr.heap.size 0 (c16 x)) = w1 at *
      generalize wr.heap.size = X at *
      generalize (Value.agg (c16 x).toArray) = gx at *
      have hx1 : At16 w1 X 0 x := hcx.range
      have hol1 : out.length + 1 ≤ 100000 := by omega
      have oA := ho1.below ((Below.refl _ w1).alloc (Nat.le_refl _) (.cells (acA x) 47))
      have avA := av_one w1 x 47
      have BA : Below w.heap.size w (w1.alloc (.cells (acA x) 47)) := B1.alloc B1.size _
      have szA := BA.size
      clear hcx hth hxr hb
      go_upto_region 5 with fail
      refine wp_region_lit ?_
      iterate 3 go_step
      refine wpList_load_mid rfl 44 (.tmp 5) rfl X 0 rfl (c16 x) _ hx1 Tryd.underlying44 rfl size16L ?_
      refine wpList_bsR rfl (.tmp 13) rfl x rfl ?_
      refine wpList_appA tyR rfl _ _ rfl w.heap.size _ _ rfl oA _ _ _ [x] rfl rfl avA hol1 szA ?_
      intro v3 w3 o3 g3 s3
      have b3 := below_grown BA g3 oA szA
      go_wp2_with fail
      go_roundw
      case rel => exact ⟨j + 1, (out ++ [x]), by omega, by simp, o3, HQ1.out, b3⟩
      case measure =>
        simp [intOf]
        omega
    · obtain rfl : j = n := by omega
      have hq := HQ.out
      rw [List.drop_eq_nil_of_le (by rw [hN.out]; exact Nat.le_refl _), List.append_nil] at hq
      subst hq
      clear HQ
      go_wp2_with fail
      go_ret
      exact ⟨_, rfl, ho, hb⟩
set_option maxHeartbeats 4000000 in
set_option maxRecDepth 100000 in
theorem rsame_any (c d : Nat) (hx : AV w a xs) (hy : AV w b xs) (hl : xs.length ≤ 4096) :
    Calls Tryd.prog 12 #[.slice a xs.length c, .slice b xs.length d] w fun e w' => e = .returned (.bool true) ∧ Below w.heap.size w w' := by
  obtain ⟨n, hN⟩ : ∃ n, Hid (xs.length = n) := ⟨_, rfl⟩
  have hn' : n ≤ 4096 := by rw [← hN.out]; exact hl
  rw [hN.out]
  clear hl
  go_enter Tryd.func12, Tryd.ntmps12
  go_upto_region 4 with fail
  go_loopw [13, 5] (fun v _ wr => ∃ j : Nat, j ≤ n ∧ v = .int .i64 j ∧ Below w.heap.size w wr) (fun v _ _ => 4096 - (intOf v).toNat)
  case atStart => exact ⟨0, Nat.zero_le _, rfl, Below.refl _ _⟩
  case round =>
    obtain ⟨j, hj, rfl, hb⟩ := hrel
    by_cases hlt : j < n
    · have hjx : j < xs.length := by rw [hN.out]; exact hlt
      obtain ⟨g, o, rfl, hc⟩ := hx.below hb j hjx
      obtain ⟨g', o', rfl, hd⟩ := hy.below hb j hjx
      have NE : ∀ W, (binOp .neq 47 (.agg (c16 (ac xs j)).toArray) (.agg (c16 (ac xs j)).toArray)).run Tryd.prog W = .ok (.bool false) W := fun W => by
        have := neAc (ac xs j) (ac xs j) W
        rw [eqA_refl] at this
        exact this
      have hlt' : (j : Int) < (n : Int) := by omega
      have h1 : wr.rangeAt g (o + j * 16) (c16 (ac xs j)) := hc
      have h2 : wr.rangeAt g' (o' + j * 16) (c16 (ac xs j)) := hd
      clear hc hd hjx
      generalize ac xs j = x at *
      go_upto_region 6 with fail
      have bd : Below wr.heap.size wr wr.drew := below_drew wr
      refine wp_region_held_drew (S := (fun w' : World => w'.rangeAt g (o + j * 16) (c16 x) ∧ w'.rangeAt g' (o' + j * 16) (c16 x))) (by kernel_rfl) ⟨range_below h1 bd, range_below h2 bd⟩ (fun hHeld => ?_)
      refine anyH_take (i := 0) (v := ?_) (some 16) rfl rfl (by kernel_rfl) (fun _ _ _ h => h) (Or.inl ⟨by rfl, ?_⟩) (by assumption) ?_
      rotate_left
      · (intro w hSw; go_simp; all_goals with_reducible rfl)
      try simp only [Act.put, List.setIfInBounds_toArray, List.set_cons_zero, List.set_cons_succ]
      refine anyH_take (i := 1) (v := ?_) (some 17) rfl rfl (by kernel_rfl) (fun _ _ _ h => h) (Or.inl ⟨by rfl, ?_⟩) (by assumption) ?_
      rotate_left
      · (intro w hSw; go_simp; all_goals with_reducible rfl)
      try simp only [Act.put, List.setIfInBounds_toArray, List.set_cons_zero, List.set_cons_succ]
      refine anyH_take (i := 2) (v := ?_) (some 18) rfl rfl (by kernel_rfl) (fun _ _ _ h => h) (Or.inl ⟨by rfl, ?_⟩) (by assumption) ?_
      rotate_left
      · (intro w hSw; go_simp; all_goals with_reducible rfl)
      try simp only [Act.put, List.setIfInBounds_toArray, List.set_cons_zero, List.set_cons_succ]
      refine anyH_take (i := 3) (v := .agg (c16 x).toArray) (some 19) rfl rfl (by kernel_rfl) (fun _ _ _ h => h) (yieldsIf_load_mid (by rfl) 47 (.tmp 18) rfl _ (o + j * 16) rfl (c16 x) _ (fun w hSw => hSw.1) Tryd.underlying47 rfl size16R) (by assumption) ?_
      try simp only [Act.put, List.setIfInBounds_toArray, List.set_cons_zero, List.set_cons_succ]
      refine anyH_take (i := 4) (v := ?_) (some 20) rfl rfl (by kernel_rfl) (fun _ _ _ h => h) (Or.inl ⟨by rfl, ?_⟩) (by assumption) ?_
      rotate_left
      · (intro w hSw; go_simp; all_goals with_reducible rfl)
      try simp only [Act.put, List.setIfInBounds_toArray, List.set_cons_zero, List.set_cons_succ]
      refine anyH_take (i := 5) (v := ?_) (some 21) rfl rfl (by kernel_rfl) (fun _ _ _ h => h) (Or.inl ⟨by rfl, ?_⟩) (by assumption) ?_
      rotate_left
      · (intro w hSw; go_simp; all_goals with_reducible rfl)
      try simp only [Act.put, List.setIfInBounds_toArray, List.set_cons_zero, List.set_cons_succ]
      refine anyH_take (i := 6) (v := ?_) (some 22) rfl rfl (by kernel_rfl) (fun _ _ _ h => h) (Or.inl ⟨by rfl, ?_⟩) (by assumption) ?_
      rotate_left
      · (intro w hSw; go_simp; all_goals with_reducible rfl)
      try simp only [Act.put, List.setIfInBounds_toArray, List.set_cons_zero, List.set_cons_succ]
      refine anyH_take (i := 7) (v := .agg (c16 x).toArray) (some 23) rfl rfl (by kernel_rfl) (fun _ _ _ h => h) (yieldsIf_load_mid (by rfl) 47 (.tmp 22) rfl _ (o' + j * 16) rfl (c16 x) _ (fun w hSw => hSw.2) Tryd.underlying47 rfl size16R) (by assumption) ?_
      try simp only [Act.put, List.setIfInBounds_toArray, List.set_cons_zero, List.set_cons_succ]
      refine anyH_take (i := 8) (v := ?_) (some 24) rfl rfl (by kernel_rfl) (fun _ _ _ h => h) (Or.inl ⟨by rfl, ?_⟩) (by assumption) ?_
      rotate_left
      · (intro w hSw; go_simp; all_goals with_reducible rfl)
      try simp only [Act.put, List.setIfInBounds_toArray, List.set_cons_zero, List.set_cons_succ]
      refine wpAnyH_done (by kernel_rfl) ?_ _
      generalize (Value.agg (c16 x).toArray) = gx at *
      have bw := hb.trans (bd.mono hb.size)
      go_wp2_with fail
      go_roundw
      case rel => exact ⟨j + 1, by omega, by simp, bw⟩
      case measure =>
        simp [intOf]
        omega
    · obtain rfl : j = n := by omega
      go_wp2_with fail
      go_ret
      exact ⟨rfl, hb⟩
end
end Go.Proofs.YtjgclehghnmhnaaDoor
