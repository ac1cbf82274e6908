/- The document's New, Count, Copy of its table. -/
/- Steps as they lie in memory; what arguments that are steps, or rows of them, look like as values. -/
import Derived.Test.YtjgclehghnmhnaaDoorJ05LCopies
import Derived.Test.YtjgclehghnmhnaaDoorLfL
import Derived.Test.YtjgclehghnmhnaaDoorLfK
import Derived.ProofKit
import Derived.OpenShut
import Derived.ChangeSlices
import Derived.Deep.Grids
import Derived.Deep.SlicePairs
namespace Go.Proofs.YtjgclehghnmhnaaDoor
open Go Go.RowKit

theorem step_appA {t ts : TypeId} (hT : Ty t ts) {w : World} {ops : Array Oper} {o : Oper} {a : Act} {K : Act → World → Prop} {Q : Exit → Act → World → Prop} {E : Prop} (hg : o.guard = none) (s x : Operand) (hop : o.op = Op.call { callee := Callee.builtin Builtin.append, args := #[s, x], argTypes := #[ts, ts] })
    (B : Nat) (v : Value) (xs : List Ac) (hs : a.eval s = v) (hown : OwA t w B v xs) (sp : Option Addr) (m c : Nat) (news : List Ac) (hx : a.eval x = .slice sp m c) (hl : news.length = m) (hr : AV w sp news)
    (hk : xs.length + m ≤ 100000) (hb : B ≤ w.heap.size)
    (hK : ∀ v' w', OwA t w' B v' (xs ++ news) → w.grownBy w' v.ownBlock → (v'.ownBlock = v.ownBlock ∨ v'.ownBlock = some w.heap.size) → K (a.put o.dst v') w') :
    if Region.wanted o (yielded ops a.tmps) = true then Oper.wp Tryd.prog o a w K Q else E := by
  have hw : Region.wanted o (yielded ops a.tmps) = true := by simp [Region.wanted, hg]
  rw [if_pos hw]
  obtain ⟨v', w', hrun, r1, r2, r3⟩ := run_ownA hT (ty := o.type) (c := c) hown hl hr hk hb
  unfold Oper.wp execOp
  simp only [hop, resolve, invoke, builtin, Sem.run_bind, Sem.run_pure, Result.andThen_ok, List.map_toArray, List.map_cons, List.map_nil, hs, hx, hrun]
  exact hK v' w' r1 r2 r3
/-- A table made of its parts. -/
theorem rm_made {W : World} {S A K N : Nat} {v : Value} {σ : Sta} (hs : RS W S A K N σ.ag σ.tk) (h : OwA 47 W 0 v σ.xs) (ne : ∀ g, v.ownBlock = some g → g ≠ S ∧ g ≠ A ∧ g ≠ K) (len : σ.xs.length ≤ 4096) (srt : Srt σ.xs) :
    RM (W.alloc (.cells #[.pointer (some ⟨S, 0, none⟩), v] 41)) W.heap.size S A K N v σ := by
  have hb : Below W.heap.size W (W.alloc (.cells #[.pointer (some ⟨S, 0, none⟩), v] 41)) := (Below.refl _ _).alloc (Nat.le_refl _) _
  refine ⟨Cel.new W _ _, hs.keep (.of_below hb), h.below hb, ?_, len, srt⟩
  have h1 := hs.ltM
  have h2 := hs.a.lt
  have h3 := hs.t.lt
  have h4 := hs.ma
  have h5 := hs.mt
  have h6 := hs.at'
  unfold bR
  simp only [List.nodup_cons, List.mem_cons, not_or, Option.mem_toList]
  refine ⟨⟨by omega, by omega, by omega, fun e => ?_⟩, ⟨h4, h5, fun e => (ne S e).1 rfl⟩, ⟨h6, fun e => (ne A e).2.1 rfl⟩, fun e => (ne K e).2.2 rfl, ?_⟩
  · have := (h.lt e).2
    omega
  · cases v.ownBlock <;> simp
theorem new_step {w W : World} {R : List Nat} (hb : Below w.heap.size w W) (h : ∀ x ∈ R, w.heap.size ≤ x) : Step [] w R W := ⟨.of_below hb, fun x hx => .inr (h x hx)⟩
theorem rtnew_none (m : Int) (hm : m < 1 ∨ 4096 < m) (w : World) : Calls Tryd.prog 10 #[.int .i64 m] w fun e w' => e = .returned (.pointer none) ∧ w' = w := by
  have hR := rnew_none m hm w
  go_enter Tryd.func10, Tryd.ntmps10
  go_wp2_with (go_at_call 30; (with_reducible refine hR.mono ?_); rintro e w1 ⟨rfl, rfl⟩)
  go_ret
  exact ⟨rfl, rfl⟩
theorem rtnew_some (n : Nat) (h1 : 1 ≤ n) (h2 : n ≤ 4096) (w : World) :
    Calls Tryd.prog 10 #[.int .i64 n] w fun e w' => ∃ M R, e = .returned (.pointer (some ⟨M, 0, none⟩)) ∧ RQ w' M R n ⟨List.replicate n 0, List.replicate n false, []⟩ ∧ Step [] w R w' := by
  have hR := rnew_some n h1 h2 w
  go_enter Tryd.func10, Tryd.ntmps10
  go_wp2_with (go_at_call 30; (with_reducible refine hR.mono ?_); rintro e w1 ⟨S, A, K, rfl, hs, l1, l2, l3, b1⟩)
  go_ret
  have hm := rm_made (σ := ⟨List.replicate n 0, List.replicate n false, []⟩) hs (OwA.nil w1 0) (fun g e => by cases e) (by simp) (by simp [Srt])
  exact ⟨_, _, rfl, ⟨S, A, K, _, rfl, hm⟩, new_step (b1.alloc b1.size _) (fun x hx => by
    have := b1.size
    rcases bR_out hx with rfl | rfl | rfl | rfl | e
    · omega
    · omega
    · omega
    · omega
    · cases e)⟩
section
variable {w : World} {M N : Nat} {R : List Nat} {σ : Sta}
theorem cntA_cons (x : Ac) (r : List Ac) (p q : Int) : cntA (x :: r) p q = (if (x.sp == p && x.st == q) = true then 1 else 0) + cntA r p q := by
  unfold cntA
  rw [List.filter_cons]
  split
  · rw [List.length_cons]; omega
  · omega
set_option maxHeartbeats 2000000 in
set_option maxRecDepth 100000 in
theorem rcount_any (h : RQ w M R N σ) (p q : Int) :
    Calls Tryd.prog 16 #[.pointer (some ⟨M, 0, none⟩), .int .i64 p, .int .i64 q] w fun e w' => e = .returned (.int .i64 (cntA σ.xs p q)) ∧ Below w.heap.size w w' := by
  obtain ⟨S, A, K, v, rfl, hm⟩ := h
  have hl := hm.len
  obtain ⟨sl, c, rfl, he⟩ := hm.shape
  have c1 := hm.c1
  obtain ⟨n, hN⟩ : ∃ n, Hid (σ.xs.length = n) := ⟨_, rfl⟩
  obtain ⟨kN, hkN⟩ : ∃ k, Hid (cntA σ.xs p q = k) := ⟨_, rfl⟩
  have hkl : kN ≤ 4096 := by
    rw [← hkN.out]
    exact Nat.le_trans (List.length_filter_le _ _) hl
  rw [hkN.out]
  have hn' : n ≤ 4096 := by rw [← hN.out]; exact hl
  rw [hN.out] at c1
  clear hl hm
  go_enter Tryd.func16, Tryd.ntmps16
  go_upto_region 3 with fail
  go_loopw [7, 15, 9] (fun cc v _ wr => ∃ j k : Nat, j ≤ n ∧ v = .int .i64 j ∧ cc = .int .i64 k ∧ k + cntA (σ.xs.drop j) p q = kN ∧ Below w.heap.size w wr) (fun _ v _ _ => 4096 - (intOf v).toNat)
  case atStart => exact ⟨0, 0, Nat.zero_le _, rfl, rfl, by rw [← hkN.out]; simp, Below.refl _ _⟩
  case round =>
    obtain ⟨j, k, hj, rfl, rfl, hk, hb⟩ := hrel
    have HK := Hid.mk hk
    clear hk
    by_cases hlt : j < n
    · have hjx : j < σ.xs.length := by rw [hN.out]; exact hlt
      have hk := HK.out
      rw [ac_drop hjx, cntA_cons] at hk
      obtain ⟨b, o, rfl, hc⟩ := he.below hb j hjx
      have hlt' : (j : Int) < (n : Int) := by omega
      have hxr : wr.rangeAt b (o + j * 16) (c16 (ac σ.xs j)) := hc
      have hz0 := Cel.new wr (acA zA) 47
      have hth := hz0.there
      have hcx : Cel ((wr.alloc (.cells (acA zA) 47)).setCells wr.heap.size 0 (c16 (ac σ.xs j))) wr.heap.size (acA (ac σ.xs j)) 47 := hz0.ac _
      have B1 : Below w.heap.size w ((wr.alloc (.cells (acA zA) 47)).setCells wr.heap.size 0 (c16 (ac σ.xs j))) := (hb.alloc hb.size (.cells (acA zA) 47)).trans ((But.setCells _ 0 _).below (by have := hb.size; simp; omega) (by simpa using hb.size))
      clear hc hz0 hjx
      generalize ac σ.xs j = x at *
      rw [zA_A] at *
      go_upto_region 4 with fail
      refine wp_region_lit ?_
      iterate 3 go_step
      refine wpList_load_mid rfl 47 (.tmp 17) rfl b (o + j * 16) rfl (c16 x) _ hxr Tryd.underlying47 rfl size16R ?_
      iterate 3 go_step
      refine wpList_store_mid rfl 47 (.tmp 9) (.tmp 18) rfl wr.heap.size 0 (c16 x).toArray rfl rfl hth size16R (c16_one _) ?_
      rw [show (c16 x).toArray.toList = c16 x from rfl]
      generalize (World.setCells _ wr.heap.size 0 (c16 x)) = w1 at *
      generalize wr.heap.size = X at *
      generalize (Value.agg (c16 x).toArray) = gx at *
      have n1 : w1.cell? ⟨X, 1, none⟩ = some (.int .i64 x.st) := hcx.cell (j := 1) rfl
      have n2 : w1.cell? ⟨X, 2, none⟩ = some (.int .i64 x.sp) := hcx.cell (j := 2) rfl
      clear hcx hth hxr hb
      by_cases hq : (x.sp == p && x.st == q) = true
      · have h2 : (x.sp == p) = true := by simp at hq; simpa using hq.1
        have h3 : (x.st == q) = true := by simp at hq; simpa using hq.2
        rw [if_pos hq] at hk
        have HK1 : Hid ((k + 1) + cntA (σ.xs.drop (j + 1)) p q = kN) := by
          show _ = _
          omega
        have hkk : k + 1 ≤ 4096 := by have := HK1.out; omega
        have hw1 : IntKind.i64.wrap ((k : Int) + 1) = ((k + 1 : Nat) : Int) := by rw [IntKind.wrap_i64]; omega
        clear hk hq
        go_wp2_with fail
        go_roundw
        case rel => exact ⟨j + 1, k + 1, by omega, by simp, by simp, HK1.out, B1⟩
        case measure =>
          simp [intOf]
          omega
      · rw [if_neg hq] at hk
        have HK1 : Hid (k + cntA (σ.xs.drop (j + 1)) p q = kN) := by
          show _ = _
          omega
        by_cases h2 : (x.sp == p) = true
        · have h3 : (x.st == q) = false := by
            rw [h2, Bool.true_and] at hq
            simpa using hq
          clear hk hq
          go_wp2_with fail
          go_roundw
          case rel => exact ⟨j + 1, k, by omega, by simp, rfl, HK1.out, B1⟩
          case measure =>
            simp [intOf]
            omega
        · have h2' : (x.sp == p) = false := by simpa using h2
          clear hk hq h2
          go_wp2_with fail
          go_roundw
          case rel => exact ⟨j + 1, k, by omega, by simp, rfl, HK1.out, B1⟩
          case measure =>
            simp [intOf]
            omega
    · obtain rfl : j = n := by omega
      have hk := HK.out
      rw [List.drop_eq_nil_of_le (by rw [hN.out]; exact Nat.le_refl _)] at hk
      have HK1 : Hid (k = kN) := hk
      clear hk HK
      go_wp2_with fail
      go_ret
      exact ⟨by rw [← HK1.out]; rfl, hb⟩
set_option maxHeartbeats 4000000 in
set_option maxRecDepth 100000 in
theorem rtcopy_any (h : RQ w M R N σ) (hn1 : 1 ≤ N) :
    Calls Tryd.prog 27 #[.pointer (some ⟨M, 0, none⟩)] w fun e w' => ∃ M2 R2, e = .returned (.pointer (some ⟨M2, 0, none⟩)) ∧ RQ w' M2 R2 N σ ∧ Step [] w R2 w' := by
  obtain ⟨S, A, K, v, rfl, hm⟩ := h
  have hl := hm.len
  have HS := Hid.mk hm.srt
  have HCP : ∀ W, Below w.heap.size w W → Calls Tryd.prog 56 #[.pointer (some ⟨S, 0, none⟩)] W fun e w' => ∃ M2 A2 T2, e = .returned (.pointer (some ⟨M2, 0, none⟩)) ∧ RS w' M2 A2 T2 N σ.ag σ.tk ∧ Below W.heap.size W w' ∧ W.heap.size ≤ M2 ∧ W.heap.size ≤ A2 ∧ W.heap.size ≤ T2 := fun W b => r4copy_any (hm.below b).s hn1
  obtain ⟨sl, c, rfl, he⟩ := hm.shape
  have c0 := hm.c0
  have c1 := hm.c1
  clear hm
  go_enter Tryd.func27, Tryd.ntmps27
  go_upto_region 1 with fail
  have b0 : Below w.heap.size w w.drew := below_drew w
  refine wp_region_held_drew (S := (fun w' : World => w'.cell? ⟨M, 0, none⟩ = some (.pointer (some ⟨S, 0, none⟩)) ∧ w'.cell? ⟨M, 1, none⟩ = some (.slice sl σ.xs.length c))) (by kernel_rfl) ⟨cell_on b0 c0, cell_on b0 c1⟩ (fun hHeld => ?_)
  generalize w.drew = W0 at *
  refine anyH_take (i := 0) (v := ?_) (some 3) rfl rfl (by kernel_rfl) (fun _ _ _ h => h) (Or.inl ⟨by rfl, ?_⟩) (by assumption) ?_
  rotate_left
  · (intro w hSw; obtain ⟨z0, z1⟩ := hSw; go_simp; all_goals with_reducible rfl)
  try simp only [Act.put, List.setIfInBounds_toArray, List.set_cons_zero, List.set_cons_succ]
  refine anyH_take (i := 1) (v := ?_) (some 4) rfl rfl (by kernel_rfl) (fun _ _ _ h => h) (Or.inl ⟨by rfl, ?_⟩) (by assumption) ?_
  rotate_left
  · (intro w hSw; obtain ⟨z0, z1⟩ := hSw; go_simp; all_goals with_reducible rfl)
  try simp only [Act.put, List.setIfInBounds_toArray, List.set_cons_zero, List.set_cons_succ]
  refine anyH_take (i := 2) (v := ?_) (some 5) rfl rfl (by kernel_rfl) (fun _ _ _ h => h) (Or.inl ⟨by rfl, ?_⟩) (by assumption) ?_
  rotate_left
  · (intro w hSw; obtain ⟨z0, z1⟩ := hSw; go_simp; all_goals with_reducible rfl)
  try simp only [Act.put, List.setIfInBounds_toArray, List.set_cons_zero, List.set_cons_succ]
  refine anyH_take (i := 3) (v := ?_) (some 6) rfl rfl (by kernel_rfl) (fun _ _ _ h => h) (Or.inl ⟨by rfl, ?_⟩) (by assumption) ?_
  rotate_left
  · (intro w hSw; obtain ⟨z0, z1⟩ := hSw; go_simp; all_goals with_reducible rfl)
  try simp only [Act.put, List.setIfInBounds_toArray, List.set_cons_zero, List.set_cons_succ]
  refine anyH_take (i := 6) (v := ?_) (some 9) rfl rfl (by kernel_rfl) (fun _ _ _ h => h) (Or.inl ⟨by rfl, ?_⟩) (by assumption) ?_
  rotate_left
  · (intro w hSw; obtain ⟨z0, z1⟩ := hSw; go_simp; all_goals with_reducible rfl)
  try simp only [Act.put, List.setIfInBounds_toArray, List.set_cons_zero, List.set_cons_succ]
  refine anyH_take (i := 7) (v := ?_) (some 10) rfl rfl (by kernel_rfl) (fun _ _ _ h => h) (Or.inl ⟨by rfl, ?_⟩) (by assumption) ?_
  rotate_left
  · (intro w hSw; obtain ⟨z0, z1⟩ := hSw; go_simp; all_goals with_reducible rfl)
  try simp only [Act.put, List.setIfInBounds_toArray, List.set_cons_zero, List.set_cons_succ]
  refine anyH_take (i := 8) (v := ?_) (some 11) rfl rfl (by kernel_rfl) (fun _ _ _ h => h) (Or.inl ⟨by rfl, ?_⟩) (by assumption) ?_
  rotate_left
  · (intro w hSw; obtain ⟨z0, z1⟩ := hSw; go_simp; all_goals with_reducible rfl)
  try simp only [Act.put, List.setIfInBounds_toArray, List.set_cons_zero, List.set_cons_succ]
  refine anyH_take (i := 9) (v := ?_) (some 12) rfl rfl (by kernel_rfl) (fun _ _ _ h => h) (Or.inl ⟨by rfl, ?_⟩) (by assumption) ?_
  rotate_left
  · (intro w hSw; obtain ⟨z0, z1⟩ := hSw; go_simp; all_goals with_reducible rfl)
  try simp only [Act.put, List.setIfInBounds_toArray, List.set_cons_zero, List.set_cons_succ]
  refine anyH_two (i := 4) (j := 5) (by kernel_rfl) rfl rfl (fun K hK => ?_) (fun K hK => ?_)
  · go_simp
    go_at_call 56
    (with_reducible refine (HCP W0 b0).mono ?_)
    rintro e W1 ⟨S2, A2, T2, rfl, hs, bc, l1, l2, l3⟩
    have b1 : Below w.heap.size w W1 := below2 b0 b0.size bc
    refine hK.out _ _ ⟨cell_on b1 c0, cell_on b1 c1⟩ (fun hHeld => ?_)
    clear hK K
    try simp only [Act.put, List.setIfInBounds_toArray, List.set_cons_zero, List.set_cons_succ]
    refine anyH_one (i := 5) (by kernel_rfl) rfl (fun K hK => ?_)
    go_simp
    have ba : Below W1.heap.size W1 (W1.alloc (.cells #[] 47)) := (Below.refl _ _).alloc (Nat.le_refl _) _
    have b2 : Below w.heap.size w (W1.alloc (.cells #[] 47)) := below2 b1 b1.size ba
    have oA := owA_none 47 W1
    have lG : S2 < W1.heap.size ∧ A2 < W1.heap.size ∧ T2 < W1.heap.size := ⟨hs.ltM, hs.a.lt, hs.t.lt⟩
    have hs := hs.keep (.of_below ba)
    obtain ⟨gA, hgA⟩ : ∃ g, Hid (W1.heap.size = g) := ⟨_, rfl⟩
    have sA : Hid ((W1.alloc (.cells #[] 47)).heap.size = gA + 1) := by
      show _ = _
      rw [← hgA.out]
      simp
    refine hK.out _ _ ⟨cell_on b2 c0, cell_on b2 c1⟩ (fun hHeld => ?_)
    clear hK K ba
    try simp only [Act.put, List.setIfInBounds_toArray, List.set_cons_zero, List.set_cons_succ]
    generalize (W1.alloc (.cells #[] 47)) = W2 at *
    rw [hgA.out] at oA ⊢
    refine anyH_one (i := 10) (by kernel_rfl) rfl (fun K hK => ?_)
    refine step_appA tyR rfl (.tmp 8) (.tmp 12) rfl gA _ [] rfl oA _ _ _ σ.xs rfl rfl (he.below b2) (by simp; omega) (by have := sA.out; have := lG; omega) ?_
    intro vA W3 pA grA obA
    rw [List.nil_append] at pA
    have hne : ∀ g, vA.ownBlock = some g → g ≠ S2 ∧ g ≠ A2 ∧ g ≠ T2 := fun g e => by
      have x1 := hs.ltM
      have x2 := hs.a.lt
      have x3 := hs.t.lt
      have x4 := sA.out
      have x5 := hgA.out
      rcases obA with e2 | e2
      · rw [e2] at e
        have e3 : gA = g := Option.some.inj e
        omega
      · rw [e2] at e
        have e3 : W2.heap.size = g := Option.some.inj e
        omega
    have hs3 : RS W3 S2 A2 T2 N σ.ag σ.tk := by
      have x1 := hs.ltM
      have x2 := hs.a.lt
      have x3 := hs.t.lt
      have x4 := sA.out
      have x5 := hgA.out
      exact hs.put (grA.block _ x1 (fun e2 => by have e3 : S2 = gA := Option.some.inj e2; omega)) (grA.block _ x2 (fun e2 => by have e3 : A2 = gA := Option.some.inj e2; omega)) (grA.block _ x3 (fun e2 => by have e3 : T2 = gA := Option.some.inj e2; omega))
    have b3 : Below w.heap.size w W3 := b2.grown grA b2.size (fun x e => by have e3 : gA = x := Option.some.inj e; have := hgA.out; have := b0.size; have := b1.size; omega)
    have hmF := rm_made hs3 (pA.lower (Nat.zero_le _)) hne hl HS.out
    have lA : ∀ g, vA.ownBlock = some g → w.heap.size ≤ g := fun g e => by
      have := (pA.lt e).1
      have := hgA.out
      have := b0.size
      have := b1.size
      omega
    obtain ⟨va, vc, eA, -⟩ := pA.sl
    obtain ⟨m, hm⟩ : ∃ m, Hid (σ.xs.length = m) := ⟨_, rfl⟩
    rw [hm.out] at eA
    subst eA
    have bF : Below w.heap.size w (W3.alloc (.cells #[.pointer (some ⟨S2, 0, none⟩), .slice va m vc] 41)) := b3.alloc b3.size _
    have l1' : w.heap.size ≤ S2 := Nat.le_trans b0.size l1
    have l2' : w.heap.size ≤ A2 := Nat.le_trans b0.size l2
    have l3' : w.heap.size ≤ T2 := Nat.le_trans b0.size l3
    clear hne hs3 hs pA obA grA oA sA hgA lG
    refine hK.out _ _ ⟨cell_on b3 c0, cell_on b3 c1⟩ (fun hHeld => ?_)
    clear hK K
    try simp only [Act.put, List.setIfInBounds_toArray]
    refine anyH_take (i := 11) (v := ?_) (some 14) rfl rfl (by kernel_rfl) (fun _ _ _ h => h) (Or.inl ⟨by rfl, ?_⟩) (by assumption) ?_
    rotate_left
    · (intro w hSw; obtain ⟨z0, z1⟩ := hSw; go_simp; all_goals with_reducible rfl)
    try simp only [Act.put]
    refine anyH_one (i := 12) (by kernel_rfl) rfl (fun K hK => ?_)
    go_simp
    refine hK.out _ _ ⟨cell_on bF c0, cell_on bF c1⟩ (fun hHeld => ?_)
    clear hK K
    try simp only [Act.put, List.setIfInBounds_toArray, List.set_cons_zero, List.set_cons_succ]
    refine anyH_one (i := 13) (by kernel_rfl) rfl (fun K hK => ?_)
    go_simp
    refine hK.out _ _ ⟨cell_on bF c0, cell_on bF c1⟩ (fun hHeld => ?_)
    clear hK K
    try simp only [Act.put]
    refine wpAnyH_done (by kernel_rfl) ?_ _
    go_wp2_with fail
    go_ret
    exact ⟨_, _, rfl, ⟨_, _, _, _, rfl, hmF⟩, new_step bF (fun x hx => by
      rcases bR_out hx with rfl | rfl | rfl | rfl | e
      · exact b3.size
      · exact l1'
      · exact l2'
      · exact l3'
      · exact lA x e)⟩
  · go_simp
    have ba : Below W0.heap.size W0 (W0.alloc (.cells #[] 47)) := (Below.refl _ _).alloc (Nat.le_refl _) _
    have b1 : Below w.heap.size w (W0.alloc (.cells #[] 47)) := below2 b0 b0.size ba
    have oA := owA_none 47 W0
    obtain ⟨gA, hgA⟩ : ∃ g, Hid (W0.heap.size = g) := ⟨_, rfl⟩
    have sA : Hid ((W0.alloc (.cells #[] 47)).heap.size = gA + 1) := by
      show _ = _
      rw [← hgA.out]
      simp
    refine hK.out _ _ ⟨cell_on b1 c0, cell_on b1 c1⟩ (fun hHeld => ?_)
    clear hK K ba
    try simp only [Act.put, List.setIfInBounds_toArray, List.set_cons_zero, List.set_cons_succ]
    generalize (W0.alloc (.cells #[] 47)) = W1 at *
    rw [hgA.out] at oA ⊢
    refine anyH_one (i := 4) (by kernel_rfl) rfl (fun K hK => ?_)
    go_simp
    go_at_call 56
    (with_reducible refine (HCP W1 b1).mono ?_)
    rintro e W2 ⟨S2, A2, T2, rfl, hs, bc, l1, l2, l3⟩
    have b2 : Below w.heap.size w W2 := below2 b1 b1.size bc
    have oA := oA.below bc
    have lG : gA < W1.heap.size ∧ W1.heap.size ≤ W2.heap.size := ⟨by have := sA.out; omega, bc.size⟩
    refine hK.out _ _ ⟨cell_on b2 c0, cell_on b2 c1⟩ (fun hHeld => ?_)
    clear hK K
    try simp only [Act.put, List.setIfInBounds_toArray, List.set_cons_zero, List.set_cons_succ]
    refine anyH_one (i := 10) (by kernel_rfl) rfl (fun K hK => ?_)
    refine step_appA tyR rfl (.tmp 8) (.tmp 12) rfl gA _ [] rfl oA _ _ _ σ.xs rfl rfl (he.below b2) (by simp; omega) (by have := sA.out; have := lG; omega) ?_
    intro vA W3 pA grA obA
    rw [List.nil_append] at pA
    have hne : ∀ g, vA.ownBlock = some g → g ≠ S2 ∧ g ≠ A2 ∧ g ≠ T2 := fun g e => by
      have x1 := hs.ltM
      have x2 := hs.a.lt
      have x3 := hs.t.lt
      have x4 := sA.out
      have x5 := hgA.out
      rcases obA with e2 | e2
      · rw [e2] at e
        have e3 : gA = g := Option.some.inj e
        omega
      · rw [e2] at e
        have e3 : W2.heap.size = g := Option.some.inj e
        omega
    have hs3 : RS W3 S2 A2 T2 N σ.ag σ.tk := by
      have x1 := hs.ltM
      have x2 := hs.a.lt
      have x3 := hs.t.lt
      have x4 := sA.out
      have x5 := hgA.out
      exact hs.put (grA.block _ x1 (fun e2 => by have e3 : S2 = gA := Option.some.inj e2; omega)) (grA.block _ x2 (fun e2 => by have e3 : A2 = gA := Option.some.inj e2; omega)) (grA.block _ x3 (fun e2 => by have e3 : T2 = gA := Option.some.inj e2; omega))
    have b3 : Below w.heap.size w W3 := b2.grown grA b2.size (fun x e => by have e3 : gA = x := Option.some.inj e; have := hgA.out; have := b0.size; have := b1.size; omega)
    have hmF := rm_made hs3 (pA.lower (Nat.zero_le _)) hne hl HS.out
    have lA : ∀ g, vA.ownBlock = some g → w.heap.size ≤ g := fun g e => by
      have := (pA.lt e).1
      have := hgA.out
      have := b0.size
      have := b1.size
      omega
    obtain ⟨va, vc, eA, -⟩ := pA.sl
    obtain ⟨m, hm⟩ : ∃ m, Hid (σ.xs.length = m) := ⟨_, rfl⟩
    rw [hm.out] at eA
    subst eA
    have bF : Below w.heap.size w (W3.alloc (.cells #[.pointer (some ⟨S2, 0, none⟩), .slice va m vc] 41)) := b3.alloc b3.size _
    have l1' : w.heap.size ≤ S2 := Nat.le_trans b1.size l1
    have l2' : w.heap.size ≤ A2 := Nat.le_trans b1.size l2
    have l3' : w.heap.size ≤ T2 := Nat.le_trans b1.size l3
    clear hne hs3 hs pA obA grA oA sA hgA lG
    refine hK.out _ _ ⟨cell_on b3 c0, cell_on b3 c1⟩ (fun hHeld => ?_)
    clear hK K
    try simp only [Act.put, List.setIfInBounds_toArray]
    refine anyH_take (i := 11) (v := ?_) (some 14) rfl rfl (by kernel_rfl) (fun _ _ _ h => h) (Or.inl ⟨by rfl, ?_⟩) (by assumption) ?_
    rotate_left
    · (intro w hSw; obtain ⟨z0, z1⟩ := hSw; go_simp; all_goals with_reducible rfl)
    try simp only [Act.put]
    refine anyH_one (i := 12) (by kernel_rfl) rfl (fun K hK => ?_)
    go_simp
    refine hK.out _ _ ⟨cell_on bF c0, cell_on bF c1⟩ (fun hHeld => ?_)
    clear hK K
    try simp only [Act.put, List.setIfInBounds_toArray, List.set_cons_zero, List.set_cons_succ]
    refine anyH_one (i := 13) (by kernel_rfl) rfl (fun K hK => ?_)
    go_simp
    refine hK.out _ _ ⟨cell_on bF c0, cell_on bF c1⟩ (fun hHeld => ?_)
    clear hK K
    try simp only [Act.put]
    refine wpAnyH_done (by kernel_rfl) ?_ _
    go_wp2_with fail
    go_ret
    exact ⟨_, _, rfl, ⟨_, _, _, _, rfl, hmF⟩, new_step bF (fun x hx => by
      rcases bR_out hx with rfl | rfl | rfl | rfl | e
      · exact b3.size
      · exact l1'
      · exact l2'
      · exact l3'
      · exact lA x e)⟩
end
end Go.Proofs.YtjgclehghnmhnaaDoor
namespace Go.Proofs.YtjgclehghnmhnaaDoor
open Go Go.ChangeShapes Go.WideShapes Go.ChangeAt Go.RowKit
set_option maxRecDepth 100000

/-- A step. -/
structure Sp where
  kd : Int
  i : Int
  n : Int
  re : Bool
  cx : Cx
def zS : Sp := ⟨0, 0, 0, false, ⟨0, 0, fun _ => 0, 0⟩⟩
/-- Its numbers are a machine's. -/
def RgS (e : Sp) : Prop := In64 e.kd ∧ In64 e.i ∧ In64 e.n
def s15 (e : Sp) : List Value := [.int .i64 e.kd, .int .i64 e.i, .int .i64 e.n, .bool e.re, .int .i64 e.cx.pg, .int .i64 e.cx.pc, .int .i64 (e.cx.rs 0), .int .i64 (e.cx.rs 1), .int .i64 (e.cx.rs 2), .int .i64 (e.cx.rs 3), .int .i64 (e.cx.rs 4), .int .i64 (e.cx.rs 5), .int .i64 (e.cx.rs 6), .int .i64 (e.cx.rs 7), .int .i64 e.cx.dp]
def spA (e : Sp) : Array Value := #[.int .i64 e.kd, .int .i64 e.i, .int .i64 e.n, .bool e.re, .int .i64 e.cx.pg, .int .i64 e.cx.pc, .int .i64 (e.cx.rs 0), .int .i64 (e.cx.rs 1), .int .i64 (e.cx.rs 2), .int .i64 (e.cx.rs 3), .int .i64 (e.cx.rs 4), .int .i64 (e.cx.rs 5), .int .i64 (e.cx.rs 6), .int .i64 (e.cx.rs 7), .int .i64 e.cx.dp]
theorem s15_arr (e : Sp) : (s15 e).toArray = spA e := rfl
theorem s15_len (e : Sp) : (s15 e).length = 15 := rfl
def sp (xs : List Sp) (j : Nat) : Sp := xs.getD j zS
/-- Cells that are a step's. -/
def AtS (w : World) (b o : Nat) (e : Sp) : Prop := w.rangeAt b o (s15 e) ∧ RgS e
theorem AtS.below {w w' : World} {b o : Nat} {e : Sp} (h : AtS w b o e) (hb : Below w.heap.size w w') : AtS w' b o e := ⟨range_below h.1 hb, h.2⟩
theorem AtS.cells {w : World} {b o : Nat} {e : Sp} (h : AtS w b o e) : w.cell? ⟨b, o, none⟩ = some (.int .i64 e.kd) ∧ w.cell? ⟨b, o + 1, none⟩ = some (.int .i64 e.i) ∧ w.cell? ⟨b, o + 2, none⟩ = some (.int .i64 e.n) ∧ w.cell? ⟨b, o + 3, none⟩ = some (.bool e.re) ∧ w.cell? ⟨b, o + 4, none⟩ = some (.int .i64 e.cx.pg) ∧ w.cell? ⟨b, o + 5, none⟩ = some (.int .i64 e.cx.pc) ∧ w.cell? ⟨b, o + 6, none⟩ = some (.int .i64 (e.cx.rs 0)) ∧ w.cell? ⟨b, o + 7, none⟩ = some (.int .i64 (e.cx.rs 1)) ∧ w.cell? ⟨b, o + 8, none⟩ = some (.int .i64 (e.cx.rs 2)) ∧ w.cell? ⟨b, o + 9, none⟩ = some (.int .i64 (e.cx.rs 3)) ∧ w.cell? ⟨b, o + 10, none⟩ = some (.int .i64 (e.cx.rs 4)) ∧ w.cell? ⟨b, o + 11, none⟩ = some (.int .i64 (e.cx.rs 5)) ∧ w.cell? ⟨b, o + 12, none⟩ = some (.int .i64 (e.cx.rs 6)) ∧ w.cell? ⟨b, o + 13, none⟩ = some (.int .i64 (e.cx.rs 7)) ∧ w.cell? ⟨b, o + 14, none⟩ = some (.int .i64 e.cx.dp) :=
  ⟨h.1 0 _ rfl, h.1 1 _ rfl, h.1 2 _ rfl, h.1 3 _ rfl, h.1 4 _ rfl, h.1 5 _ rfl, h.1 6 _ rfl, h.1 7 _ rfl, h.1 8 _ rfl, h.1 9 _ rfl, h.1 10 _ rfl, h.1 11 _ rfl, h.1 12 _ rfl, h.1 13 _ rfl, h.1 14 _ rfl⟩
theorem AtS.cx {w : World} {b : Nat} {e : Sp} (h : AtS w b 0 e) : w.rangeAt b 4 (cxl e.cx) := fun j v hv => by
  have hj : j < 11 := (List.getElem?_eq_some_iff.1 hv).1
  have := h.1 (4 + j) v (by
    unfold s15
    rw [show 4 + j = j + 1 + 1 + 1 + 1 by omega, List.getElem?_cons_succ, List.getElem?_cons_succ, List.getElem?_cons_succ, List.getElem?_cons_succ]
    exact hv)
  rw [Nat.zero_add] at this
  exact this
/-- Rows of steps. -/
def SV (w : World) (a : Option Addr) (xs : List Sp) : Prop := ∀ j, j < xs.length → ∃ b o, a = some ⟨b, o, none⟩ ∧ AtS w b (o + j * 15) (sp xs j)
theorem SV.below {w w' : World} {a : Option Addr} {xs : List Sp} (h : SV w a xs) (hb : Below w.heap.size w w') : SV w' a xs := fun j hj => by
  obtain ⟨b, o, e, h0⟩ := h j hj
  exact ⟨b, o, e, h0.below hb⟩
theorem size15 : (Tryd.prog.info? 32).map (·.size) = some 15 := by kernel_rfl
theorem s15_new (w : World) (e : Sp) : (w.alloc (.cells (spA e) 32)).rangeAt w.heap.size 0 (s15 e) := fun j v hv => by
  rw [Nat.zero_add]
  exact (Cel.new w (spA e) 32).cell (by rw [← s15_arr]; simpa using hv)
theorem cells3 : Tryd.prog.cellsOf 3 = 1 := by kernel_rfl
theorem cells4 : Tryd.prog.cellsOf 4 = 1 := by kernel_rfl
theorem cellsStep : Tryd.prog.cellsOf 32 = 15 := by kernel_rfl
theorem cellsCx : Tryd.prog.cellsOf 30 = 11 := by kernel_rfl
theorem cellsa8 : Tryd.prog.cellsOf 28 = 8 := by kernel_rfl

section
variable {H : Type} {enc : TypeId × Value → H} {W : World} {r : Reach} {b0 base : Nat} {held : Bool} {v : Value} {d : DataW H} {p : List MemPlace}

set_option maxHeartbeats 2000000 in
theorem step_trod {n : Nat} {cs : List Value} {x : DataW H × List MemPlace} (h : DataW.trod enc Tryd.prog W base (fun _ => true) held n 32 cs = some x) (hlen : cs.length = 15) : ∃ e : Sp, cs = s15 e ∧ RgS e := by
  obtain ⟨xs, k, hk, hxy, _, hxl, hf⟩ := DataW.trod_struct Tryd.underlying32 h
  match xs, hxl, cs, hlen with
  | [y0, y1, y2, y3, y4], _, [v0, v1, v2, v3, v4, v5, v6, v7, v8, v9, v10, v11, v12, v13, v14], _ =>
    have g0 := hf 0 _ rfl
    have g1 := hf 1 _ rfl
    have g2 := hf 2 _ rfl
    have g3 := hf 3 _ rfl
    have g4 := hf 4 _ rfl
    simp [cells3, cells4, cellsCx] at g0 g1 g2 g3 g4
    obtain ⟨n0, k0, _, w0⟩ := DataW.trod_int Tryd.underlying3 g0
    obtain ⟨n1, k1, _, w1⟩ := DataW.trod_int Tryd.underlying3 g1
    obtain ⟨n2, k2, _, w2⟩ := DataW.trod_int Tryd.underlying3 g2
    obtain ⟨n3, k3, _⟩ := DataW.trod_bool Tryd.underlying4 g3
    obtain ⟨xs2, _, _, _, _, hxl2, hf2⟩ := DataW.trod_struct Tryd.underlying30 g4
    match xs2, hxl2 with
    | [z0, z1, z2, z3], _ =>
      have p0 := hf2 0 _ rfl
      have p1 := hf2 1 _ rfl
      have p2 := hf2 2 _ rfl
      have p3 := hf2 3 _ rfl
      simp [cells3, cellsa8] at p0 p1 p2 p3
      obtain ⟨n4, k4, _, w4⟩ := DataW.trod_int Tryd.underlying3 p0
      obtain ⟨n5, k5, _, w5⟩ := DataW.trod_int Tryd.underlying3 p1
      obtain ⟨n14, k14, _, w14⟩ := DataW.trod_int Tryd.underlying3 p3
      obtain ⟨zs, _, _, _, _, hzs, hall⟩ := DataW.trod_array Tryd.underlying28 p2
      rw [cells3] at hall
      match zs, hzs with
      | [y0, y1, y2, y3, y4, y5, y6, y7], _ =>
        have q0 := hall 0 (by omega)
        have q1 := hall 1 (by omega)
        have q2 := hall 2 (by omega)
        have q3 := hall 3 (by omega)
        have q4 := hall 4 (by omega)
        have q5 := hall 5 (by omega)
        have q6 := hall 6 (by omega)
        have q7 := hall 7 (by omega)
        simp at q0 q1 q2 q3 q4 q5 q6 q7
        obtain ⟨n6, k6, _, w6⟩ := DataW.trod_int Tryd.underlying3 q0
        obtain ⟨n7, k7, _, w7⟩ := DataW.trod_int Tryd.underlying3 q1
        obtain ⟨n8, k8, _, w8⟩ := DataW.trod_int Tryd.underlying3 q2
        obtain ⟨n9, k9, _, w9⟩ := DataW.trod_int Tryd.underlying3 q3
        obtain ⟨n10, k10, _, w10⟩ := DataW.trod_int Tryd.underlying3 q4
        obtain ⟨n11, k11, _, w11⟩ := DataW.trod_int Tryd.underlying3 q5
        obtain ⟨n12, k12, _, w12⟩ := DataW.trod_int Tryd.underlying3 q6
        obtain ⟨n13, k13, _, w13⟩ := DataW.trod_int Tryd.underlying3 q7
        simp at k0 k1 k2 k3 k4 k5 k6 k7 k8 k9 k10 k11 k12 k13 k14
        subst k0 k1 k2 k3 k4 k5 k6 k7 k8 k9 k10 k11 k12 k13 k14
        exact ⟨⟨n0, n1, n2, n3, ⟨n4, n5, fun j => [n6, n7, n8, n9, n10, n11, n12, n13].getD j 0, n14⟩⟩, rfl, wf64.1 w0, wf64.1 w1, wf64.1 w2⟩
theorem open_steps (hv : Value.okWide Tryd.prog W r b0 22 v) (h : DataW.Trod enc Tryd.prog W base (fun _ => true) held 22 v d p) :
    ∃ (a : Option Addr) (c : Nat) (xs : List Sp), v = .slice a xs.length c ∧ SV W a xs := by
  obtain ⟨a0, len, cap, rfl⟩ := okWide_slice Tryd.underlying22 hv
  obtain ⟨fuel, hf⟩ := h
  rcases Deep.open_slice Tryd.underlying22 hf with ⟨hcs, _⟩ | ⟨a, len', cap', m, n, D, Q, hcs, _, hl, hm, hmm, _, hcell⟩
  · simp [Value.cells] at hcs
    obtain ⟨rfl, rfl, rfl⟩ := hcs
    exact ⟨none, 0, [], rfl, fun j hj => by simp at hj⟩
  · simp [Value.cells] at hcs
    obtain ⟨rfl, rfl, rfl⟩ := hcs
    simp only [if_true] at hmm
    subst hmm
    haveI : Inhabited Sp := ⟨zS⟩
    obtain ⟨X, hX⟩ := Deep.choose_lt (α := Sp) (p := fun i t => (∀ j u, (s15 t)[j]? = some u → W.cell? (a.add (i * 15 + j)) = some u) ∧ RgS t) (fun i hi => by
      obtain ⟨cs', h1, h2⟩ := hcell i hi
      rw [cellsStep] at h1
      obtain ⟨_, hlen, hc⟩ := World.cells?_some h1
      obtain ⟨t, rfl, hr⟩ := step_trod h2 hlen
      refine ⟨t, fun j u hu => ?_, hr⟩
      have hj := (List.getElem?_eq_some_iff.1 hu).1
      have := hc j hj
      rw [Deep.add_add] at this
      rw [this]
      exact hu)
    refine ⟨some a, m, (List.range len).map X, by simp, fun j hj => ?_⟩
    have hj' : j < len := by simpa using hj
    obtain ⟨h0, q1⟩ := hX j (by omega)
    obtain ⟨h00, _⟩ := hX 0 (by omega)
    have hc0 := h00 0 _ rfl
    obtain ⟨b, off, spot⟩ := a
    have hspot : spot = none := by simpa [Addr.add] using World.cell?_spot hc0
    subst hspot
    have e : sp ((List.range len).map X) j = X j := by
      unfold sp
      rw [List.getD_eq_getElem?_getD]
      simp [hj']
    refine ⟨b, off, rfl, ?_⟩
    rw [e]
    refine ⟨fun i u hu => ?_, q1⟩
    have := h0 i u hu
    rw [add_plain, ← Nat.add_assoc] at this
    exact this
theorem open_step (hv : Value.okWide Tryd.prog W r b0 32 v) (h : DataW.Trod enc Tryd.prog W base (fun _ => true) held 32 v d p) :
    ∃ (t : Sp), v = .agg (spA t) ∧ RgS t := by
  simp only [Value.okWide, Tryd.underlying32] at hv
  obtain ⟨cs, rfl, hsz, _⟩ := hv
  rw [cellsStep] at hsz
  obtain ⟨fuel, hf⟩ := h
  obtain ⟨l⟩ := cs
  obtain ⟨t, e, hr⟩ := step_trod (cs := l) (by simpa [Value.cells] using hf) (by simpa using hsz)
  subst e
  exact ⟨t, rfl, hr⟩
end
end Go.Proofs.YtjgclehghnmhnaaDoor
