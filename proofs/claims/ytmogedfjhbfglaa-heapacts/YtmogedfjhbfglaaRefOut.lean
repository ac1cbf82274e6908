/- The reference's two lists apart; contract of its out. -/
import Derived.Test.YtmogedfjhbfglaaRef
import Derived.Test.YtmogedfjhbfglaaTail
import Derived.Deep.CutRange
namespace Go.Proofs.Ytmogedfjhbfglaa
open Go.RowKit
set_option linter.unusedSimpArgs false

/-- The reference's heap, its ids and its keys apart. -/
structure RT (w : World) (M N : Nat) (vi vk : Value) (ids ks : List Int) : Prop where
  b : w.heap[M]? = some (.cells #[.int .i64 N, vi, vk] 34 (0, 0))
  i : RowI w 0 vi ids
  k : RowI w 0 vk ks
  mi : vi.ownBlock ≠ some M
  mk' : vk.ownBlock ≠ some M
section
variable {w w1 : World} {M N : Nat} {vi vk v' : Value} {ids ks xs : List Int}
theorem RM.two {q : List Th} (h : RM w M N vi vk q) : RT w M N vi vk (idsL q) (keysL q) := ⟨h.b, h.i, h.k, h.mi, h.mk'⟩
theorem RT.one {q : List Th} (h : RT w M N vi vk (idsL q) (keysL q)) (h1 : 1 ≤ N) (h2 : N ≤ 4096) (h3 : q.length ≤ N) : RM w M N vi vk q := ⟨h.b, h.i, h.k, h.mi, h.mk', h1, h2, h3⟩
theorem RT.lt (h : RT w M N vi vk ids ks) : M < w.heap.size := (Array.getElem?_eq_some_iff.1 h.b).1
theorem RT.c1 (h : RT w M N vi vk ids ks) : w.cell? ⟨M, 1, none⟩ = some vi := by simp [World.cell?, h.b]
theorem RT.c2 (h : RT w M N vi vk ids ks) : w.cell? ⟨M, 2, none⟩ = some vk := by simp [World.cell?, h.b]
theorem RT.fz (h : RT w M N vi vk ids ks) (hb : But [] w w1) (j : Nat) : w1.frozen? ⟨M, j, none⟩ = false := by simp [World.frozen?, hb.block M h.lt (by simp), h.b]
theorem new_ne (h : RowI w1 w.heap.size v' xs) {x : Nat} (hx : x < w.heap.size) : v'.ownBlock ≠ some x := fun e => by have := (World.ownsRow.lt h x e).1; omega
/-- Another row of ids. -/
theorem RT.setI (h : RT w M N vi vk ids ks) (hb : But [] w w1) (hr : RowI w1 w.heap.size v' xs) : RT (w1.setCell ⟨M, 1, none⟩ v') M N v' vk xs ks ∧ Step (rbs M vi vk) w (rbs M v' vk) (w1.setCell ⟨M, 1, none⟩ v') := by
  have hM := h.lt
  have nM := new_ne hr hM
  have e1 : w1.heap[M]? = _ := (hb.block M hM (by simp)).trans h.b
  refine ⟨⟨?_, RowI.put' (row_lower hr (Nat.zero_le _)) (fun x hx => Below.heap_setCell w1 ⟨M, 1, none⟩ _ x (fun e => nM (by rw [hx, e]))), h.k.put' (fun x hx => ?_), nM, h.mk'⟩, hb.wide.set (p := ⟨M, 1, none⟩) rbs_M _, fun x hx => ?_⟩
  · have := heap_setCell_same w1 M 1 _ 34 v' e1
    rw [this]
    simp
  · exact (Below.heap_setCell w1 ⟨M, 1, none⟩ _ x (fun e => h.mk' (by rw [hx, e]))).trans (hb.block x (World.ownsRow.lt h.k x hx).2 (by simp))
  · rcases rbs_out hx with rfl | hx | hx
    · exact .inl rbs_M
    · exact .inr (World.ownsRow.lt hr x hx).1
    · exact .inl (rbs_k hx)
/-- Another row of keys. -/
theorem RT.setK (h : RT w M N vi vk ids ks) (hb : But [] w w1) (hr : RowI w1 w.heap.size v' xs) : RT (w1.setCell ⟨M, 2, none⟩ v') M N vi v' ids xs ∧ Step (rbs M vi vk) w (rbs M vi v') (w1.setCell ⟨M, 2, none⟩ v') := by
  have hM := h.lt
  have nM := new_ne hr hM
  have e1 : w1.heap[M]? = _ := (hb.block M hM (by simp)).trans h.b
  refine ⟨⟨?_, h.i.put' (fun x hx => ?_), RowI.put' (row_lower hr (Nat.zero_le _)) (fun x hx => Below.heap_setCell w1 ⟨M, 2, none⟩ _ x (fun e => nM (by rw [hx, e]))), h.mi, nM⟩, hb.wide.set (p := ⟨M, 2, none⟩) rbs_M _, fun x hx => ?_⟩
  · have := heap_setCell_same w1 M 2 _ 34 v' e1
    rw [this]
    simp
  · exact (Below.heap_setCell w1 ⟨M, 2, none⟩ _ x (fun e => h.mi (by rw [hx, e]))).trans (hb.block x (World.ownsRow.lt h.i x hx).2 (by simp))
  · rcases rbs_out hx with rfl | hx | hx
    · exact .inl rbs_M
    · exact .inl (rbs_i hx)
    · exact .inr (World.ownsRow.lt hr x hx).1
end

/-- What a list's two parts look like as slices. -/
theorem parts_out {w : World} {g c i : Nat} {zs : List Int} (hi : i < zs.length) (hz : IntsR w (some ⟨g, 0, none⟩) zs) (hc : zs.length ≤ c) {ad : Addr} (hd : ad = (if c = i + 1 then (⟨g, 0, none⟩ : Addr) else ⟨g, i + 1, none⟩)) :
    Reads w (some ⟨g, 0, none⟩) c (zs.take i) ∧ Reads w (some ad) (c - (i + 1)) (zs.drop (i + 1)) := by
  refine ⟨.inr ⟨_, rfl, fun j y hy => ?_⟩, .inr ⟨_, rfl, fun j y hy => ?_⟩⟩
  · have hj : j < i := by have := (List.getElem?_eq_some_iff.1 hy).1; rw [List.length_take] at this; omega
    rw [List.getElem?_take_of_lt hj] at hy
    obtain ⟨g', e, hcc⟩ := hz j y hy
    cases e
    rw [WideShapes.add_plain, Nat.zero_add]
    exact hcc
  · rw [List.getElem?_drop] at hy
    have hj := (List.getElem?_eq_some_iff.1 hy).1
    rw [hd, if_neg (by omega), WideShapes.add_plain]
    obtain ⟨g', e, hcc⟩ := hz _ y hy
    cases e
    exact hcc

section
variable {w : World} {M N : Nat} {ids ks : List Int} {vi vk : Value}

set_option maxHeartbeats 4000000 in
theorem rout_any (h : RT w M N vi vk ids ks) (hlen : ks.length = ids.length) (h4 : ids.length ≤ 4096) (i : Nat) (hi0 : i < ids.length) :
    Calls Try.prog 43 #[.pointer (some ⟨M, 0, none⟩), .int .i64 i] w fun e w' => e = .returned (.tuple #[]) ∧ ∃ vi' vk', RT w' M N vi' vk' (ids.eraseIdx i) (ks.eraseIdx i) ∧ Step (rbs M vi vk) w (rbs M vi' vk') w' := by
  obtain ⟨ai, ci, rfl, hci, -, -, hxi⟩ := h.i.shape
  obtain ⟨ak, ck, rfl, hck, -, -, hxk⟩ := h.k.shape
  obtain ⟨gi, rfl, -⟩ := hxi i _ (List.getElem?_eq_getElem hi0)
  obtain ⟨gk, rfl, -⟩ := hxk i _ (List.getElem?_eq_getElem (by omega))
  have hmx : Try.prog.follows .mixedOrders = true := by kernel_rfl
  have hl1 : ids.length ≤ ks.length := by omega
  have hl2 : ks.length ≤ ids.length := by omega
  clear hlen
  have hi1 : (0 : Int) ≤ (i : Int) := by omega
  have hi2 : (0 : Int) ≤ (i : Int) + 1 := by omega
  have hiw : IntKind.i64.wrap ((i : Int) + 1) = (i : Int) + 1 := by rw [IntKind.wrap_i64]; omega
  have hic : (i : Int) ≤ (ci : Int) := by omega
  have hick : (i : Int) ≤ (ck : Int) := by omega
  have hin : (i : Int) + 1 ≤ (ids.length : Int) := by omega
  have hink : (i : Int) + 1 ≤ (ks.length : Int) := by omega
  have hnc : (ids.length : Int) ≤ (ci : Int) := by omega
  have hnck : (ks.length : Int) ≤ (ck : Int) := by omega
  go_enter Try.func43, Try.ntmps43
  go_upto_region 0 with fail
  go_cut [] from 4 to 22 (fun wx => ∃ v', RT wx M N v' (.slice (some ⟨gk, 0, none⟩) ks.length ck) (ids.eraseIdx i) ks ∧ Step (rbs M (.slice (some ⟨gi, 0, none⟩) ids.length ci) (.slice (some ⟨gk, 0, none⟩) ks.length ck)) w (rbs M v' (.slice (some ⟨gk, 0, none⟩) ks.length ck)) wx)
  case first =>
    have HC := h.c1
    have HF : ∀ w1, But [] w w1 → w1.frozen? ⟨M, 1, none⟩ = false := fun w1 hb => h.fz hb 1
    obtain ⟨ad, hd⟩ : ∃ ad, ad = (if ci = i + 1 then (⟨gi, 0, none⟩ : Addr) else ⟨gi, i + 1, none⟩) := ⟨_, rfl⟩
    obtain ⟨R1, R2⟩ := parts_out hi0 hxi hci hd
    have hif : (if ci = i + 1 then some (⟨gi, 0, none⟩ : Addr) else some ⟨gi, i + 1, none⟩) = some ad := by rw [hd]; split <;> rfl
    clear hd
    have L1 : Hid ((ids.take i).length = i) := by show (ids.take i).length = i; rw [List.length_take]; omega
    have L2 : Hid ((ids.drop (i + 1)).length = ids.length - (i + 1)) := by show (ids.drop (i + 1)).length = ids.length - (i + 1); rw [List.length_drop]
    have OW1 := (own_none w).drew
    have B1 : But [] w (w.alloc (.cells #[] 3)).drew := ((But.refl [] w).alloc _).drew
    refine wp_region_K 19 (fun w' => w'.cell? ⟨M, 1, none⟩ = some (.slice (some ⟨gi, 0, none⟩) ids.length ci)) hmx (by kernel_rfl) HC (fun hHeld hdep => ?_)
    refine wpAnyK_take (i := 0) (v := ?_) (some 4) rfl rfl hdep (by kernel_rfl) (fun _ _ _ h => h) (Or.inl ⟨by rfl, ?_⟩) hHeld ?_
    rotate_left
    · (intro w hSw; go_simp; all_goals with_reducible rfl)
    try simp only [Act.put, List.setIfInBounds_toArray, List.set_cons_zero, List.set_cons_succ]
    refine wpAnyK_take (i := 2) (v := ?_) (some 6) rfl rfl hdep (by kernel_rfl) (fun _ _ _ h => h) (Or.inl ⟨by rfl, ?_⟩) hHeld ?_
    rotate_left
    · (intro w hSw; go_simp; all_goals with_reducible rfl)
    try simp only [Act.put, List.setIfInBounds_toArray, List.set_cons_zero, List.set_cons_succ]
    refine wpAnyK_take (i := 3) (v := ?_) (some 7) rfl rfl hdep (by kernel_rfl) (fun _ _ _ h => h) (Or.inl ⟨by rfl, ?_⟩) hHeld ?_
    rotate_left
    · (intro w hSw; go_simp; all_goals with_reducible rfl)
    try simp only [Act.put, List.setIfInBounds_toArray, List.set_cons_zero, List.set_cons_succ]
    refine wpAnyK_take (i := 4) (v := ?_) (some 8) rfl rfl hdep (by kernel_rfl) (fun _ _ _ h => h) (Or.inl ⟨by rfl, ?_⟩) hHeld ?_
    rotate_left
    · (intro w hSw; go_simp; all_goals with_reducible rfl)
    try simp only [Act.put, List.setIfInBounds_toArray, List.set_cons_zero, List.set_cons_succ]
    refine wpAnyK_take (i := 5) (v := ?_) (some 9) rfl rfl hdep (by kernel_rfl) (fun _ _ _ h => h) (Or.inl ⟨by rfl, ?_⟩) hHeld ?_
    rotate_left
    · (intro w hSw; go_simp; all_goals with_reducible rfl)
    try simp only [Act.put, List.setIfInBounds_toArray, List.set_cons_zero, List.set_cons_succ]
    refine wpAnyK_take (i := 6) (v := ?_) (some 10) rfl rfl hdep (by kernel_rfl) (fun _ _ _ h => h) (Or.inl ⟨by rfl, ?_⟩) hHeld ?_
    rotate_left
    · (intro w hSw; go_simp; all_goals with_reducible rfl)
    try simp only [Act.put, List.setIfInBounds_toArray, List.set_cons_zero, List.set_cons_succ]
    refine wpAnyK_take (i := 7) (v := ?_) (some 11) rfl rfl hdep (by kernel_rfl) (fun _ _ _ h => h) (Or.inl ⟨by rfl, ?_⟩) hHeld ?_
    rotate_left
    · (intro w hSw; go_simp; all_goals with_reducible rfl)
    try simp only [Act.put, List.setIfInBounds_toArray, List.set_cons_zero, List.set_cons_succ]
    refine wpAnyK_take (i := 9) (v := ?_) (some 13) rfl rfl hdep (by kernel_rfl) (fun _ _ _ h => h) (Or.inl ⟨by rfl, ?_⟩) hHeld ?_
    rotate_left
    · (intro w hSw; go_simp; all_goals with_reducible rfl)
    try simp only [Act.put, List.setIfInBounds_toArray, List.set_cons_zero, List.set_cons_succ]
    refine wpAnyK_take (i := 10) (v := ?_) (some 14) rfl rfl hdep (by kernel_rfl) (fun _ _ _ h => h) (Or.inl ⟨by rfl, ?_⟩) hHeld ?_
    rotate_left
    · (intro w hSw; go_simp; all_goals with_reducible rfl)
    try simp only [Act.put, List.setIfInBounds_toArray, List.set_cons_zero, List.set_cons_succ]
    refine wpAnyK_take (i := 11) (v := ?_) (some 15) rfl rfl hdep (by kernel_rfl) (fun _ _ _ h => h) (Or.inl ⟨by rfl, ?_⟩) hHeld ?_
    rotate_left
    · (intro w hSw; go_simp; all_goals with_reducible rfl)
    try simp only [Act.put, List.setIfInBounds_toArray, List.set_cons_zero, List.set_cons_succ]
    refine wpAnyK_take (i := 12) (v := ?_) (some 16) rfl rfl hdep (by kernel_rfl) (fun _ _ _ h => h) (Or.inl ⟨by rfl, ?_⟩) hHeld ?_
    rotate_left
    · (intro w hSw; go_simp; all_goals with_reducible rfl)
    try simp only [Act.put, List.setIfInBounds_toArray, List.set_cons_zero, List.set_cons_succ]
    refine wpAnyK_take (i := 13) (v := ?_) (some 17) rfl rfl hdep (by kernel_rfl) (fun _ _ _ h => h) (Or.inl ⟨by rfl, ?_⟩) hHeld ?_
    rotate_left
    · (intro w hSw; go_simp; all_goals with_reducible rfl)
    try simp only [Act.put, List.setIfInBounds_toArray, List.set_cons_zero, List.set_cons_succ]
    refine wpAnyK_take (i := 14) (v := ?_) (some 18) rfl rfl hdep (by kernel_rfl) (fun _ _ _ h => h) (Or.inl ⟨by rfl, ?_⟩) hHeld ?_
    rotate_left
    · (intro w hSw; go_simp; all_goals with_reducible rfl)
    try simp only [Act.put, List.setIfInBounds_toArray, List.set_cons_zero, List.set_cons_succ]
    refine wpAnyK_take (i := 15) (v := ?_) (some 19) rfl rfl hdep (by kernel_rfl) (fun _ _ _ h => h) (Or.inl ⟨by rfl, ?_⟩) hHeld ?_
    rotate_left
    · (intro w hSw; go_simp; all_goals with_reducible rfl)
    try simp only [Act.put, List.setIfInBounds_toArray, List.set_cons_zero, List.set_cons_succ]
    refine wpAnyK_one (i := 1) (by kernel_rfl) rfl (fun K hK => ?_)
    go_simp
    refine hK.out _ _ (fun _ => B1.cell HC) ?_
    clear hK K
    try simp only [Act.put, List.setIfInBounds_toArray, List.set_cons_zero, List.set_cons_succ]
    refine wpAnyK_one (i := 8) (by kernel_rfl) rfl (fun K hK => ?_)
    refine step_app rfl (.tmp 5) (.tmp 11) rfl w.heap.size _ 0 [] rfl OW1 _ _ _ (ids.take i) rfl L1.out (R1.but B1) (by omega) (by simp [World.drew] <;> omega) ?_
    intro v2 w2 ho2 hg2
    rw [Nat.zero_add, List.nil_append] at ho2
    have hb2 : But [] w w2 := B1.grown hg2 (fun k e => by cases e; simp)
    obtain ⟨sa2, sc2, rfl⟩ := own_shape ho2
    refine hK.out _ _ (fun _ => hb2.cell HC) ?_
    clear hK K
    try simp only [Act.put, List.setIfInBounds_toArray, List.set_cons_zero, List.set_cons_succ]
    refine wpAnyK_one (i := 16) (by kernel_rfl) rfl (fun K hK => ?_)
    refine step_app rfl (.tmp 12) (.tmp 19) rfl w.heap.size _ i (ids.take i) rfl ho2 _ _ _ (ids.drop (i + 1)) rfl L2.out (R2.but hb2) (by omega) (by have := hb2.size; omega) ?_
    intro v4 w4 ho4 hg4
    have hb4 : But [] w w4 := hb2.grown hg4 (fun k e => (ho2.lt k e).1)
    obtain ⟨sa4, sc4, rfl⟩ := own_shape ho4
    have hc4 := hb4.cell HC
    have hf4 := HF _ hb4
    refine hK.out _ _ (fun _ => hc4) ?_
    clear hK K
    try simp only [Act.put, List.setIfInBounds_toArray, List.set_cons_zero, List.set_cons_succ]
    refine wpAnyK_take (i := 17) (v := ?_) (some 21) rfl rfl hdep (by kernel_rfl) (fun _ _ _ h => h) (Or.inl ⟨by rfl, ?_⟩) hc4 ?_
    rotate_left
    · (intro w hSw; go_simp; all_goals with_reducible rfl)
    try simp only [Act.put, List.setIfInBounds_toArray, List.set_cons_zero, List.set_cons_succ]
    refine wpAnyK_take (i := 18) (v := ?_) (some 22) rfl rfl hdep (by kernel_rfl) (fun _ _ _ h => h) (Or.inl ⟨by rfl, ?_⟩) hc4 ?_
    rotate_left
    · (intro w hSw; go_simp; all_goals with_reducible rfl)
    try simp only [Act.put, List.setIfInBounds_toArray, List.set_cons_zero, List.set_cons_succ]
    refine wpAnyK_one (i := 19) (by kernel_rfl) rfl (fun K hK => ?_)
    go_simp
    refine hK.out _ _ (fun h => absurd rfl h) ?_
    clear hK K
    try simp only [Act.put, List.setIfInBounds_toArray, List.set_cons_zero, List.set_cons_succ]
    refine wpAnyK_done (by kernel_rfl) ?_
    go_wp2_with fail
    go_meet
    case rel =>
      have e : ids.take i ++ ids.drop (i + 1) = ids.eraseIdx i := (List.eraseIdx_eq_take_drop_succ ids i).symm
      rw [e] at ho4
      have hle : (ids.eraseIdx i).length = i + (ids.length - (i + 1)) := by rw [List.length_eraseIdx, if_pos (by omega)]; omega
      obtain ⟨r1, r2⟩ := h.setI hb4 (v' := .slice sa4 (i + (ids.length - (i + 1))) sc4) (xs := ids.eraseIdx i) (by unfold RowI; rw [hle]; exact ho4)
      exact ⟨_, r1, r2⟩
  case rest =>
    obtain ⟨v', hT, hst⟩ := hcut
    have hzk : IntsR wc (some ⟨gk, 0, none⟩) ks := RowI.at hT.k
    clear hxk hxi h
    go_wp2_with fail
    have HC := hT.c2
    have HF : ∀ w1, But [] wc w1 → w1.frozen? ⟨M, 2, none⟩ = false := fun w1 hb => hT.fz hb 2
    obtain ⟨ad, hd⟩ : ∃ ad, ad = (if ck = i + 1 then (⟨gk, 0, none⟩ : Addr) else ⟨gk, i + 1, none⟩) := ⟨_, rfl⟩
    obtain ⟨R1, R2⟩ := parts_out (show i < ks.length by omega) hzk hck hd
    have hif : (if ck = i + 1 then some (⟨gk, 0, none⟩ : Addr) else some ⟨gk, i + 1, none⟩) = some ad := by rw [hd]; split <;> rfl
    clear hd
    have L1 : Hid ((ks.take i).length = i) := by show (ks.take i).length = i; rw [List.length_take]; omega
    have L2 : Hid ((ks.drop (i + 1)).length = ks.length - (i + 1)) := by show (ks.drop (i + 1)).length = ks.length - (i + 1); rw [List.length_drop]
    have OW1 := (own_none wc).drew
    have B1 : But [] wc (wc.alloc (.cells #[] 3)).drew := ((But.refl [] wc).alloc _).drew
    refine wp_region_K 19 (fun w' => w'.cell? ⟨M, 2, none⟩ = some (.slice (some ⟨gk, 0, none⟩) ks.length ck)) hmx (by kernel_rfl) HC (fun hHeld hdep => ?_)
    refine wpAnyK_take (i := 0) (v := ?_) (some 23) rfl rfl hdep (by kernel_rfl) (fun _ _ _ h => h) (Or.inl ⟨by rfl, ?_⟩) hHeld ?_
    rotate_left
    · (intro w hSw; go_simp; all_goals with_reducible rfl)
    try simp only [Act.put, List.setIfInBounds_toArray, List.set_cons_zero, List.set_cons_succ]
    refine wpAnyK_take (i := 2) (v := ?_) (some 25) rfl rfl hdep (by kernel_rfl) (fun _ _ _ h => h) (Or.inl ⟨by rfl, ?_⟩) hHeld ?_
    rotate_left
    · (intro w hSw; go_simp; all_goals with_reducible rfl)
    try simp only [Act.put, List.setIfInBounds_toArray, List.set_cons_zero, List.set_cons_succ]
    refine wpAnyK_take (i := 3) (v := ?_) (some 26) rfl rfl hdep (by kernel_rfl) (fun _ _ _ h => h) (Or.inl ⟨by rfl, ?_⟩) hHeld ?_
    rotate_left
    · (intro w hSw; go_simp; all_goals with_reducible rfl)
    try simp only [Act.put, List.setIfInBounds_toArray, List.set_cons_zero, List.set_cons_succ]
    refine wpAnyK_take (i := 4) (v := ?_) (some 27) rfl rfl hdep (by kernel_rfl) (fun _ _ _ h => h) (Or.inl ⟨by rfl, ?_⟩) hHeld ?_
    rotate_left
    · (intro w hSw; go_simp; all_goals with_reducible rfl)
    try simp only [Act.put, List.setIfInBounds_toArray, List.set_cons_zero, List.set_cons_succ]
    refine wpAnyK_take (i := 5) (v := ?_) (some 28) rfl rfl hdep (by kernel_rfl) (fun _ _ _ h => h) (Or.inl ⟨by rfl, ?_⟩) hHeld ?_
    rotate_left
    · (intro w hSw; go_simp; all_goals with_reducible rfl)
    try simp only [Act.put, List.setIfInBounds_toArray, List.set_cons_zero, List.set_cons_succ]
    refine wpAnyK_take (i := 6) (v := ?_) (some 29) rfl rfl hdep (by kernel_rfl) (fun _ _ _ h => h) (Or.inl ⟨by rfl, ?_⟩) hHeld ?_
    rotate_left
    · (intro w hSw; go_simp; all_goals with_reducible rfl)
    try simp only [Act.put, List.setIfInBounds_toArray, List.set_cons_zero, List.set_cons_succ]
    refine wpAnyK_take (i := 7) (v := ?_) (some 30) rfl rfl hdep (by kernel_rfl) (fun _ _ _ h => h) (Or.inl ⟨by rfl, ?_⟩) hHeld ?_
    rotate_left
    · (intro w hSw; go_simp; all_goals with_reducible rfl)
    try simp only [Act.put, List.setIfInBounds_toArray, List.set_cons_zero, List.set_cons_succ]
    refine wpAnyK_take (i := 9) (v := ?_) (some 32) rfl rfl hdep (by kernel_rfl) (fun _ _ _ h => h) (Or.inl ⟨by rfl, ?_⟩) hHeld ?_
    rotate_left
    · (intro w hSw; go_simp; all_goals with_reducible rfl)
    try simp only [Act.put, List.setIfInBounds_toArray, List.set_cons_zero, List.set_cons_succ]
    refine wpAnyK_take (i := 10) (v := ?_) (some 33) rfl rfl hdep (by kernel_rfl) (fun _ _ _ h => h) (Or.inl ⟨by rfl, ?_⟩) hHeld ?_
    rotate_left
    · (intro w hSw; go_simp; all_goals with_reducible rfl)
    try simp only [Act.put, List.setIfInBounds_toArray, List.set_cons_zero, List.set_cons_succ]
    refine wpAnyK_take (i := 11) (v := ?_) (some 34) rfl rfl hdep (by kernel_rfl) (fun _ _ _ h => h) (Or.inl ⟨by rfl, ?_⟩) hHeld ?_
    rotate_left
    · (intro w hSw; go_simp; all_goals with_reducible rfl)
    try simp only [Act.put, List.setIfInBounds_toArray, List.set_cons_zero, List.set_cons_succ]
    refine wpAnyK_take (i := 12) (v := ?_) (some 35) rfl rfl hdep (by kernel_rfl) (fun _ _ _ h => h) (Or.inl ⟨by rfl, ?_⟩) hHeld ?_
    rotate_left
    · (intro w hSw; go_simp; all_goals with_reducible rfl)
    try simp only [Act.put, List.setIfInBounds_toArray, List.set_cons_zero, List.set_cons_succ]
    refine wpAnyK_take (i := 13) (v := ?_) (some 36) rfl rfl hdep (by kernel_rfl) (fun _ _ _ h => h) (Or.inl ⟨by rfl, ?_⟩) hHeld ?_
    rotate_left
    · (intro w hSw; go_simp; all_goals with_reducible rfl)
    try simp only [Act.put, List.setIfInBounds_toArray, List.set_cons_zero, List.set_cons_succ]
    refine wpAnyK_take (i := 14) (v := ?_) (some 37) rfl rfl hdep (by kernel_rfl) (fun _ _ _ h => h) (Or.inl ⟨by rfl, ?_⟩) hHeld ?_
    rotate_left
    · (intro w hSw; go_simp; all_goals with_reducible rfl)
    try simp only [Act.put, List.setIfInBounds_toArray, List.set_cons_zero, List.set_cons_succ]
    refine wpAnyK_take (i := 15) (v := ?_) (some 38) rfl rfl hdep (by kernel_rfl) (fun _ _ _ h => h) (Or.inl ⟨by rfl, ?_⟩) hHeld ?_
    rotate_left
    · (intro w hSw; go_simp; all_goals with_reducible rfl)
    try simp only [Act.put, List.setIfInBounds_toArray, List.set_cons_zero, List.set_cons_succ]
    refine wpAnyK_one (i := 1) (by kernel_rfl) rfl (fun K hK => ?_)
    go_simp
    refine hK.out _ _ (fun _ => B1.cell HC) ?_
    clear hK K
    try simp only [Act.put, List.setIfInBounds_toArray, List.set_cons_zero, List.set_cons_succ]
    refine wpAnyK_one (i := 8) (by kernel_rfl) rfl (fun K hK => ?_)
    refine step_app rfl (.tmp 24) (.tmp 30) rfl wc.heap.size _ 0 [] rfl OW1 _ _ _ (ks.take i) rfl L1.out (R1.but B1) (by omega) (by simp [World.drew] <;> omega) ?_
    intro v2 w2 ho2 hg2
    rw [Nat.zero_add, List.nil_append] at ho2
    have hb2 : But [] wc w2 := B1.grown hg2 (fun k e => by cases e; simp)
    obtain ⟨sa2, sc2, rfl⟩ := own_shape ho2
    refine hK.out _ _ (fun _ => hb2.cell HC) ?_
    clear hK K
    try simp only [Act.put, List.setIfInBounds_toArray, List.set_cons_zero, List.set_cons_succ]
    refine wpAnyK_one (i := 16) (by kernel_rfl) rfl (fun K hK => ?_)
    refine step_app rfl (.tmp 31) (.tmp 38) rfl wc.heap.size _ i (ks.take i) rfl ho2 _ _ _ (ks.drop (i + 1)) rfl L2.out (R2.but hb2) (by omega) (by have := hb2.size; omega) ?_
    intro v4 w4 ho4 hg4
    have hb4 : But [] wc w4 := hb2.grown hg4 (fun k e => (ho2.lt k e).1)
    obtain ⟨sa4, sc4, rfl⟩ := own_shape ho4
    have hc4 := hb4.cell HC
    have hf4 := HF _ hb4
    refine hK.out _ _ (fun _ => hc4) ?_
    clear hK K
    try simp only [Act.put, List.setIfInBounds_toArray, List.set_cons_zero, List.set_cons_succ]
    refine wpAnyK_take (i := 17) (v := ?_) (some 40) rfl rfl hdep (by kernel_rfl) (fun _ _ _ h => h) (Or.inl ⟨by rfl, ?_⟩) hc4 ?_
    rotate_left
    · (intro w hSw; go_simp; all_goals with_reducible rfl)
    try simp only [Act.put, List.setIfInBounds_toArray, List.set_cons_zero, List.set_cons_succ]
    refine wpAnyK_take (i := 18) (v := ?_) (some 41) rfl rfl hdep (by kernel_rfl) (fun _ _ _ h => h) (Or.inl ⟨by rfl, ?_⟩) hc4 ?_
    rotate_left
    · (intro w hSw; go_simp; all_goals with_reducible rfl)
    try simp only [Act.put, List.setIfInBounds_toArray, List.set_cons_zero, List.set_cons_succ]
    refine wpAnyK_one (i := 19) (by kernel_rfl) rfl (fun K hK => ?_)
    go_simp
    refine hK.out _ _ (fun h => absurd rfl h) ?_
    clear hK K
    try simp only [Act.put, List.setIfInBounds_toArray, List.set_cons_zero, List.set_cons_succ]
    refine wpAnyK_done (by kernel_rfl) ?_
    go_wp2_with fail
    go_end0
    have e : ks.take i ++ ks.drop (i + 1) = ks.eraseIdx i := (List.eraseIdx_eq_take_drop_succ ks i).symm
    rw [e] at ho4
    have hle : (ks.eraseIdx i).length = i + (ks.length - (i + 1)) := by rw [List.length_eraseIdx, if_pos (by omega)]; omega
    obtain ⟨r1, r2⟩ := hT.setK hb4 (v' := .slice sa4 (i + (ks.length - (i + 1))) sc4) (xs := ks.eraseIdx i) (by unfold RowI; rw [hle]; exact ho4)
    exact ⟨rfl, _, _, r1, hst.trans r2⟩
end

end Go.Proofs.Ytmogedfjhbfglaa
