/- The document's New, Count, Copy. -/
/- The document's New, Count, Copy of its table. -/
import Derived.Test.YtjgclehghnmhnaaDoorJ04LCores
import Derived.Test.YtjgclehghnmhnaaDoorLfL
namespace Go.Proofs.YtjgclehghnmhnaaDoor
open Go Go.RowKit

theorem step_ownG {ts e : TypeId} {z : Value} {size bytes : Nat} (ht : Tryd.prog.underlying ts = some (.slice e)) (hi : (Tryd.prog.info? e).map (fun i => (i.zero, i.size, i.bytes)) = some (some z, size, bytes)) (hzs : z.cells.size = size) (hsz : 0 < size)
    {w : World} {ops : Array Oper} {o : Oper} {a : Act} {K : Act → World → Prop} {Q : Exit → Act → World → Prop} {E : Prop} (hg : o.guard = none) (s x : Operand) (hop : o.op = Op.call { callee := Callee.builtin Builtin.append, args := #[s, x], argTypes := #[ts, ts] })
    (B n : Nat) (v : Value) (xs : List Value) (hs : a.eval s = v) (hown : w.ownsRow B e size v n xs) (sp : Option Addr) (m c : Nat) (ys : List Value) (hx : a.eval x = .slice sp m c) (hy : Rw w sp ys) (hyl : ys.length = m * size) (h1 : ∀ u ∈ ys, u.oneCell' = true)
    (h63 : n + m ≤ maxLen) (hbytes : (n + m) * bytes ≤ 140737488355328) (hb : B ≤ w.heap.size)
    (hK : ∀ v' w', w'.ownsRow B e size v' (n + m) (xs ++ ys) → w.grownBy w' v.ownBlock → (v'.ownBlock = v.ownBlock ∨ v'.ownBlock = some w.heap.size) → K (a.put o.dst v') w') :
    if Region.wanted o (yielded ops a.tmps) = true then Oper.wp Tryd.prog o a w K Q else E := by
  have hw : Region.wanted o (yielded ops a.tmps) = true := by simp [Region.wanted, hg]
  rw [if_pos hw]
  obtain ⟨v', w', hrun, r1, r2, r3⟩ := run_own (ty := o.type) (c := c) ht hi hzs hsz hown hy hyl h1 h63 hbytes hb
  unfold Oper.wp execOp
  simp only [hop, resolve, invoke, builtin, Sem.run_bind, Sem.run_pure, Result.andThen_ok, List.map_toArray, List.map_cons, List.map_nil, hs, hx, hrun]
  exact hK v' w' r1 r2 r3
theorem own0 (W : World) (t : TypeId) : (W.alloc (.cells #[] t)).ownsRow W.heap.size t 1 (.slice (some ⟨W.heap.size, 0, none⟩) 0 0) 0 [] :=
  World.ownsRow_lit (base := W.heap.size) (e := t) (size := 1) W #[] 0 (Nat.le_refl _) (Nat.zero_le _) rfl
theorem own_row {W : World} {B n : Nat} {t : TypeId} {v : Value} {vs : List Value} (h : W.ownsRow B t 1 v n vs) (h1 : 1 ≤ n) : ∃ g cap, v = .slice (some ⟨g, 0, none⟩) n cap ∧ B ≤ g ∧ Row W g t vs := by
  rcases h.2 with ⟨_, h0⟩ | ⟨g, cap, cur, rfl, hg, hb, _, _, _, hx⟩
  · omega
  · refine ⟨g, cap, rfl, hg, cur, hb, fun j u hu => ?_⟩
    rw [← hx, List.getElem?_take] at hu
    split at hu
    · rw [← Array.getElem?_toList]
      exact hu
    · cases hu
theorem Row.rw {W : World} {g : Nat} {t : TypeId} {vs : List Value} (h : Row W g t vs) : Rw W (some ⟨g, 0, none⟩) vs := fun j u hu => ⟨g, 0, rfl, by
  rw [Nat.zero_add]
  exact h.cell hu⟩
theorem info3i : (Tryd.prog.info? 3).map (fun i => (i.zero, i.size, i.bytes)) = some (some (.int .i64 0), 1, 8) := by kernel_rfl
theorem int_one (xs : List Nat) : ∀ u ∈ xs.map (fun x : Nat => Value.int .i64 x), u.oneCell' = true := fun u hu => by
  obtain ⟨x, _, rfl⟩ := List.mem_map.1 hu
  rfl
theorem bool_one (xs : List Bool) : ∀ u ∈ xs.map Value.bool, u.oneCell' = true := fun u hu => by
  obtain ⟨x, _, rfl⟩ := List.mem_map.1 hu
  rfl
section
variable {w : World} {M A T n : Nat} {ag : List Nat} {tk : List Bool}
/-- Two rows and the box. -/
theorem rs_made {W : World} {g1 g2 c1 c2 : Nat} (r1 : Row W g1 3 (ag.map (fun x : Nat => Value.int .i64 x))) (r2 : Row W g2 4 (tk.map Value.bool)) (hne : g1 ≠ g2) (al : ag.length = n) (tl : tk.length = n) (le : n ≤ 4096) (ab : ∀ x ∈ ag, x ≤ 2147483647) :
    RS (W.alloc (.cells #[.slice (some ⟨g1, 0, none⟩) n c1, .slice (some ⟨g2, 0, none⟩) n c2] 98)) W.heap.size g1 g2 n ag tk := by
  have hb : Below W.heap.size W (W.alloc (.cells #[.slice (some ⟨g1, 0, none⟩) n c1, .slice (some ⟨g2, 0, none⟩) n c2] 98)) := (Below.refl _ _).alloc (Nat.le_refl _) _
  exact ⟨⟨c1, c2, Cel.new W _ _⟩, r1.put (hb.block _ r1.lt), r2.put (hb.block _ r2.lt), by have := r1.lt; omega, by have := r2.lt; omega, hne, al, tl, le, ab⟩
set_option maxHeartbeats 4000000 in
set_option maxRecDepth 100000 in
theorem r4copy_any (h : RS w M A T n ag tk) (hn1 : 1 ≤ n) :
    Calls Tryd.prog 56 #[.pointer (some ⟨M, 0, none⟩)] w fun e w' => ∃ M2 A2 T2, e = .returned (.pointer (some ⟨M2, 0, none⟩)) ∧ RS w' M2 A2 T2 n ag tk ∧ Below w.heap.size w w' ∧ w.heap.size ≤ M2 ∧ w.heap.size ≤ A2 ∧ w.heap.size ≤ T2 := by
  obtain ⟨ca, c0⟩ := h.c0
  obtain ⟨ct, c1⟩ := h.c1
  have HA : ∀ W, Below w.heap.size w W → Rw W (some ⟨A, 0, none⟩) (ag.map (fun x : Nat => Value.int .i64 x)) := fun W b => (h.keep (.of_below b)).a.rw
  have HT : ∀ W, Below w.heap.size w W → Rw W (some ⟨T, 0, none⟩) (tk.map Value.bool) := fun W b => (h.keep (.of_below b)).t.rw
  have hal : (ag.map (fun x : Nat => Value.int .i64 x)).length = n * 1 := by rw [List.length_map, h.al]; omega
  have htl : (tk.map Value.bool).length = n * 1 := by rw [List.length_map, h.tl]; omega
  have h4 := h.le
  have hmx : 0 + n ≤ maxLen := by unfold maxLen; omega
  have HRS : ∀ W g1 g2 c1 c2, Row W g1 3 (ag.map (fun x : Nat => Value.int .i64 x)) → Row W g2 4 (tk.map Value.bool) → g1 ≠ g2 → RS (W.alloc (.cells #[.slice (some ⟨g1, 0, none⟩) n c1, .slice (some ⟨g2, 0, none⟩) n c2] 98)) W.heap.size g1 g2 n ag tk := fun W g1 g2 c1 c2 r1 r2 hne => rs_made r1 r2 hne h.al h.tl h.le h.ab
  clear h
  go_enter Tryd.func56, Tryd.ntmps56
  go_upto_region 1 with fail
  have b0 : Below w.heap.size w w.drew := below_drew w
  have sz0 : Hid (w.drew.heap.size = w.heap.size) := rfl
  refine wp_region_held_drew (S := (fun w' : World => w'.cell? ⟨M, 0, none⟩ = some (.slice (some ⟨A, 0, none⟩) n ca) ∧ w'.cell? ⟨M, 1, none⟩ = some (.slice (some ⟨T, 0, none⟩) n ct))) (by kernel_rfl) ⟨cell_on b0 c0, cell_on b0 c1⟩ (fun hHeld => ?_)
  generalize w.drew = W0 at *
  refine anyH_take (i := 1) (v := ?_) (some 4) rfl rfl (by kernel_rfl) (fun _ _ _ h => h) (Or.inl ⟨by rfl, ?_⟩) (by assumption) ?_
  rotate_left
  · (intro w hSw; obtain ⟨z0, z1⟩ := hSw; go_simp; all_goals with_reducible rfl)
  try simp only [Act.put, List.setIfInBounds_toArray, List.set_cons_zero, List.set_cons_succ]
  refine anyH_take (i := 2) (v := ?_) (some 5) rfl rfl (by kernel_rfl) (fun _ _ _ h => h) (Or.inl ⟨by rfl, ?_⟩) (by assumption) ?_
  rotate_left
  · (intro w hSw; obtain ⟨z0, z1⟩ := hSw; go_simp; all_goals with_reducible rfl)
  try simp only [Act.put, List.setIfInBounds_toArray, List.set_cons_zero, List.set_cons_succ]
  refine anyH_take (i := 3) (v := ?_) (some 6) rfl rfl (by kernel_rfl) (fun _ _ _ h => h) (Or.inl ⟨by rfl, ?_⟩) (by assumption) ?_
  rotate_left
  · (intro w hSw; obtain ⟨z0, z1⟩ := hSw; go_simp; all_goals with_reducible rfl)
  try simp only [Act.put, List.setIfInBounds_toArray, List.set_cons_zero, List.set_cons_succ]
  refine anyH_take (i := 4) (v := ?_) (some 7) rfl rfl (by kernel_rfl) (fun _ _ _ h => h) (Or.inl ⟨by rfl, ?_⟩) (by assumption) ?_
  rotate_left
  · (intro w hSw; obtain ⟨z0, z1⟩ := hSw; go_simp; all_goals with_reducible rfl)
  try simp only [Act.put, List.setIfInBounds_toArray, List.set_cons_zero, List.set_cons_succ]
  refine anyH_take (i := 7) (v := ?_) (some 10) rfl rfl (by kernel_rfl) (fun _ _ _ h => h) (Or.inl ⟨by rfl, ?_⟩) (by assumption) ?_
  rotate_left
  · (intro w hSw; obtain ⟨z0, z1⟩ := hSw; go_simp; all_goals with_reducible rfl)
  try simp only [Act.put, List.setIfInBounds_toArray, List.set_cons_zero, List.set_cons_succ]
  refine anyH_take (i := 8) (v := ?_) (some 11) rfl rfl (by kernel_rfl) (fun _ _ _ h => h) (Or.inl ⟨by rfl, ?_⟩) (by assumption) ?_
  rotate_left
  · (intro w hSw; obtain ⟨z0, z1⟩ := hSw; go_simp; all_goals with_reducible rfl)
  try simp only [Act.put, List.setIfInBounds_toArray, List.set_cons_zero, List.set_cons_succ]
  refine anyH_take (i := 9) (v := ?_) (some 12) rfl rfl (by kernel_rfl) (fun _ _ _ h => h) (Or.inl ⟨by rfl, ?_⟩) (by assumption) ?_
  rotate_left
  · (intro w hSw; obtain ⟨z0, z1⟩ := hSw; go_simp; all_goals with_reducible rfl)
  try simp only [Act.put, List.setIfInBounds_toArray, List.set_cons_zero, List.set_cons_succ]
  refine anyH_take (i := 10) (v := ?_) (some 13) rfl rfl (by kernel_rfl) (fun _ _ _ h => h) (Or.inl ⟨by rfl, ?_⟩) (by assumption) ?_
  rotate_left
  · (intro w hSw; obtain ⟨z0, z1⟩ := hSw; go_simp; all_goals with_reducible rfl)
  try simp only [Act.put, List.setIfInBounds_toArray, List.set_cons_zero, List.set_cons_succ]
  refine anyH_two (i := 0) (j := 6) (by kernel_rfl) rfl rfl (fun K hK => ?_) (fun K hK => ?_)
  · go_simp
    have b1 : Below w.heap.size w (W0.alloc (.cells #[] 3)) := b0.alloc b0.size _
    have oA : (W0.alloc (.cells #[] 3)).ownsRow W0.heap.size 3 1 (.slice (some ⟨W0.heap.size, 0, none⟩) 0 0) 0 [] := own0 W0 3
    have sz1 : Hid ((W0.alloc (.cells #[] 3)).heap.size = W0.heap.size + 1) := by
      show _ = _
      simp
    refine hK.out _ _ ⟨cell_on b1 c0, cell_on b1 c1⟩ (fun hHeld => ?_)
    clear hK K
    try simp only [Act.put, List.setIfInBounds_toArray, List.set_cons_zero, List.set_cons_succ]
    generalize (W0.alloc (.cells #[] 3)) = W1 at *
    obtain ⟨gA, hgA⟩ : ∃ g, Hid (W0.heap.size = g) := ⟨_, rfl⟩
    rw [hgA.out] at oA
    rw [hgA.out]
    refine anyH_two (i := 5) (j := 6) (by kernel_rfl) rfl rfl (fun K hK => ?_) (fun K hK => ?_)
    · refine step_ownG Tryd.underlying78 info3i rfl (by decide) rfl (.tmp 3) (.tmp 7) rfl gA 0 _ [] rfl oA _ _ _ _ rfl (HA _ b1) hal (int_one _) hmx (by omega) (by have := sz0.out; have := sz1.out; have := hgA.out; omega) ?_
      intro vA W2 pA grA obA
      rw [List.nil_append, Nat.zero_add] at pA
      have sz2 : Hid (W1.heap.size ≤ W2.heap.size) := grA.size
      have b2 : Below w.heap.size w W2 := b1.grown grA b1.size (fun x e => by have e3 : gA = x := Option.some.inj e; have := sz0.out; have := sz1.out; have := hgA.out; have := b0.size; omega)
      obtain ⟨qA, capA, eA, loA, rA⟩ := own_row pA hn1
      subst eA
      have qAlt : Hid (qA < W2.heap.size ∧ (qA = gA ∨ qA = W1.heap.size)) := ⟨rA.lt, by rcases obA with e | e <;> (cases e; simp)⟩
      clear pA obA grA oA
      refine hK.out _ _ ⟨cell_on b2 c0, cell_on b2 c1⟩ (fun hHeld => ?_)
      clear hK K
      try simp only [Act.put, List.setIfInBounds_toArray]
      refine anyH_one (i := 6) (by kernel_rfl) rfl (fun K hK => ?_)
      go_simp
      have b2_ : Below W2.heap.size W2 (W2.alloc (.cells #[] 4)) := (Below.refl _ _).alloc (Nat.le_refl _) _
      have b3 : Below w.heap.size w (W2.alloc (.cells #[] 4)) := b2.alloc b2.size _
      have oB : (W2.alloc (.cells #[] 4)).ownsRow W2.heap.size 4 1 (.slice (some ⟨W2.heap.size, 0, none⟩) 0 0) 0 [] := own0 W2 4
      have sz3 : Hid ((W2.alloc (.cells #[] 4)).heap.size = W2.heap.size + 1) := by
        show _ = _
        simp
      have rA := rA.put (b2_.block _ rA.lt)
      refine hK.out _ _ ⟨cell_on b3 c0, cell_on b3 c1⟩ (fun hHeld => ?_)
      clear hK K
      try simp only [Act.put, List.setIfInBounds_toArray, List.set_cons_zero, List.set_cons_succ]
      clear b2_
      generalize (W2.alloc (.cells #[] 4)) = W3 at *
      obtain ⟨gB, hgB⟩ : ∃ g, Hid (W2.heap.size = g) := ⟨_, rfl⟩
      rw [hgB.out] at oB
      rw [hgB.out]
      refine anyH_one (i := 11) (by kernel_rfl) rfl (fun K hK => ?_)
      refine step_ownG Tryd.underlying96 info4 rfl (by decide) rfl (.tmp 9) (.tmp 13) rfl gB 0 _ [] rfl oB _ _ _ _ rfl (HT _ b3) htl (bool_one _) hmx (by omega) (by have := sz0.out; have := sz1.out; have := sz2.out; have := sz3.out; have := hgB.out; omega) ?_
      intro vB W4 pB grB obB
      rw [List.nil_append, Nat.zero_add] at pB
      have sz4 : Hid (W3.heap.size ≤ W4.heap.size) := grB.size
      have b4 : Below w.heap.size w W4 := b3.grown grB b3.size (fun x e => by have e3 : gB = x := Option.some.inj e; have := sz0.out; have := sz1.out; have := sz2.out; have := sz3.out; have := hgB.out; have := b0.size; omega)
      have rA := rA.put (grB.block _ rA.lt (fun e2 => by have e3 : qA = gB := Option.some.inj e2; have := sz0.out; have := sz1.out; have := sz2.out; have := sz3.out; have := hgA.out; have := hgB.out; have := qAlt.out; omega))
      obtain ⟨qB, capB, eB, loB, rB⟩ := own_row pB hn1
      subst eB
      have qBlt : Hid (qB < W4.heap.size ∧ (qB = gB ∨ qB = W3.heap.size)) := ⟨rB.lt, by rcases obB with e | e <;> (cases e; simp)⟩
      clear pB obB grB oB
      refine hK.out _ _ ⟨cell_on b4 c0, cell_on b4 c1⟩ (fun hHeld => ?_)
      clear hK K
      try simp only [Act.put, List.setIfInBounds_toArray]
      have hne : qA ≠ qB := by
        have h1 := qAlt.out
        have h2 := qBlt.out
        have := hgA.out
        have := hgB.out
        have := sz0.out; have := sz1.out; have := sz2.out; have := sz3.out; have := sz4.out; omega
      have hRS := HRS W4 qA qB capA capB rA rB hne
      have bF : Below w.heap.size w (W4.alloc (.cells #[.slice (some ⟨qA, 0, none⟩) n capA, .slice (some ⟨qB, 0, none⟩) n capB] 98)) := b4.alloc b4.size _
      have lW : w.heap.size ≤ W4.heap.size := b4.size
      have lqA : w.heap.size ≤ qA := by have := sz0.out; have := sz1.out; have := sz2.out; have := sz3.out; have := sz4.out; have := hgA.out; have := b0.size; omega
      have lqB : w.heap.size ≤ qB := by have := sz0.out; have := sz1.out; have := sz2.out; have := sz3.out; have := sz4.out; have := hgB.out; have := b0.size; omega
      clear hgA hgB qAlt qBlt rA rB
      refine anyH_take (i := 12) (v := ?_) (some 15) rfl rfl (by kernel_rfl) (fun _ _ _ h => h) (Or.inl ⟨by rfl, ?_⟩) (by assumption) ?_
      rotate_left
      · (intro w hSw; obtain ⟨z0, z1⟩ := hSw; go_simp; all_goals with_reducible rfl)
      try simp only [Act.put]
      refine anyH_one (i := 13) (by kernel_rfl) rfl (fun K hK => ?_)
      go_simp
      refine hK.out _ _ ⟨cell_on bF c0, cell_on bF c1⟩ (fun hHeld => ?_)
      clear hK K
      try simp only [Act.put, List.setIfInBounds_toArray, List.set_cons_zero, List.set_cons_succ]
      refine anyH_one (i := 14) (by kernel_rfl) rfl (fun K hK => ?_)
      go_simp
      refine hK.out _ _ ⟨cell_on bF c0, cell_on bF c1⟩ (fun hHeld => ?_)
      clear hK K
      try simp only [Act.put, List.setIfInBounds_toArray, List.set_cons_zero, List.set_cons_succ]
      refine wpAnyH_done (by kernel_rfl) ?_ _
      go_wp2_with fail
      go_ret
      exact ⟨_, _, _, rfl, hRS, bF, lW, lqA, lqB⟩
    · go_simp
      have b2 : Below w.heap.size w (W1.alloc (.cells #[] 4)) := b1.alloc b1.size _
      have oB : (W1.alloc (.cells #[] 4)).ownsRow W1.heap.size 4 1 (.slice (some ⟨W1.heap.size, 0, none⟩) 0 0) 0 [] := own0 W1 4
      have sz2 : Hid ((W1.alloc (.cells #[] 4)).heap.size = W1.heap.size + 1) := by
        show _ = _
        simp
      have oA := owns_below oA ((Below.refl _ W1).alloc (Nat.le_refl _) (.cells #[] 4))
      refine hK.out _ _ ⟨cell_on b2 c0, cell_on b2 c1⟩ (fun hHeld => ?_)
      clear hK K
      try simp only [Act.put, List.setIfInBounds_toArray, List.set_cons_zero, List.set_cons_succ]
      generalize (W1.alloc (.cells #[] 4)) = W2 at *
      obtain ⟨gB, hgB⟩ : ∃ g, Hid (W1.heap.size = g) := ⟨_, rfl⟩
      rw [hgB.out] at oB
      rw [hgB.out]
      refine anyH_one (i := 5) (by kernel_rfl) rfl (fun K hK => ?_)
      refine step_ownG Tryd.underlying78 info3i rfl (by decide) rfl (.tmp 3) (.tmp 7) rfl gA 0 _ [] rfl oA _ _ _ _ rfl (HA _ b2) hal (int_one _) hmx (by omega) (by have := sz0.out; have := sz1.out; have := sz2.out; have := hgA.out; omega) ?_
      intro vA W3 pA grA obA
      rw [List.nil_append, Nat.zero_add] at pA
      have sz3 : Hid (W2.heap.size ≤ W3.heap.size) := grA.size
      have b3 : Below w.heap.size w W3 := b2.grown grA b2.size (fun x e => by have e3 : gA = x := Option.some.inj e; have := sz0.out; have := sz1.out; have := sz2.out; have := hgA.out; have := b0.size; omega)
      have oB := ownsRow_put oB (fun x e => grA.block x (World.ownsRow.lt oB x e).2 (fun e2 => by have e3 : gB = x := Option.some.inj e; have e4 : x = gA := Option.some.inj e2; have := sz0.out; have := sz1.out; have := sz2.out; have := hgA.out; have := hgB.out; omega))
      obtain ⟨qA, capA, eA, loA, rA⟩ := own_row pA hn1
      subst eA
      have qAlt : Hid (qA < W3.heap.size ∧ (qA = gA ∨ qA = W2.heap.size)) := ⟨rA.lt, by rcases obA with e | e <;> (cases e; simp)⟩
      clear pA obA grA oA
      refine hK.out _ _ ⟨cell_on b3 c0, cell_on b3 c1⟩ (fun hHeld => ?_)
      clear hK K
      try simp only [Act.put, List.setIfInBounds_toArray]
      refine anyH_one (i := 11) (by kernel_rfl) rfl (fun K hK => ?_)
      refine step_ownG Tryd.underlying96 info4 rfl (by decide) rfl (.tmp 9) (.tmp 13) rfl gB 0 _ [] rfl oB _ _ _ _ rfl (HT _ b3) htl (bool_one _) hmx (by omega) (by have := sz0.out; have := sz1.out; have := sz2.out; have := sz3.out; have := hgB.out; omega) ?_
      intro vB W4 pB grB obB
      rw [List.nil_append, Nat.zero_add] at pB
      have sz4 : Hid (W3.heap.size ≤ W4.heap.size) := grB.size
      have b4 : Below w.heap.size w W4 := b3.grown grB b3.size (fun x e => by have e3 : gB = x := Option.some.inj e; have := sz0.out; have := sz1.out; have := sz2.out; have := sz3.out; have := hgB.out; have := b0.size; omega)
      have rA := rA.put (grB.block _ rA.lt (fun e2 => by have e3 : qA = gB := Option.some.inj e2; have := sz0.out; have := sz1.out; have := sz2.out; have := sz3.out; have := hgA.out; have := hgB.out; have := qAlt.out; omega))
      obtain ⟨qB, capB, eB, loB, rB⟩ := own_row pB hn1
      subst eB
      have qBlt : Hid (qB < W4.heap.size ∧ (qB = gB ∨ qB = W3.heap.size)) := ⟨rB.lt, by rcases obB with e | e <;> (cases e; simp)⟩
      clear pB obB grB oB
      refine hK.out _ _ ⟨cell_on b4 c0, cell_on b4 c1⟩ (fun hHeld => ?_)
      clear hK K
      try simp only [Act.put]
      have hne : qA ≠ qB := by
        have h1 := qAlt.out
        have h2 := qBlt.out
        have := hgA.out
        have := hgB.out
        have := sz0.out; have := sz1.out; have := sz2.out; have := sz3.out; have := sz4.out; omega
      have hRS := HRS W4 qA qB capA capB rA rB hne
      have bF : Below w.heap.size w (W4.alloc (.cells #[.slice (some ⟨qA, 0, none⟩) n capA, .slice (some ⟨qB, 0, none⟩) n capB] 98)) := b4.alloc b4.size _
      have lW : w.heap.size ≤ W4.heap.size := b4.size
      have lqA : w.heap.size ≤ qA := by have := sz0.out; have := sz1.out; have := sz2.out; have := sz3.out; have := sz4.out; have := hgA.out; have := b0.size; omega
      have lqB : w.heap.size ≤ qB := by have := sz0.out; have := sz1.out; have := sz2.out; have := sz3.out; have := sz4.out; have := hgB.out; have := b0.size; omega
      clear hgA hgB qAlt qBlt rA rB
      refine anyH_take (i := 12) (v := ?_) (some 15) rfl rfl (by kernel_rfl) (fun _ _ _ h => h) (Or.inl ⟨by rfl, ?_⟩) (by assumption) ?_
      rotate_left
      · (intro w hSw; obtain ⟨z0, z1⟩ := hSw; go_simp; all_goals with_reducible rfl)
      try simp only [Act.put]
      refine anyH_one (i := 13) (by kernel_rfl) rfl (fun K hK => ?_)
      go_simp
      refine hK.out _ _ ⟨cell_on bF c0, cell_on bF c1⟩ (fun hHeld => ?_)
      clear hK K
      try simp only [Act.put, List.setIfInBounds_toArray, List.set_cons_zero, List.set_cons_succ]
      refine anyH_one (i := 14) (by kernel_rfl) rfl (fun K hK => ?_)
      go_simp
      refine hK.out _ _ ⟨cell_on bF c0, cell_on bF c1⟩ (fun hHeld => ?_)
      clear hK K
      try simp only [Act.put, List.setIfInBounds_toArray, List.set_cons_zero, List.set_cons_succ]
      refine wpAnyH_done (by kernel_rfl) ?_ _
      go_wp2_with fail
      go_ret
      exact ⟨_, _, _, rfl, hRS, bF, lW, lqA, lqB⟩
  · go_simp
    have b1 : Below w.heap.size w (W0.alloc (.cells #[] 4)) := b0.alloc b0.size _
    have oB : (W0.alloc (.cells #[] 4)).ownsRow W0.heap.size 4 1 (.slice (some ⟨W0.heap.size, 0, none⟩) 0 0) 0 [] := own0 W0 4
    have sz1 : Hid ((W0.alloc (.cells #[] 4)).heap.size = W0.heap.size + 1) := by
      show _ = _
      simp
    refine hK.out _ _ ⟨cell_on b1 c0, cell_on b1 c1⟩ (fun hHeld => ?_)
    clear hK K
    try simp only [Act.put, List.setIfInBounds_toArray, List.set_cons_zero, List.set_cons_succ]
    generalize (W0.alloc (.cells #[] 4)) = W1 at *
    obtain ⟨gB, hgB⟩ : ∃ g, Hid (W0.heap.size = g) := ⟨_, rfl⟩
    rw [hgB.out] at oB
    rw [hgB.out]
    refine anyH_one (i := 0) (by kernel_rfl) rfl (fun K hK => ?_)
    go_simp
    have b2 : Below w.heap.size w (W1.alloc (.cells #[] 3)) := b1.alloc b1.size _
    have oA : (W1.alloc (.cells #[] 3)).ownsRow W1.heap.size 3 1 (.slice (some ⟨W1.heap.size, 0, none⟩) 0 0) 0 [] := own0 W1 3
    have sz2 : Hid ((W1.alloc (.cells #[] 3)).heap.size = W1.heap.size + 1) := by
      show _ = _
      simp
    have oB := owns_below oB ((Below.refl _ W1).alloc (Nat.le_refl _) (.cells #[] 3))
    refine hK.out _ _ ⟨cell_on b2 c0, cell_on b2 c1⟩ (fun hHeld => ?_)
    clear hK K
    try simp only [Act.put, List.setIfInBounds_toArray, List.set_cons_zero, List.set_cons_succ]
    generalize (W1.alloc (.cells #[] 3)) = W2 at *
    obtain ⟨gA, hgA⟩ : ∃ g, Hid (W1.heap.size = g) := ⟨_, rfl⟩
    rw [hgA.out] at oA
    rw [hgA.out]
    refine anyH_one (i := 5) (by kernel_rfl) rfl (fun K hK => ?_)
    refine step_ownG Tryd.underlying78 info3i rfl (by decide) rfl (.tmp 3) (.tmp 7) rfl gA 0 _ [] rfl oA _ _ _ _ rfl (HA _ b2) hal (int_one _) hmx (by omega) (by have := sz0.out; have := sz1.out; have := sz2.out; have := hgA.out; omega) ?_
    intro vA W3 pA grA obA
    rw [List.nil_append, Nat.zero_add] at pA
    have sz3 : Hid (W2.heap.size ≤ W3.heap.size) := grA.size
    have b3 : Below w.heap.size w W3 := b2.grown grA b2.size (fun x e => by have e3 : gA = x := Option.some.inj e; have := sz0.out; have := sz1.out; have := sz2.out; have := hgA.out; have := b0.size; omega)
    have oB := ownsRow_put oB (fun x e => grA.block x (World.ownsRow.lt oB x e).2 (fun e2 => by have e3 : gB = x := Option.some.inj e; have e4 : x = gA := Option.some.inj e2; have := sz0.out; have := sz1.out; have := sz2.out; have := hgA.out; have := hgB.out; omega))
    obtain ⟨qA, capA, eA, loA, rA⟩ := own_row pA hn1
    subst eA
    have qAlt : Hid (qA < W3.heap.size ∧ (qA = gA ∨ qA = W2.heap.size)) := ⟨rA.lt, by rcases obA with e | e <;> (cases e; simp)⟩
    clear pA obA grA oA
    refine hK.out _ _ ⟨cell_on b3 c0, cell_on b3 c1⟩ (fun hHeld => ?_)
    clear hK K
    try simp only [Act.put, List.setIfInBounds_toArray]
    refine anyH_one (i := 11) (by kernel_rfl) rfl (fun K hK => ?_)
    refine step_ownG Tryd.underlying96 info4 rfl (by decide) rfl (.tmp 9) (.tmp 13) rfl gB 0 _ [] rfl oB _ _ _ _ rfl (HT _ b3) htl (bool_one _) hmx (by omega) (by have := sz0.out; have := sz1.out; have := sz2.out; have := sz3.out; have := hgB.out; omega) ?_
    intro vB W4 pB grB obB
    rw [List.nil_append, Nat.zero_add] at pB
    have sz4 : Hid (W3.heap.size ≤ W4.heap.size) := grB.size
    have b4 : Below w.heap.size w W4 := b3.grown grB b3.size (fun x e => by have e3 : gB = x := Option.some.inj e; have := sz0.out; have := sz1.out; have := sz2.out; have := sz3.out; have := hgB.out; have := b0.size; omega)
    have rA := rA.put (grB.block _ rA.lt (fun e2 => by have e3 : qA = gB := Option.some.inj e2; have := sz0.out; have := sz1.out; have := sz2.out; have := sz3.out; have := hgA.out; have := hgB.out; have := qAlt.out; omega))
    obtain ⟨qB, capB, eB, loB, rB⟩ := own_row pB hn1
    subst eB
    have qBlt : Hid (qB < W4.heap.size ∧ (qB = gB ∨ qB = W3.heap.size)) := ⟨rB.lt, by rcases obB with e | e <;> (cases e; simp)⟩
    clear pB obB grB oB
    refine hK.out _ _ ⟨cell_on b4 c0, cell_on b4 c1⟩ (fun hHeld => ?_)
    clear hK K
    try simp only [Act.put]
    have hne : qA ≠ qB := by
      have h1 := qAlt.out
      have h2 := qBlt.out
      have := hgA.out
      have := hgB.out
      have := sz0.out; have := sz1.out; have := sz2.out; have := sz3.out; have := sz4.out; omega
    have hRS := HRS W4 qA qB capA capB rA rB hne
    have bF : Below w.heap.size w (W4.alloc (.cells #[.slice (some ⟨qA, 0, none⟩) n capA, .slice (some ⟨qB, 0, none⟩) n capB] 98)) := b4.alloc b4.size _
    have lW : w.heap.size ≤ W4.heap.size := b4.size
    have lqA : w.heap.size ≤ qA := by have := sz0.out; have := sz1.out; have := sz2.out; have := sz3.out; have := sz4.out; have := hgA.out; have := b0.size; omega
    have lqB : w.heap.size ≤ qB := by have := sz0.out; have := sz1.out; have := sz2.out; have := sz3.out; have := sz4.out; have := hgB.out; have := b0.size; omega
    clear hgA hgB qAlt qBlt rA rB
    refine anyH_take (i := 12) (v := ?_) (some 15) rfl rfl (by kernel_rfl) (fun _ _ _ h => h) (Or.inl ⟨by rfl, ?_⟩) (by assumption) ?_
    rotate_left
    · (intro w hSw; obtain ⟨z0, z1⟩ := hSw; go_simp; all_goals with_reducible rfl)
    try simp only [Act.put]
    refine anyH_one (i := 13) (by kernel_rfl) rfl (fun K hK => ?_)
    go_simp
    refine hK.out _ _ ⟨cell_on bF c0, cell_on bF c1⟩ (fun hHeld => ?_)
    clear hK K
    try simp only [Act.put, List.setIfInBounds_toArray, List.set_cons_zero, List.set_cons_succ]
    refine anyH_one (i := 14) (by kernel_rfl) rfl (fun K hK => ?_)
    go_simp
    refine hK.out _ _ ⟨cell_on bF c0, cell_on bF c1⟩ (fun hHeld => ?_)
    clear hK K
    try simp only [Act.put, List.setIfInBounds_toArray, List.set_cons_zero, List.set_cons_succ]
    refine wpAnyH_done (by kernel_rfl) ?_ _
    go_wp2_with fail
    go_ret
    exact ⟨_, _, _, rfl, hRS, bF, lW, lqA, lqB⟩
end
end Go.Proofs.YtjgclehghnmhnaaDoor
namespace Go.Proofs.YtjgclehghnmhnaaDoor
open Go Go.RowKit

theorem step_appA {t ts : TypeId} (hT : Ty t ts) {w : World} {ops : Array Oper} {o : Oper} {a : Act} {K : Act → World → Prop} {Q : Exit → Act → World → Prop} {E : Prop} (hg : o.guard = none) (s x : Operand) (hop : o.op = Op.call { callee := Callee.builtin Builtin.append, args := #[s, x], argTypes := #[ts, ts] })
    (B : Nat) (v : Value) (xs : List Ac) (hs : a.eval s = v) (hown : OwA t w B v xs) (sp : Option Addr) (m c : Nat) (news : List Ac) (hx : a.eval x = .slice sp m c) (hl : news.length = m) (hr : AV w sp news)
    (hk : xs.length + m ≤ 100000) (hb : B ≤ w.heap.size)
    (hK : ∀ v' w', OwA t w' B v' (xs ++ news) → w.grownBy w' v.ownBlock → (v'.ownBlock = v.ownBlock ∨ v'.ownBlock = some w.heap.size) → K (a.put o.dst v') w') :
    if Region.wanted o (yielded ops a.tmps) = true then Oper.wp Tryd.prog o a w K Q else E := by
  have hw : Region.wanted o (yielded ops a.tmps) = true := by simp [Region.wanted, hg]
  rw [if_pos hw]
  obtain ⟨v', w', hrun, r1, r2, r3⟩ := run_ownA hT (ty := o.type) (c := c) hown hl hr hk hb
  unfold Oper.wp execOp
  simp only [hop, resolve, invoke, builtin, Sem.run_bind, Sem.run_pure, Result.andThen_ok, List.map_toArray, List.map_cons, List.map_nil, hs, hx, hrun]
  exact hK v' w' r1 r2 r3
/-- A table made of its parts. -/
theorem rm_made {W : World} {S A K N : Nat} {v : Value} {σ : Sta} (hs : RS W S A K N σ.ag σ.tk) (h : OwA 47 W 0 v σ.xs) (ne : ∀ g, v.ownBlock = some g → g ≠ S ∧ g ≠ A ∧ g ≠ K) (len : σ.xs.length ≤ 4096) (srt : Srt σ.xs) :
    RM (W.alloc (.cells #[.pointer (some ⟨S, 0, none⟩), v] 41)) W.heap.size S A K N v σ := by
  have hb : Below W.heap.size W (W.alloc (.cells #[.pointer (some ⟨S, 0, none⟩), v] 41)) := (Below.refl _ _).alloc (Nat.le_refl _) _
  refine ⟨Cel.new W _ _, hs.keep (.of_below hb), h.below hb, ?_, len, srt⟩
  have h1 := hs.ltM
  have h2 := hs.a.lt
  have h3 := hs.t.lt
  have h4 := hs.ma
  have h5 := hs.mt
  have h6 := hs.at'
  unfold bR
  simp only [List.nodup_cons, List.mem_cons, not_or, Option.mem_toList]
  refine ⟨⟨by omega, by omega, by omega, fun e => ?_⟩, ⟨h4, h5, fun e => (ne S e).1 rfl⟩, ⟨h6, fun e => (ne A e).2.1 rfl⟩, fun e => (ne K e).2.2 rfl, ?_⟩
  · have := (h.lt e).2
    omega
  · cases v.ownBlock <;> simp
theorem new_step {w W : World} {R : List Nat} (hb : Below w.heap.size w W) (h : ∀ x ∈ R, w.heap.size ≤ x) : Step [] w R W := ⟨.of_below hb, fun x hx => .inr (h x hx)⟩
theorem rtnew_none (m : Int) (hm : m < 1 ∨ 4096 < m) (w : World) : Calls Tryd.prog 10 #[.int .i64 m] w fun e w' => e = .returned (.pointer none) ∧ w' = w := by
  have hR := rnew_none m hm w
  go_enter Tryd.func10, Tryd.ntmps10
  go_wp2_with (go_at_call 30; (with_reducible refine hR.mono ?_); rintro e w1 ⟨rfl, rfl⟩)
  go_ret
  exact ⟨rfl, rfl⟩
theorem rtnew_some (n : Nat) (h1 : 1 ≤ n) (h2 : n ≤ 4096) (w : World) :
    Calls Tryd.prog 10 #[.int .i64 n] w fun e w' => ∃ M R, e = .returned (.pointer (some ⟨M, 0, none⟩)) ∧ RQ w' M R n ⟨List.replicate n 0, List.replicate n false, []⟩ ∧ Step [] w R w' := by
  have hR := rnew_some n h1 h2 w
  go_enter Tryd.func10, Tryd.ntmps10
  go_wp2_with (go_at_call 30; (with_reducible refine hR.mono ?_); rintro e w1 ⟨S, A, K, rfl, hs, l1, l2, l3, b1⟩)
  go_ret
  have hm := rm_made (σ := ⟨List.replicate n 0, List.replicate n false, []⟩) hs (OwA.nil w1 0) (fun g e => by cases e) (by simp) (by simp [Srt])
  exact ⟨_, _, rfl, ⟨S, A, K, _, rfl, hm⟩, new_step (b1.alloc b1.size _) (fun x hx => by
    have := b1.size
    rcases bR_out hx with rfl | rfl | rfl | rfl | e
    · omega
    · omega
    · omega
    · omega
    · cases e)⟩
section
variable {w : World} {M N : Nat} {R : List Nat} {σ : Sta}
theorem cntA_cons (x : Ac) (r : List Ac) (p q : Int) : cntA (x :: r) p q = (if (x.sp == p && x.st == q) = true then 1 else 0) + cntA r p q := by
  unfold cntA
  rw [List.filter_cons]
  split
  · rw [List.length_cons]; omega
  · omega
set_option maxHeartbeats 2000000 in
set_option maxRecDepth 100000 in
theorem rcount_any (h : RQ w M R N σ) (p q : Int) :
    Calls Tryd.prog 16 #[.pointer (some ⟨M, 0, none⟩), .int .i64 p, .int .i64 q] w fun e w' => e = .returned (.int .i64 (cntA σ.xs p q)) ∧ Below w.heap.size w w' := by
  obtain ⟨S, A, K, v, rfl, hm⟩ := h
  have hl := hm.len
  obtain ⟨sl, c, rfl, he⟩ := hm.shape
  have c1 := hm.c1
  obtain ⟨n, hN⟩ : ∃ n, Hid (σ.xs.length = n) := ⟨_, rfl⟩
  obtain ⟨kN, hkN⟩ : ∃ k, Hid (cntA σ.xs p q = k) := ⟨_, rfl⟩
  have hkl : kN ≤ 4096 := by
    rw [← hkN.out]
    exact Nat.le_trans (List.length_filter_le _ _) hl
  rw [hkN.out]
  have hn' : n ≤ 4096 := by rw [← hN.out]; exact hl
  rw [hN.out] at c1
  clear hl hm
  go_enter Tryd.func16, Tryd.ntmps16
  go_upto_region 3 with fail
  go_loopw [7, 15, 9] (fun cc v _ wr => ∃ j k : Nat, j ≤ n ∧ v = .int .i64 j ∧ cc = .int .i64 k ∧ k + cntA (σ.xs.drop j) p q = kN ∧ Below w.heap.size w wr) (fun _ v _ _ => 4096 - (intOf v).toNat)
  case atStart => exact ⟨0, 0, Nat.zero_le _, rfl, rfl, by rw [← hkN.out]; simp, Below.refl _ _⟩
  case round =>
    obtain ⟨j, k, hj, rfl, rfl, hk, hb⟩ := hrel
    have HK := Hid.mk hk
    clear hk
    by_cases hlt : j < n
    · have hjx : j < σ.xs.length := by rw [hN.out]; exact hlt
      have hk := HK.out
      rw [ac_drop hjx, cntA_cons] at hk
      obtain ⟨b, o, rfl, hc⟩ := he.below hb j hjx
      have hlt' : (j : Int) < (n : Int) := by omega
      have hxr : wr.rangeAt b (o + j * 16) (c16 (ac σ.xs j)) := hc
      have hz0 := Cel.new wr (acA zA) 47
      have hth := hz0.there
      have hcx : Cel ((wr.alloc (.cells (acA zA) 47)).setCells wr.heap.size 0 (c16 (ac σ.xs j))) wr.heap.size (acA (ac σ.xs j)) 47 := hz0.ac _
      have B1 : Below w.heap.size w ((wr.alloc (.cells (acA zA) 47)).setCells wr.heap.size 0 (c16 (ac σ.xs j))) := (hb.alloc hb.size (.cells (acA zA) 47)).trans ((But.setCells _ 0 _).below (by have := hb.size; simp; omega) (by simpa using hb.size))
      clear hc hz0 hjx
      generalize ac σ.xs j = x at *
      rw [zA_A] at *
      go_upto_region 4 with fail
      refine wp_region_lit ?_
      iterate 3 go_step
      refine wpList_load_mid rfl 47 (.tmp 17) rfl b (o + j * 16) rfl (c16 x) _ hxr Tryd.underlying47 rfl size16R ?_
      iterate 3 go_step
      refine wpList_store_mid rfl 47 (.tmp 9) (.tmp 18) rfl wr.heap.size 0 (c16 x).toArray rfl rfl hth size16R (c16_one _) ?_
      rw [show (c16 x).toArray.toList = c16 x from rfl]
      generalize (World.setCells _ wr.heap.size 0 (c16 x)) = w1 at *
      generalize wr.heap.size = X at *
      generalize (Value.agg (c16 x).toArray) = gx at *
      have n1 : w1.cell? ⟨X, 1, none⟩ = some (.int .i64 x.st) := hcx.cell (j := 1) rfl
      have n2 : w1.cell? ⟨X, 2, none⟩ = some (.int .i64 x.sp) := hcx.cell (j := 2) rfl
      clear hcx hth hxr hb
      by_cases hq : (x.sp == p && x.st == q) = true
      · have h2 : (x.sp == p) = true := by simp at hq; simpa using hq.1
        have h3 : (x.st == q) = true := by simp at hq; simpa using hq.2
        rw [if_pos hq] at hk
        have HK1 : Hid ((k + 1) + cntA (σ.xs.drop (j + 1)) p q = kN) := by
          show _ = _
          omega
        have hkk : k + 1 ≤ 4096 := by have := HK1.out; omega
        have hw1 : IntKind.i64.wrap ((k : Int) + 1) = ((k + 1 : Nat) : Int) := by rw [IntKind.wrap_i64]; omega
        clear hk hq
        go_wp2_with fail
        go_roundw
        case rel => exact ⟨j + 1, k + 1, by omega, by simp, by simp, HK1.out, B1⟩
        case measure =>
          simp [intOf]
          omega
      · rw [if_neg hq] at hk
        have HK1 : Hid (k + cntA (σ.xs.drop (j + 1)) p q = kN) := by
          show _ = _
          omega
        by_cases h2 : (x.sp == p) = true
        · have h3 : (x.st == q) = false := by
            rw [h2, Bool.true_and] at hq
            simpa using hq
          clear hk hq
          go_wp2_with fail
          go_roundw
          case rel => exact ⟨j + 1, k, by omega, by simp, rfl, HK1.out, B1⟩
          case measure =>
            simp [intOf]
            omega
        · have h2' : (x.sp == p) = false := by simpa using h2
          clear hk hq h2
          go_wp2_with fail
          go_roundw
          case rel => exact ⟨j + 1, k, by omega, by simp, rfl, HK1.out, B1⟩
          case measure =>
            simp [intOf]
            omega
    · obtain rfl : j = n := by omega
      have hk := HK.out
      rw [List.drop_eq_nil_of_le (by rw [hN.out]; exact Nat.le_refl _)] at hk
      have HK1 : Hid (k = kN) := hk
      clear hk HK
      go_wp2_with fail
      go_ret
      exact ⟨by rw [← HK1.out]; rfl, hb⟩
set_option maxHeartbeats 4000000 in
set_option maxRecDepth 100000 in
theorem rtcopy_any (h : RQ w M R N σ) (hn1 : 1 ≤ N) :
    Calls Tryd.prog 27 #[.pointer (some ⟨M, 0, none⟩)] w fun e w' => ∃ M2 R2, e = .returned (.pointer (some ⟨M2, 0, none⟩)) ∧ RQ w' M2 R2 N σ ∧ Step [] w R2 w' := by
  obtain ⟨S, A, K, v, rfl, hm⟩ := h
  have hl := hm.len
  have HS := Hid.mk hm.srt
  have HCP : ∀ W, Below w.heap.size w W → Calls Tryd.prog 56 #[.pointer (some ⟨S, 0, none⟩)] W fun e w' => ∃ M2 A2 T2, e = .returned (.pointer (some ⟨M2, 0, none⟩)) ∧ RS w' M2 A2 T2 N σ.ag σ.tk ∧ Below W.heap.size W w' ∧ W.heap.size ≤ M2 ∧ W.heap.size ≤ A2 ∧ W.heap.size ≤ T2 := fun W b => r4copy_any (hm.below b).s hn1
  obtain ⟨sl, c, rfl, he⟩ := hm.shape
  have c0 := hm.c0
  have c1 := hm.c1
  clear hm
  go_enter Tryd.func27, Tryd.ntmps27
  go_upto_region 1 with fail
  have b0 : Below w.heap.size w w.drew := below_drew w
  refine wp_region_held_drew (S := (fun w' : World => w'.cell? ⟨M, 0, none⟩ = some (.pointer (some ⟨S, 0, none⟩)) ∧ w'.cell? ⟨M, 1, none⟩ = some (.slice sl σ.xs.length c))) (by kernel_rfl) ⟨cell_on b0 c0, cell_on b0 c1⟩ (fun hHeld => ?_)
  generalize w.drew = W0 at *
  refine anyH_take (i := 0) (v := ?_) (some 3) rfl rfl (by kernel_rfl) (fun _ _ _ h => h) (Or.inl ⟨by rfl, ?_⟩) (by assumption) ?_
  rotate_left
  · (intro w hSw; obtain ⟨z0, z1⟩ := hSw; go_simp; all_goals with_reducible rfl)
  try simp only [Act.put, List.setIfInBounds_toArray, List.set_cons_zero, List.set_cons_succ]
  refine anyH_take (i := 1) (v := ?_) (some 4) rfl rfl (by kernel_rfl) (fun _ _ _ h => h) (Or.inl ⟨by rfl, ?_⟩) (by assumption) ?_
  rotate_left
  · (intro w hSw; obtain ⟨z0, z1⟩ := hSw; go_simp; all_goals with_reducible rfl)
  try simp only [Act.put, List.setIfInBounds_toArray, List.set_cons_zero, List.set_cons_succ]
  refine anyH_take (i := 2) (v := ?_) (some 5) rfl rfl (by kernel_rfl) (fun _ _ _ h => h) (Or.inl ⟨by rfl, ?_⟩) (by assumption) ?_
  rotate_left
  · (intro w hSw; obtain ⟨z0, z1⟩ := hSw; go_simp; all_goals with_reducible rfl)
  try simp only [Act.put, List.setIfInBounds_toArray, List.set_cons_zero, List.set_cons_succ]
  refine anyH_take (i := 3) (v := ?_) (some 6) rfl rfl (by kernel_rfl) (fun _ _ _ h => h) (Or.inl ⟨by rfl, ?_⟩) (by assumption) ?_
  rotate_left
  · (intro w hSw; obtain ⟨z0, z1⟩ := hSw; go_simp; all_goals with_reducible rfl)
  try simp only [Act.put, List.setIfInBounds_toArray, List.set_cons_zero, List.set_cons_succ]
  refine anyH_take (i := 6) (v := ?_) (some 9) rfl rfl (by kernel_rfl) (fun _ _ _ h => h) (Or.inl ⟨by rfl, ?_⟩) (by assumption) ?_
  rotate_left
  · (intro w hSw; obtain ⟨z0, z1⟩ := hSw; go_simp; all_goals with_reducible rfl)
  try simp only [Act.put, List.setIfInBounds_toArray, List.set_cons_zero, List.set_cons_succ]
  refine anyH_take (i := 7) (v := ?_) (some 10) rfl rfl (by kernel_rfl) (fun _ _ _ h => h) (Or.inl ⟨by rfl, ?_⟩) (by assumption) ?_
  rotate_left
  · (intro w hSw; obtain ⟨z0, z1⟩ := hSw; go_simp; all_goals with_reducible rfl)
  try simp only [Act.put, List.setIfInBounds_toArray, List.set_cons_zero, List.set_cons_succ]
  refine anyH_take (i := 8) (v := ?_) (some 11) rfl rfl (by kernel_rfl) (fun _ _ _ h => h) (Or.inl ⟨by rfl, ?_⟩) (by assumption) ?_
  rotate_left
  · (intro w hSw; obtain ⟨z0, z1⟩ := hSw; go_simp; all_goals with_reducible rfl)
  try simp only [Act.put, List.setIfInBounds_toArray, List.set_cons_zero, List.set_cons_succ]
  refine anyH_take (i := 9) (v := ?_) (some 12) rfl rfl (by kernel_rfl) (fun _ _ _ h => h) (Or.inl ⟨by rfl, ?_⟩) (by assumption) ?_
  rotate_left
  · (intro w hSw; obtain ⟨z0, z1⟩ := hSw; go_simp; all_goals with_reducible rfl)
  try simp only [Act.put, List.setIfInBounds_toArray, List.set_cons_zero, List.set_cons_succ]
  refine anyH_two (i := 4) (j := 5) (by kernel_rfl) rfl rfl (fun K hK => ?_) (fun K hK => ?_)
  · go_simp
    go_at_call 56
    (with_reducible refine (HCP W0 b0).mono ?_)
    rintro e W1 ⟨S2, A2, T2, rfl, hs, bc, l1, l2, l3⟩
    have b1 : Below w.heap.size w W1 := below2 b0 b0.size bc
    refine hK.out _ _ ⟨cell_on b1 c0, cell_on b1 c1⟩ (fun hHeld => ?_)
    clear hK K
    try simp only [Act.put, List.setIfInBounds_toArray, List.set_cons_zero, List.set_cons_succ]
    refine anyH_one (i := 5) (by kernel_rfl) rfl (fun K hK => ?_)
    go_simp
    have ba : Below W1.heap.size W1 (W1.alloc (.cells #[] 47)) := (Below.refl _ _).alloc (Nat.le_refl _) _
    have b2 : Below w.heap.size w (W1.alloc (.cells #[] 47)) := below2 b1 b1.size ba
    have oA := owA_none 47 W1
    have lG : S2 < W1.heap.size ∧ A2 < W1.heap.size ∧ T2 < W1.heap.size := ⟨hs.ltM, hs.a.lt, hs.t.lt⟩
    have hs := hs.keep (.of_below ba)
    obtain ⟨gA, hgA⟩ : ∃ g, Hid (W1.heap.size = g) := ⟨_, rfl⟩
    have sA : Hid ((W1.alloc (.cells #[] 47)).heap.size = gA + 1) := by
      show _ = _
      rw [← hgA.out]
      simp
    refine hK.out _ _ ⟨cell_on b2 c0, cell_on b2 c1⟩ (fun hHeld => ?_)
    clear hK K ba
    try simp only [Act.put, List.setIfInBounds_toArray, List.set_cons_zero, List.set_cons_succ]
    generalize (W1.alloc (.cells #[] 47)) = W2 at *
    rw [hgA.out] at oA ⊢
    refine anyH_one (i := 10) (by kernel_rfl) rfl (fun K hK => ?_)
    refine step_appA tyR rfl (.tmp 8) (.tmp 12) rfl gA _ [] rfl oA _ _ _ σ.xs rfl rfl (he.below b2) (by simp; omega) (by have := sA.out; have := lG; omega) ?_
    intro vA W3 pA grA obA
    rw [List.nil_append] at pA
    have hne : ∀ g, vA.ownBlock = some g → g ≠ S2 ∧ g ≠ A2 ∧ g ≠ T2 := fun g e => by
      have x1 := hs.ltM
      have x2 := hs.a.lt
      have x3 := hs.t.lt
      have x4 := sA.out
      have x5 := hgA.out
      rcases obA with e2 | e2
      · rw [e2] at e
        have e3 : gA = g := Option.some.inj e
        omega
      · rw [e2] at e
        have e3 : W2.heap.size = g := Option.some.inj e
        omega
    have hs3 : RS W3 S2 A2 T2 N σ.ag σ.tk := by
      have x1 := hs.ltM
      have x2 := hs.a.lt
      have x3 := hs.t.lt
      have x4 := sA.out
      have x5 := hgA.out
      exact hs.put (grA.block _ x1 (fun e2 => by have e3 : S2 = gA := Option.some.inj e2; omega)) (grA.block _ x2 (fun e2 => by have e3 : A2 = gA := Option.some.inj e2; omega)) (grA.block _ x3 (fun e2 => by have e3 : T2 = gA := Option.some.inj e2; omega))
    have b3 : Below w.heap.size w W3 := b2.grown grA b2.size (fun x e => by have e3 : gA = x := Option.some.inj e; have := hgA.out; have := b0.size; have := b1.size; omega)
    have hmF := rm_made hs3 (pA.lower (Nat.zero_le _)) hne hl HS.out
    have lA : ∀ g, vA.ownBlock = some g → w.heap.size ≤ g := fun g e => by
      have := (pA.lt e).1
      have := hgA.out
      have := b0.size
      have := b1.size
      omega
    obtain ⟨va, vc, eA, -⟩ := pA.sl
    obtain ⟨m, hm⟩ : ∃ m, Hid (σ.xs.length = m) := ⟨_, rfl⟩
    rw [hm.out] at eA
    subst eA
    have bF : Below w.heap.size w (W3.alloc (.cells #[.pointer (some ⟨S2, 0, none⟩), .slice va m vc] 41)) := b3.alloc b3.size _
    have l1' : w.heap.size ≤ S2 := Nat.le_trans b0.size l1
    have l2' : w.heap.size ≤ A2 := Nat.le_trans b0.size l2
    have l3' : w.heap.size ≤ T2 := Nat.le_trans b0.size l3
    clear hne hs3 hs pA obA grA oA sA hgA lG
    refine hK.out _ _ ⟨cell_on b3 c0, cell_on b3 c1⟩ (fun hHeld => ?_)
    clear hK K
    try simp only [Act.put, List.setIfInBounds_toArray]
    refine anyH_take (i := 11) (v := ?_) (some 14) rfl rfl (by kernel_rfl) (fun _ _ _ h => h) (Or.inl ⟨by rfl, ?_⟩) (by assumption) ?_
    rotate_left
    · (intro w hSw; obtain ⟨z0, z1⟩ := hSw; go_simp; all_goals with_reducible rfl)
    try simp only [Act.put]
    refine anyH_one (i := 12) (by kernel_rfl) rfl (fun K hK => ?_)
    go_simp
    refine hK.out _ _ ⟨cell_on bF c0, cell_on bF c1⟩ (fun hHeld => ?_)
    clear hK K
    try simp only [Act.put, List.setIfInBounds_toArray, List.set_cons_zero, List.set_cons_succ]
    refine anyH_one (i := 13) (by kernel_rfl) rfl (fun K hK => ?_)
    go_simp
    refine hK.out _ _ ⟨cell_on bF c0, cell_on bF c1⟩ (fun hHeld => ?_)
    clear hK K
    try simp only [Act.put]
    refine wpAnyH_done (by kernel_rfl) ?_ _
    go_wp2_with fail
    go_ret
    exact ⟨_, _, rfl, ⟨_, _, _, _, rfl, hmF⟩, new_step bF (fun x hx => by
      rcases bR_out hx with rfl | rfl | rfl | rfl | e
      · exact b3.size
      · exact l1'
      · exact l2'
      · exact l3'
      · exact lA x e)⟩
  · go_simp
    have ba : Below W0.heap.size W0 (W0.alloc (.cells #[] 47)) := (Below.refl _ _).alloc (Nat.le_refl _) _
    have b1 : Below w.heap.size w (W0.alloc (.cells #[] 47)) := below2 b0 b0.size ba
    have oA := owA_none 47 W0
    obtain ⟨gA, hgA⟩ : ∃ g, Hid (W0.heap.size = g) := ⟨_, rfl⟩
    have sA : Hid ((W0.alloc (.cells #[] 47)).heap.size = gA + 1) := by
      show _ = _
      rw [← hgA.out]
      simp
    refine hK.out _ _ ⟨cell_on b1 c0, cell_on b1 c1⟩ (fun hHeld => ?_)
    clear hK K ba
    try simp only [Act.put, List.setIfInBounds_toArray, List.set_cons_zero, List.set_cons_succ]
    generalize (W0.alloc (.cells #[] 47)) = W1 at *
    rw [hgA.out] at oA ⊢
    refine anyH_one (i := 4) (by kernel_rfl) rfl (fun K hK => ?_)
    go_simp
    go_at_call 56
    (with_reducible refine (HCP W1 b1).mono ?_)
    rintro e W2 ⟨S2, A2, T2, rfl, hs, bc, l1, l2, l3⟩
    have b2 : Below w.heap.size w W2 := below2 b1 b1.size bc
    have oA := oA.below bc
    have lG : gA < W1.heap.size ∧ W1.heap.size ≤ W2.heap.size := ⟨by have := sA.out; omega, bc.size⟩
    refine hK.out _ _ ⟨cell_on b2 c0, cell_on b2 c1⟩ (fun hHeld => ?_)
    clear hK K
    try simp only [Act.put, List.setIfInBounds_toArray, List.set_cons_zero, List.set_cons_succ]
    refine anyH_one (i := 10) (by kernel_rfl) rfl (fun K hK => ?_)
    refine step_appA tyR rfl (.tmp 8) (.tmp 12) rfl gA _ [] rfl oA _ _ _ σ.xs rfl rfl (he.below b2) (by simp; omega) (by have := sA.out; have := lG; omega) ?_
    intro vA W3 pA grA obA
    rw [List.nil_append] at pA
    have hne : ∀ g, vA.ownBlock = some g → g ≠ S2 ∧ g ≠ A2 ∧ g ≠ T2 := fun g e => by
      have x1 := hs.ltM
      have x2 := hs.a.lt
      have x3 := hs.t.lt
      have x4 := sA.out
      have x5 := hgA.out
      rcases obA with e2 | e2
      · rw [e2] at e
        have e3 : gA = g := Option.some.inj e
        omega
      · rw [e2] at e
        have e3 : W2.heap.size = g := Option.some.inj e
        omega
    have hs3 : RS W3 S2 A2 T2 N σ.ag σ.tk := by
      have x1 := hs.ltM
      have x2 := hs.a.lt
      have x3 := hs.t.lt
      have x4 := sA.out
      have x5 := hgA.out
      exact hs.put (grA.block _ x1 (fun e2 => by have e3 : S2 = gA := Option.some.inj e2; omega)) (grA.block _ x2 (fun e2 => by have e3 : A2 = gA := Option.some.inj e2; omega)) (grA.block _ x3 (fun e2 => by have e3 : T2 = gA := Option.some.inj e2; omega))
    have b3 : Below w.heap.size w W3 := b2.grown grA b2.size (fun x e => by have e3 : gA = x := Option.some.inj e; have := hgA.out; have := b0.size; have := b1.size; omega)
    have hmF := rm_made hs3 (pA.lower (Nat.zero_le _)) hne hl HS.out
    have lA : ∀ g, vA.ownBlock = some g → w.heap.size ≤ g := fun g e => by
      have := (pA.lt e).1
      have := hgA.out
      have := b0.size
      have := b1.size
      omega
    obtain ⟨va, vc, eA, -⟩ := pA.sl
    obtain ⟨m, hm⟩ : ∃ m, Hid (σ.xs.length = m) := ⟨_, rfl⟩
    rw [hm.out] at eA
    subst eA
    have bF : Below w.heap.size w (W3.alloc (.cells #[.pointer (some ⟨S2, 0, none⟩), .slice va m vc] 41)) := b3.alloc b3.size _
    have l1' : w.heap.size ≤ S2 := Nat.le_trans b1.size l1
    have l2' : w.heap.size ≤ A2 := Nat.le_trans b1.size l2
    have l3' : w.heap.size ≤ T2 := Nat.le_trans b1.size l3
    clear hne hs3 hs pA obA grA oA sA hgA lG
    refine hK.out _ _ ⟨cell_on b3 c0, cell_on b3 c1⟩ (fun hHeld => ?_)
    clear hK K
    try simp only [Act.put, List.setIfInBounds_toArray]
    refine anyH_take (i := 11) (v := ?_) (some 14) rfl rfl (by kernel_rfl) (fun _ _ _ h => h) (Or.inl ⟨by rfl, ?_⟩) (by assumption) ?_
    rotate_left
    · (intro w hSw; obtain ⟨z0, z1⟩ := hSw; go_simp; all_goals with_reducible rfl)
    try simp only [Act.put]
    refine anyH_one (i := 12) (by kernel_rfl) rfl (fun K hK => ?_)
    go_simp
    refine hK.out _ _ ⟨cell_on bF c0, cell_on bF c1⟩ (fun hHeld => ?_)
    clear hK K
    try simp only [Act.put, List.setIfInBounds_toArray, List.set_cons_zero, List.set_cons_succ]
    refine anyH_one (i := 13) (by kernel_rfl) rfl (fun K hK => ?_)
    go_simp
    refine hK.out _ _ ⟨cell_on bF c0, cell_on bF c1⟩ (fun hHeld => ?_)
    clear hK K
    try simp only [Act.put]
    refine wpAnyH_done (by kernel_rfl) ?_ _
    go_wp2_with fail
    go_ret
    exact ⟨_, _, rfl, ⟨_, _, _, _, rfl, hmF⟩, new_step bF (fun x hx => by
      rcases bR_out hx with rfl | rfl | rfl | rfl | e
      · exact b3.size
      · exact l1'
      · exact l2'
      · exact l3'
      · exact lA x e)⟩
end
end Go.Proofs.YtjgclehghnmhnaaDoor
