/- The document's New and Copy. -/
import Derived.Test.YtlnfabjgcecebaaGreatRdL
import Derived.Deep.OwnRows
import Derived.Deep.Upon
import Derived.OrdersHeld
namespace Go.Proofs.YtlnfabjgcecebaaGreat.Rd
open Go Go.RowKit Go.Proofs.YtlnfabjgcecebaaGreat.Big Go.Proofs.YtlnfabjgcecebaaGreat.Str

def RwM (w : World) (a : Option Addr) (vs : List Value) : Prop := ∀ j v, vs[j]? = some v → ∃ b o, a = some ⟨b, o, none⟩ ∧ w.cell? ⟨b, o + j, none⟩ = some v
theorem owns_rw {w : World} {B : Nat} {e : TypeId} {size : Nat} {v : Value} {n : Nat} {vs : List Value} (h : w.ownsRow B e size v n vs) : ∃ a c, v = .slice a n c ∧ n ≤ c ∧ RwM w a vs ∧ ((a = none ∧ n = 0 ∧ c = 0) ∨ ∃ g, a = some ⟨g, 0, none⟩ ∧ B ≤ g ∧ g < w.heap.size) := by
  have h' := h
  rcases h.2 with ⟨rfl, h0⟩ | ⟨g, cap, cur, rfl, hg, hb, hc, hm, _⟩
  · subst h0
    refine ⟨none, 0, rfl, Nat.le_refl _, fun j u hu => ?_, .inl ⟨rfl, rfl, rfl⟩⟩
    have := (List.getElem?_eq_some_iff.1 hu).1
    rw [h.1] at this
    omega
  · refine ⟨_, cap, rfl, hc, fun j u hu => ⟨g, 0, rfl, ?_⟩, .inr ⟨g, rfl, hg, (Array.getElem?_eq_some_iff.1 hb).1⟩⟩
    have := World.ownsRow.cells h' (g := g) rfl j u hu
    rw [WideShapes.add_plain] at this
    exact this


theorem src_of {w : World} {size : Nat} {tx e' : TypeId} (hk : Tryz.prog.underlying tx = some (.slice e')) {a : Option Addr} {m c : Nat} {vs : List Value} (hr : RwM w a vs) (hl : vs.length = m * size) (hs : 0 < size) (h1 : ∀ u ∈ vs, u.oneCell' = true) : Src Tryz.prog size tx (.slice a m c) m vs w := by
  cases a with
  | none =>
    have hv : vs = [] := by
      cases vs with
      | nil => rfl
      | cons v vs =>
        obtain ⟨b, o, e, _⟩ := hr 0 v rfl
        cases e
    subst hv
    obtain rfl : m = 0 := by
      rcases Nat.eq_zero_or_pos m with h | h
      · exact h
      · have := Nat.mul_le_mul h hs
        simp at hl
        omega
    exact Src.ofNil w hk c
  | some ad =>
    refine Src.ofSlice w hk ad m c vs hl (fun j u hu => ?_) h1
    obtain ⟨b, o, e, hc⟩ := hr j u hu
    cases e
    rw [WideShapes.add_plain]
    exact hc

theorem run_own {w : World} {t ty e : TypeId} {z : Value} {size bytes B n : Nat} {v : Value} {xs ys : List Value} (ht : Tryz.prog.underlying t = some (.slice e)) (hi : (Tryz.prog.info? e).map (fun i => (i.zero, i.size, i.bytes)) = some (some z, size, bytes)) (hzs : z.cells.size = size) (hsz : 0 < size)
    (hown : w.ownsRow B e size v n xs) {b : Option Addr} {m c : Nat} (hy : RwM w b ys) (hyl : ys.length = m * size) (h1 : ∀ u ∈ ys, u.oneCell' = true) (h63 : n + m ≤ maxLen) (hbytes : (n + m) * bytes ≤ 140737488355328) (hB : B ≤ w.heap.size) :
    ∃ v' w', (Builtin.append_ #[t, t] ty #[v, .slice b m c]).run Tryz.prog w = .ok v' w' ∧ w'.ownsRow B e size v' (n + m) (xs ++ ys) ∧ w.grownBy w' v.ownBlock ∧ (v'.ownBlock = v.ownBlock ∨ v'.ownBlock = some w.heap.size) := by
  obtain ⟨i, hinf, hz, hs, hb⟩ := info_parts hi
  subst hs
  subst hb
  have S := src_of (c := c) ht hy hyl hsz h1
  cases b with
  | none =>
    have hv : ys = [] := by
      cases ys with
      | nil => rfl
      | cons v vs =>
        obtain ⟨b, o, e, _⟩ := hy 0 v rfl
        cases e
    subst hv
    obtain rfl : m = 0 := by
      rcases Nat.eq_zero_or_pos m with h | h
      · exact h
      · have := Nat.mul_le_mul h hsz
        simp at hyl
        omega
    obtain ⟨a', c', rfl, hle, _⟩ := owns_rw hown
    refine ⟨_, _, run_append_nothing w t t ty e i ht hinf a' n c' hle _ S, by simpa using hown, ⟨rfl, rfl, rfl, Nat.le_refl _, fun _ _ _ => rfl⟩, .inl rfl⟩
  | some ad =>
    obtain ⟨v', w', h1, h2, h3, _, h5⟩ := run_append_own_at (P := Tryz.prog) w B t ty e i z i.size i.bytes ht hinf hz rfl rfl hzs hsz v n xs hown ad m c ys hyl (fun j u hu => by
      obtain ⟨b, o, e, hc⟩ := hy j u hu
      cases e
      rw [WideShapes.add_plain]
      exact hc) h1 h63 hbytes hB
    exact ⟨v', w', h1, h2, h3, h5⟩
theorem step_ownG {ts e : TypeId} {z : Value} {size bytes : Nat} (ht : Tryz.prog.underlying ts = some (.slice e)) (hi : (Tryz.prog.info? e).map (fun i => (i.zero, i.size, i.bytes)) = some (some z, size, bytes)) (hzs : z.cells.size = size) (hsz : 0 < size)
    {w : World} {ops : Array Oper} {o : Oper} {a : Act} {K : Act → World → Prop} {Q : Exit → Act → World → Prop} {E : Prop} (hg : o.guard = none) (s x : Operand) (hop : o.op = Op.call { callee := Callee.builtin Builtin.append, args := #[s, x], argTypes := #[ts, ts] })
    (B n : Nat) (v : Value) (xs : List Value) (hs : a.eval s = v) (hown : w.ownsRow B e size v n xs) (sp : Option Addr) (m c : Nat) (ys : List Value) (hx : a.eval x = .slice sp m c) (hy : RwM w sp ys) (hyl : ys.length = m * size) (h1 : ∀ u ∈ ys, u.oneCell' = true)
    (h63 : n + m ≤ maxLen) (hbytes : (n + m) * bytes ≤ 140737488355328) (hb : B ≤ w.heap.size)
    (hK : ∀ v' w', w'.ownsRow B e size v' (n + m) (xs ++ ys) → w.grownBy w' v.ownBlock → (v'.ownBlock = v.ownBlock ∨ v'.ownBlock = some w.heap.size) → K (a.put o.dst v') w') :
    if Region.wanted o (yielded ops a.tmps) = true then Oper.wp Tryz.prog o a w K Q else E := by
  have hw : Region.wanted o (yielded ops a.tmps) = true := by simp [Region.wanted, hg]
  rw [if_pos hw]
  obtain ⟨v', w', hrun, r1, r2, r3⟩ := run_own (ty := o.type) (c := c) ht hi hzs hsz hown hy hyl h1 h63 hbytes hb
  unfold Oper.wp execOp
  simp only [hop, resolve, invoke, builtin, Sem.run_bind, Sem.run_pure, Result.andThen_ok, List.map_toArray, List.map_cons, List.map_nil, hs, hx, hrun]
  exact hK v' w' r1 r2 r3
theorem own40 (W : World) : (W.alloc (.cells #[] 57)).ownsRow W.heap.size 57 4 (.slice (some ⟨W.heap.size, 0, none⟩) 0 0) 0 [] :=
  World.ownsRow_lit (base := W.heap.size) (e := 57) (size := 4) W #[] 0 (Nat.le_refl _) (Nat.zero_le _) rfl
theorem own_row4 {W : World} {B n : Nat} {t : TypeId} {v : Value} {vs : List Value} (h : W.ownsRow B t 4 v n vs) (h1 : 1 ≤ n) : ∃ g cap, v = .slice (some ⟨g, 0, none⟩) n cap ∧ B ≤ g ∧ n ≤ cap ∧ cap ≤ maxLen ∧ Hp.Row W g t vs := by
  rcases h.2 with ⟨_, h0⟩ | ⟨g, cap, cur, rfl, hg, hb, hc, hm, _, hx⟩
  · omega
  · refine ⟨g, cap, rfl, hg, hc, hm, cur, hb, fun j u hu => ?_⟩
    rw [← hx, List.getElem?_take] at hu
    split at hu
    · rw [← Array.getElem?_toList]
      exact hu
    · cases hu
theorem infoRow18 : (Tryz.prog.info? 57).map (fun i => (i.zero, i.size, i.bytes)) = some (some (.agg #[.int .i64 0, .int .i64 0, .int .i64 0, .int .i64 0]), 4, 32) := by kernel_rfl
theorem flat4_one {xs : List Rw} : ∀ u ∈ flat4 xs, u.oneCell' = true := fun u hu => by
  unfold flat4 at hu
  obtain ⟨r, _, hr⟩ := List.mem_flatMap.1 hu
  simp [cl4] at hr
  rcases hr with rfl | rfl | rfl | rfl <;> rfl
theorem made4 (m : Nat) : (madeCells #[.int .i64 0, .int .i64 0, .int .i64 0, .int .i64 0] m).toList = List.replicate m (.int .i64 0) := by
  apply List.ext_getElem?
  intro k
  unfold madeCells
  by_cases h : k < m
  · have e : k % 4 = 0 ∨ k % 4 = 1 ∨ k % 4 = 2 ∨ k % 4 = 3 := by omega
    rw [List.getElem?_replicate, if_pos h]
    simp only [Array.toList_map, Array.toList_range, List.getElem?_map, List.getElem?_range h, Option.map_some]
    show some ((#[.int .i64 0, .int .i64 0, .int .i64 0, .int .i64 0] : Array Value)[k % 4]!) = _
    rcases e with e | e | e | e <;> rw [e] <;> rfl
  · rw [List.getElem?_replicate, if_neg h]
    simp
    omega
section
variable {w w' : World} {M G N : Nat} {σ : Qs}
theorem mk_rows (n : Nat) (hn : n ≤ 4096) (W : World) : (Instr.makeSlice 40 (.int .i64 n) (.int .i64 n)).run Tryz.prog W = .ok (.slice (some ⟨W.heap.size, 0, none⟩) n n) (W.alloc (.cells (madeCells #[.int .i64 0, .int .i64 0, .int .i64 0, .int .i64 0] (n * 4)) 57)) := by
  obtain ⟨i0, hi, hz0, hz1, hz2⟩ := info_parts infoRow18
  have h := run_make (P := Tryz.prog) W 40 57 i0 (.agg #[.int .i64 0, .int .i64 0, .int .i64 0, .int .i64 0]) Tryz.underlying40 hi hz0 .i64 .i64 n n (by omega) (Int.le_refl _) (by rw [hz2]; omega) (by omega)
  rw [hz1, Int.toNat_natCast] at h
  exact h
theorem new_none (a : Int) (hm : a < 1 ∨ 4096 < a) (w : World) : Calls Tryz.prog 5 #[.int .i64 a] w fun e w' => e = .returned (.pointer none) ∧ w' = w := by
  rcases hm with h | h
  · go_enter Tryz.func5, Tryz.ntmps5
    go_wp2_with fail
    go_ret
    exact ⟨rfl, rfl⟩
  · have h' : ¬ a < 1 := by omega
    go_enter Tryz.func5, Tryz.ntmps5
    go_wp2_with fail
    go_ret
    exact ⟨rfl, rfl⟩
theorem new_some (N : Nat) (h1 : 1 ≤ N) (h2 : N ≤ 4096) (w : World) : Calls Tryz.prog 5 #[.int .i64 N] w fun e w' => ∃ M, e = .returned (.pointer (some ⟨M, 0, none⟩)) ∧ ∃ G, RQ w' M G N ⟨0, List.replicate N z4⟩ ∧ Below w.heap.size w w' ∧ w.heap.size ≤ M ∧ w.heap.size ≤ G := by
  have hm := mk_rows N h2 w
  have a1 : ¬ (N : Int) < 1 := by omega
  have a2 : ¬ (4096 : Int) < (N : Int) := by omega
  have hB : Below w.heap.size w ((w.alloc (.cells (madeCells #[.int .i64 0, .int .i64 0, .int .i64 0, .int .i64 0] (N * 4)) 57)).alloc (.cells #[.int .i64 0, .slice (some ⟨w.heap.size, 0, none⟩) N N] 42)) := ((Below.refl _ w).alloc (Nat.le_refl _) _).alloc (by simp) _
  have hG : Hp.Row (w.alloc (.cells (madeCells #[.int .i64 0, .int .i64 0, .int .i64 0, .int .i64 0] (N * 4)) 57)) w.heap.size 57 (flat4 (List.replicate N z4)) := ⟨_, heap_alloc_new _ _, fun j v hv => by
    rw [flat4_new, ← made4] at hv
    rw [← Array.getElem?_toList]
    exact hv⟩
  have hQ : RQ ((w.alloc (.cells (madeCells #[.int .i64 0, .int .i64 0, .int .i64 0, .int .i64 0] (N * 4)) 57)).alloc (.cells #[.int .i64 0, .slice (some ⟨w.heap.size, 0, none⟩) N N] 42)) (w.heap.size + 1) w.heap.size N ⟨0, List.replicate N z4⟩ := by
    refine ⟨⟨N, Nat.le_refl _, by unfold maxLen; omega, ?_⟩, hG.put (Below.heap_alloc _ _ _ (by simp)), by omega, by simp, h1, h2⟩
    have := heap_alloc_new (w.alloc (.cells (madeCells #[.int .i64 0, .int .i64 0, .int .i64 0, .int .i64 0] (N * 4)) 57)) (.cells #[.int .i64 0, .slice (some ⟨w.heap.size, 0, none⟩) N N] 42)
    rw [World.size_alloc] at this
    exact this
  clear hG
  go_enter Tryz.func5, Tryz.ntmps5
  go_wp2_with fail
  go_ret
  exact ⟨_, rfl, _, hQ, hB, by omega, Nat.le_refl _⟩
set_option maxHeartbeats 2000000 in
theorem copy_any (h : RQ w M G N σ) :
    Calls Tryz.prog 9 #[.pointer (some ⟨M, 0, none⟩)] w fun e w' => ∃ M2, e = .returned (.pointer (some ⟨M2, 0, none⟩)) ∧ ∃ G2, RQ w' M2 G2 N σ ∧ Below w.heap.size w w' ∧ w.heap.size ≤ M2 ∧ w.heap.size ≤ G2 := by
  obtain ⟨gc, hg1, hg2, c1⟩ := h.c1
  have c0 := h.c0
  have hlen := h.len
  have hn1 := h.n1
  have hn2 := h.n2
  have hRw : ∀ W, Below w.heap.size w W → RwM W (some ⟨G, 0, none⟩) (flat4 σ.L) := fun W hb j v hv => ⟨G, 0, rfl, by
    rw [Nat.zero_add]
    exact (h.below hb).g.cell hv⟩
  have hmx : N ≤ maxLen := by unfold maxLen; omega
  have hFin : ∀ W g cap, N ≤ cap → cap ≤ maxLen → Hp.Row W g 57 (flat4 σ.L) → RQ (W.alloc (.cells #[.int .i64 σ.now, .slice (some ⟨g, 0, none⟩) N cap] 42)) W.heap.size g N σ := fun W g cap e1 e2 e3 => ⟨⟨cap, e1, e2, heap_alloc_new _ _⟩, e3.put (Below.heap_alloc _ _ _ e3.lt), by have := e3.lt; omega, h.len, h.n1, h.n2⟩
  clear h
  obtain ⟨now, hnow⟩ : ∃ now, σ.now = now := ⟨_, rfl⟩
  rw [hnow] at c0 hFin
  clear hnow
  go_enter Tryz.func9, Tryz.ntmps9
  go_upto_region 1 with fail
  have c0' : w.drew.cell? ⟨M, 0, none⟩ = some (.int .i64 now) := c0
  have c1' : w.drew.cell? ⟨M, 1, none⟩ = some (.slice (some ⟨G, 0, none⟩) N gc) := c1
  refine wp_region_held_drew (S := fun w' => w'.cell? ⟨M, 0, none⟩ = some (.int .i64 now) ∧ w'.cell? ⟨M, 1, none⟩ = some (.slice (some ⟨G, 0, none⟩) N gc) ∧ Below w.heap.size w w') (by kernel_rfl) ⟨c0', c1', (Below.refl _ w).drew⟩ (fun hHeld => ?_)
  refine anyH_take (i := 0) (v := ?_) (some 3) rfl rfl (by kernel_rfl) (fun _ _ _ h => h) (Or.inl ⟨by rfl, ?_⟩) (by assumption) ?_
  rotate_left
  · (intro w hSw; go_simp; all_goals with_reducible rfl)
  try simp only [Act.put, List.setIfInBounds_toArray, List.set_cons_zero, List.set_cons_succ]
  refine anyH_take (i := 1) (v := ?_) (some 4) rfl rfl (by kernel_rfl) (fun _ _ _ h => h) (Or.inl ⟨by rfl, ?_⟩) (by assumption) ?_
  rotate_left
  · (intro w hSw; go_simp; all_goals with_reducible rfl)
  try simp only [Act.put, List.setIfInBounds_toArray, List.set_cons_zero, List.set_cons_succ]
  refine anyH_take (i := 2) (v := ?_) (some 5) rfl rfl (by kernel_rfl) (fun _ _ _ h => h) (Or.inl ⟨by rfl, ?_⟩) (by assumption) ?_
  rotate_left
  · (intro w hSw; go_simp; all_goals with_reducible rfl)
  try simp only [Act.put, List.setIfInBounds_toArray, List.set_cons_zero, List.set_cons_succ]
  refine anyH_take (i := 3) (v := ?_) (some 6) rfl rfl (by kernel_rfl) (fun _ _ _ h => h) (Or.inl ⟨by rfl, ?_⟩) (by assumption) ?_
  rotate_left
  · (intro w hSw; obtain ⟨z0, z1, z2⟩ := hSw; go_simp; all_goals with_reducible rfl)
  try simp only [Act.put, List.setIfInBounds_toArray, List.set_cons_zero, List.set_cons_succ]
  refine anyH_take (i := 5) (v := ?_) (some 8) rfl rfl (by kernel_rfl) (fun _ _ _ h => h) (Or.inl ⟨by rfl, ?_⟩) (by assumption) ?_
  rotate_left
  · (intro w hSw; go_simp; all_goals with_reducible rfl)
  try simp only [Act.put, List.setIfInBounds_toArray, List.set_cons_zero, List.set_cons_succ]
  refine anyH_take (i := 6) (v := ?_) (some 9) rfl rfl (by kernel_rfl) (fun _ _ _ h => h) (Or.inl ⟨by rfl, ?_⟩) (by assumption) ?_
  rotate_left
  · (intro w hSw; go_simp; all_goals with_reducible rfl)
  try simp only [Act.put, List.setIfInBounds_toArray, List.set_cons_zero, List.set_cons_succ]
  refine anyH_take (i := 7) (v := ?_) (some 10) rfl rfl (by kernel_rfl) (fun _ _ _ h => h) (Or.inl ⟨by rfl, ?_⟩) (by assumption) ?_
  rotate_left
  · (intro w hSw; go_simp; all_goals with_reducible rfl)
  try simp only [Act.put, List.setIfInBounds_toArray, List.set_cons_zero, List.set_cons_succ]
  refine anyH_take (i := 8) (v := ?_) (some 11) rfl rfl (by kernel_rfl) (fun _ _ _ h => h) (Or.inl ⟨by rfl, ?_⟩) (by assumption) ?_
  rotate_left
  · (intro w hSw; obtain ⟨z0, z1, z2⟩ := hSw; go_simp; all_goals with_reducible rfl)
  try simp only [Act.put, List.setIfInBounds_toArray, List.set_cons_zero, List.set_cons_succ]
  generalize hW0 : w.drew = W0 at *
  have hb0 : Below w.heap.size w W0 := hW0 ▸ (Below.refl _ w).drew
  have hs0 : w.heap.size ≤ W0.heap.size := hb0.size
  clear hW0
  refine anyH_one (i := 4) (by kernel_rfl) rfl (fun K hK => ?_)
  go_simp
  have hbA : Below w.heap.size w (W0.alloc (.cells #[] 57)) := hb0.alloc hs0 _
  have oA := own40 W0
  have hX1 : W0.heap.size ≤ (W0.alloc (.cells #[] 57)).heap.size := by simp
  have hsA : w.heap.size ≤ (W0.alloc (.cells #[] 57)).heap.size := hbA.size
  refine hK.out _ _ ⟨Hp.cell_on hbA c0, Hp.cell_on hbA c1, hbA⟩ (fun hHeld => ?_)
  clear hK K
  try simp only [Act.put, List.setIfInBounds_toArray, List.set_cons_zero, List.set_cons_succ]
  generalize hX : W0.heap.size = X at *
  generalize W0.alloc (.cells #[] 57) = W1 at *
  refine anyH_one (i := 9) (by kernel_rfl) rfl (fun K hK => ?_)
  refine step_ownG Tryz.underlying40 infoRow18 rfl (by decide) rfl (.tmp 7) (.tmp 11) rfl X 0 _ [] rfl oA _ _ _ _ rfl (hRw W1 hbA) (by rw [flat4_len, hlen]) flat4_one (by rw [Nat.zero_add]; exact hmx) (by omega) (by omega) ?_
  intro v2 W2 o2 g2 ob2
  rw [List.nil_append, Nat.zero_add] at o2
  have hlow : ∀ x, (some X : Option Nat) = some x → w.heap.size ≤ x := fun x e => by have := Option.some.inj e; omega
  have hbB : Below w.heap.size w W2 := hbA.trans (grown_below g2 hsA hlow)
  obtain ⟨g, cap, rfl, hgX, hcap, hcm, hrow⟩ := own_row4 o2 hn1
  refine hK.out _ _ ⟨Hp.cell_on hbB c0, Hp.cell_on hbB c1, hbB⟩ (fun hHeld => ?_)
  clear hK K
  try simp only [Act.put, List.setIfInBounds_toArray]
  refine anyH_take (i := 10) (v := ?_) (some 13) rfl rfl (by kernel_rfl) (fun _ _ _ h => h) (Or.inl ⟨by rfl, ?_⟩) (by assumption) ?_
  rotate_left
  · (intro w hSw; go_simp; all_goals with_reducible rfl)
  try simp only [Act.put]
  have hbC : Below w.heap.size w (W2.alloc (.cells #[.int .i64 now, .slice (some ⟨g, 0, none⟩) N cap] 42)) := hbB.alloc hbB.size _
  refine anyH_one (i := 11) (by kernel_rfl) rfl (fun K hK => ?_)
  go_simp
  refine hK.out _ _ ⟨Hp.cell_on hbC c0, Hp.cell_on hbC c1, hbC⟩ (fun hHeld => ?_)
  clear hK K
  try simp only [Act.put, List.setIfInBounds_toArray, List.set_cons_zero, List.set_cons_succ]
  refine anyH_take (i := 12) (v := ?_) (some 2) rfl rfl (by kernel_rfl) (fun _ _ _ h => h) (Or.inl ⟨by rfl, ?_⟩) (by assumption) ?_
  rotate_left
  · (intro w hSw; go_simp; all_goals with_reducible rfl)
  try simp only [Act.put, List.setIfInBounds_toArray, List.set_cons_zero, List.set_cons_succ]
  refine wpAnyH_done (by kernel_rfl) ?_ _
  have hQ := hFin W2 g cap hcap hcm hrow
  have l1 : w.heap.size ≤ W2.heap.size := hbB.size
  have l2 : w.heap.size ≤ g := by omega
  clear hFin hrow oA
  go_wp2_with fail
  go_ret
  exact ⟨_, rfl, _, hQ, hbC, l1, l2⟩
end
end Go.Proofs.YtlnfabjgcecebaaGreat.Rd
