/- All, up to its sort: the rows' ids gathered. -/
import Derived.Test.YtmjjghhlalaeiaaLen
import Derived.Test.YtmjjghhlalaeiaaAny
namespace Go.Proofs.Ytmjjghhlalaeiaa
open Go.RowKit Go.Shelf
attribute [local go_sem] Oper.semAt_some

theorem run_app2 {w : World} {base : Nat} {v : Value} {k : Nat} {xs : List Int} {ty : TypeId} (hown : w.ownsRow base 3 1 v k (xs.map (Value.int .i64))) {sp : Option Addr} {m c : Nat} {news : List Int} (hl : news.length = m) (hr : Reads w sp c news)
    (hk : k + m ≤ 1000000) (hb : base ≤ w.heap.size) :
    ∃ v' w', (Builtin.append_ #[32, 32] ty #[v, .slice sp m c]).run Try.prog w = .ok v' w' ∧ w'.ownsRow base 3 1 v' (k + m) ((xs ++ news).map (Value.int .i64)) ∧ w.grownBy w' v.ownBlock := by
  obtain ⟨i0, hi, hz0, hz1, hz2⟩ := info_parts info3
  rcases hr with ⟨rfl, rfl, rfl⟩ | ⟨ad, rfl, hc⟩
  · obtain rfl : m = 0 := by simpa using hl.symm
    refine ⟨v, w, run_append_owned_none w base 32 ty 3 i0 1 Try.underlying32 hi v k _ hown, by simpa using hown, ⟨rfl, rfl, rfl, Nat.le_refl _, fun _ _ _ => rfl⟩⟩
  · obtain ⟨v', w', h1, h2, h3, _⟩ := run_append_own (P := Try.prog) w base 32 ty 3 i0 (.int .i64 0) 1 8 Try.underlying32 hi hz0 hz1 hz2 rfl (by decide) v k _ hown ad m c (news.map (Value.int .i64)) (by simpa using hl)
      (fun j u hu => by rw [List.getElem?_map] at hu; obtain ⟨x, hx, rfl⟩ := Option.map_eq_some_iff.1 hu; exact hc j x hx) (fun u hu => by obtain ⟨x, _, rfl⟩ := List.mem_map.1 hu; rfl) (by unfold maxLen; omega) (by omega) hb
    exact ⟨v', w', h1, by rw [List.map_append]; exact h2, h3⟩
theorem wpListIn_app {F : Fence} {n : Nat} {w : World} {ops : Array Oper} {rest : List Oper} {o : Oper} {a : Act} {Q : Exit → Act → World → Prop} (hg : o.guard = none) (s x : Operand) (hop : o.op = Op.call { callee := Callee.builtin Builtin.append, args := #[s, x], argTypes := #[32, 32] })
    (base : Nat) (v : Value) (k : Nat) (xs : List Int) (hs : a.eval s = v) (hown : w.ownsRow base 3 1 v k (xs.map (Value.int .i64))) (sp : Option Addr) (m c : Nat) (news : List Int) (hx : a.eval x = .slice sp m c) (hl : news.length = m) (hr : Reads w sp c news)
    (hk : k + m ≤ 1000000) (hb : base ≤ w.heap.size)
    (hK : ∀ v' w', w'.ownsRow base 3 1 v' (k + m) ((xs ++ news).map (Value.int .i64)) → w.grownBy w' v.ownBlock → wpListIn F n Try.prog ops Q rest (a.put o.dst v') w') :
    wpListIn F n Try.prog ops Q (o :: rest) a w := by
  refine wpListIn_plain hg fun K hK' => ?_
  obtain ⟨v', w', hrun, r1, r2⟩ := run_app2 (ty := o.type) hown hl hr hk hb
  unfold Oper.wpIn
  refine ⟨?_, ?_⟩
  · simp [Oper.about, hop, resolve, Target.leads, Sem.run_pure]
  · rw [Oper.semAt_plain F _ _ (by rw [hop]; intro c hc'; cases hc')]
    simp [execOp, hop, resolve, invoke, builtin, hs, hx, hrun, Result.andThen]
    exact hK' _ _ (hK v' w' r1 r2)

theorem own3_at {w : World} {base k : Nat} {v : Value} {xs : List Value} (h : w.ownsRow base 3 1 v k xs) : ∀ g, v.ownBlock = some g → ∃ cur, w.heap[g]? = some (.cells cur 3 (0, 0)) := by
  intro g hg
  rcases h.2 with ⟨rfl, _⟩ | ⟨g', cap, cur, rfl, h2, h3, h4⟩
  · simp [Value.ownBlock] at hg
  · simp [Value.ownBlock] at hg
    subst hg
    exact ⟨cur, h3⟩

/-- What is so behind rounds over these lists. -/
def GaI (w : World) (T : Wp) (ls : List (List Nat)) (pre : List Nat) (W : World) : Prop :=
  (∃ v, Boxed W (w.heap.size + 1) 32 v ∧ RowI W w.heap.size v (ints (catL ls pre))) ∧ Below w.heap.size w W ∧ Boxed W w.heap.size 24 (.pointer (some ⟨T.B, 0, none⟩)) ∧ (catL ls pre).length ≤ pre.length * 4096 ∧ w.heap.size + 1 < W.heap.size

/-- One round: the row's ids behind the others. -/
theorem ga_step {w W w2 w3 : World} {T : Wp} {ls : List (List Nat)} {pre : List Nat} {x : Nat} {v v3 : Value} {b : Nat} (hb1 : w.heap.size + 1 < W.heap.size) (hv : Boxed W (w.heap.size + 1) 32 v) (hr : RowI W w.heap.size v (ints (catL ls pre))) (hB : Below w.heap.size w W) (d0 : Boxed W w.heap.size 24 (.pointer (some ⟨T.B, 0, none⟩))) (hle : (catL ls pre).length ≤ pre.length * 4096) (h1 : (ls.getD x []).length ≤ 4096)
    (b2 : Below W.heap.size W w2) (hown : w3.ownsRow w.heap.size 3 1 v3 ((catL ls pre).length + (ls.getD x []).length) ((ints (catL ls pre) ++ ints (ls.getD x [])).map (Value.int .i64))) (hg : w2.grownBy w3 v.ownBlock) :
    KeepsFrom b W (w3.setCell ⟨w.heap.size + 1, 0, none⟩ v3) ∧ Ka W (w3.setCell ⟨w.heap.size + 1, 0, none⟩ v3) ∧ GaI w T ls (pre ++ [x]) (w3.setCell ⟨w.heap.size + 1, 0, none⟩ v3) := by
  have hs2 := b2.size
  have hs3 := hg.size
  have hrow2 : w2.ownsRow w.heap.size 3 1 v (ints (catL ls pre)).length ((ints (catL ls pre)).map (Value.int .i64)) := hr.below b2
  have hv2 : Boxed w2 (w.heap.size + 1) 32 v := (b2.block _ hb1).trans hv
  have hne : v.ownBlock ≠ some (w.heap.size + 1) := fun e => by
    obtain ⟨cur, h⟩ := own3_at hrow2 _ e
    have := h.symm.trans hv2
    simp at this
  have hv3 : Boxed w3 (w.heap.size + 1) 32 v := (hg.block _ (by omega) (fun e => hne e.symm)).trans hv2
  have hcl := catL_snoc ls pre x
  have hn3 : v3.ownBlock ≠ some (w.heap.size + 1) := fun e => by
    obtain ⟨cur, h⟩ := own3_at hown _ e
    have := h.symm.trans hv3
    simp at this
  refine ⟨⟨by simp [World.setCell]; omega, fun k o hk ho hc => ?_⟩, fun b' cur t ht hb' => ?_, ⟨⟨v3, hv3.set v3, ?_⟩, ?_, ?_, ?_, by simp [World.setCell]; omega⟩⟩
  · have hkl := (Array.getElem?_eq_some_iff.1 ho).1
    have hne1 : k ≠ w.heap.size + 1 := by
      rintro rfl
      have := ho.symm.trans hv
      cases this
      cases hc
    have hne2 : some k ≠ v.ownBlock := fun e => by
      obtain ⟨cur, h⟩ := own3_at hr k e.symm
      rw [ho] at h
      cases h
      cases hc
    rw [Below.heap_setCell _ _ _ _ hne1, hg.block k (by omega) hne2, b2.block k hkl]
    exact ho
  · have hkl := (Array.getElem?_eq_some_iff.1 hb').1
    have hne1 : b' ≠ w.heap.size + 1 := by
      rintro rfl
      have := hb'.symm.trans hv
      simp at this
      rcases ht with rfl | rfl <;> exact absurd this.2 (by decide)
    have hne2 : some b' ≠ v.ownBlock := fun e => by
      obtain ⟨cur', h⟩ := own3_at hr b' e.symm
      rw [hb'] at h
      simp at h
      rcases ht with rfl | rfl <;> exact absurd h.2 (by decide)
    rw [Below.heap_setCell _ _ _ _ hne1, hg.block b' (by omega) hne2, b2.block b' hkl]
    exact hb'
  · have e : ints (catL ls (pre ++ [x])) = ints (catL ls pre) ++ ints (ls.getD x []) := by rw [hcl]; simp [ints]
    unfold RowI
    rw [e, List.length_append, ints_len, ints_len]
    refine ⟨hown.1, ?_⟩
    rcases hown.2 with h | ⟨g, cap, cur, h1', h2', h3', h4'⟩
    · exact .inl h
    · refine .inr ⟨g, cap, cur, h1', h2', (Below.heap_setCell _ _ _ _ (fun e => hn3 ?_)).trans h3', h4'⟩
      rw [h1']
      exact congrArg some e
  · have hB2 := hB.trans (b2.mono hB.size)
    exact (hB2.grown hg hB2.size (fun k e => (hr.lt k e).1)).setCell (by show w.heap.size ≤ w.heap.size + 1; omega) _
  · have c2 : Boxed w2 w.heap.size 24 (.pointer (some ⟨T.B, 0, none⟩)) := (b2.block _ (by omega)).trans d0
    have hne4 : some w.heap.size ≠ v.ownBlock := fun e => by
      obtain ⟨cur, h⟩ := own3_at hrow2 _ e.symm
      have := h.symm.trans c2
      simp at this
    have c3 : Boxed w3 w.heap.size 24 (.pointer (some ⟨T.B, 0, none⟩)) := (hg.block _ (by omega) hne4).trans c2
    exact (Below.heap_setCell _ _ _ _ (by show w.heap.size ≠ w.heap.size + 1; omega)).trans c3
  · have e1 : (pre ++ [x]).length = pre.length + 1 := by simp
    rw [hcl, List.length_append, e1]
    omega

end Go.Proofs.Ytmjjghhlalaeiaa
