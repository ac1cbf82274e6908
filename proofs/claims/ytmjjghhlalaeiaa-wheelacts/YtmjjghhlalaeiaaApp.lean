/- Rows of ints of a call's own; an append to one; the reference's Ints. -/
import Derived.Test.YtmjjghhlalaeiaaAllI
import Derived.WalkSpells
import Derived.Deep.RegionLaw
namespace Go.Proofs.Ytmjjghhlalaeiaa
open Go.RowKit Go.Shelf
/-- A slice of ints that the call made. -/
def RowI (w : World) (base : Nat) (v : Value) (xs : List Int) : Prop := w.ownsRow base 3 1 v xs.length (xs.map (Value.int .i64))
/-- Things as ints. -/
def ints (q : List Nat) : List Int := q.map (fun x : Nat => (x : Int))

theorem ints_iv (q : List Nat) : (ints q).map (Value.int .i64) = q.map iv := by simp [ints, iv, Function.comp_def]
theorem ints_len (q : List Nat) : (ints q).length = q.length := by simp [ints]

/-- The row that box X holds lies in block b, or ahead of it. -/
def Owned (A : World) (X b : Nat) : Prop := ∃ v g, Boxed A X 32 v ∧ v.ownBlock = some g ∧ g ≤ b
/-- No cells turn but box X, and blocks from the row on that it holds. -/
def Kq (X : Nat) (A B : World) : Prop := ∀ b o, b ≠ X → ¬ Owned A X b → A.heap[b]? = some o → o.isCells = true → B.heap[b]? = some o ∧ ¬ Owned B X b

theorem kq_t {X : Nat} {A B C : World} (h : Kq X A B) (k : Kq X B C) : Kq X A C := fun b o h1 h2 h3 h4 =>
  have h' := h b o h1 h2 h3 h4
  k b o h1 h'.2 h'.1 h4
theorem kq_b {X : Nat} {w : World} (hX : X < w.heap.size) (W : World) (l : Nat) (o o' : Obj) (hl : w.heap.size ≤ l) (h : W.heap[l]? = some o) (hc : o.isCells = false) (_ : o.isWalk = false) : Kq X W (W.putObj l o') := by
  intro b p h1 h2 h3 h4
  have hbl : b ≠ l := by rintro rfl; rw [h] at h3; cases h3; rw [hc] at h4; cases h4
  refine ⟨(World.putObj_heap_other hbl).trans h3, ?_⟩
  rintro ⟨v, g, hv, hb, hg⟩
  exact h2 ⟨v, g, (World.putObj_heap_other (by omega)).symm.trans hv, hb, hg⟩

theorem rebase {W : World} {n₀ : Nat} {v : Value} {k : Nat} {xs : List Value} (h : W.ownsRow n₀ 3 1 v k xs) (hn : n₀ ≤ W.heap.size) :
    ∃ base, n₀ ≤ base ∧ base ≤ W.heap.size ∧ W.ownsRow base 3 1 v k xs ∧ ∀ b, b < W.heap.size → (¬ ∃ g, v.ownBlock = some g ∧ g ≤ b) → b < base := by
  rcases h.2 with ⟨rfl, h0⟩ | ⟨g, cap, cur, rfl, hg, hb, h4⟩
  · exact ⟨W.heap.size, hn, Nat.le_refl _, ⟨h.1, .inl ⟨rfl, h0⟩⟩, fun b hb _ => hb⟩
  · have hlt := (Array.getElem?_eq_some_iff.1 hb).1
    refine ⟨g, hg, by omega, ⟨h.1, .inr ⟨g, cap, cur, rfl, Nat.le_refl _, hb, h4⟩⟩, fun b _ hn => ?_⟩
    by_cases hgb : g ≤ b
    · exact absurd ⟨g, rfl, hgb⟩ hn
    · omega

theorem row_lower {W : World} {b b' : Nat} {v : Value} {k : Nat} {xs : List Value} (h : W.ownsRow b' 3 1 v k xs) (hb : b ≤ b') : W.ownsRow b 3 1 v k xs :=
  ⟨h.1, h.2.imp id (fun ⟨g, cap, cur, h1, h2, h3⟩ => ⟨g, cap, cur, h1, by omega, h3⟩)⟩

/-- An append to the row that the box holds keeps all other cells. -/
theorem kq_append {W w1 : World} {X base k m : Nat} {v v' : Value} {xs ys : List Value} {tmp : Obj} (hv : Boxed W X 32 v) (hrow : W.ownsRow base 3 1 v k xs) (hbs : ∀ b, b < W.heap.size → (¬ ∃ g, v.ownBlock = some g ∧ g ≤ b) → b < base)
    (hown' : w1.ownsRow base 3 1 v' m ys) (hgrow : (W.alloc tmp).grownBy w1 v.ownBlock) : Kq X W (w1.setCell ⟨X, 0, none⟩ v') := by
  intro b o h1 h2 h3 h4
  have hlt := (Array.getElem?_eq_some_iff.1 h3).1
  have h2' : ¬ ∃ g, v.ownBlock = some g ∧ g ≤ b := fun ⟨g, e, l⟩ => h2 ⟨v, g, hv, e, l⟩
  have hbb := hbs b hlt h2'
  refine ⟨?_, ?_⟩
  · rw [Below.heap_setCell _ _ _ _ h1, hgrow.block b (by simp; omega) (fun e => h2' ⟨b, e.symm, Nat.le_refl _⟩), Below.heap_alloc _ _ _ hlt]
    exact h3
  · rintro ⟨u, g, hu, hg, hle⟩
    have hv1 : Boxed w1 X 32 v := (hv.alloc tmp).kept hgrow (hv.not_row (by decide) hrow)
    have := hu.symm.trans (hv1.set v')
    simp only [Option.some.injEq, Obj.cells.injEq, Array.mk.injEq, List.cons.injEq, and_true] at this
    obtain rfl := this
    have := (hown'.lt g hg).1
    omega

section
variable {w w' : World} {q : List Int}
theorem RowI.but {S : List Nat} {base : Nat} {v : Value} (h : RowI w base v q) (hb : But S w w') (hS : ∀ x ∈ S, x < base) : RowI w' base v q := by
  refine ⟨h.1, ?_⟩
  rcases h.2 with h | ⟨g, cap, cur, h1, h2, h3, h4⟩
  · exact .inl h
  · exact .inr ⟨g, cap, cur, h1, h2, (hb.block g (Array.getElem?_eq_some_iff.1 h3).1 (fun e => by have := hS g e; omega)).trans h3, h4⟩
theorem RowI.below {base : Nat} {v : Value} (h : RowI w base v q) (hb : Below w.heap.size w w') : RowI w' base v q := h.but (S := []) (.of_below hb) (by simp)
theorem RowI.shape {base : Nat} {v : Value} (h : RowI w base v q) : ∃ a c, v = .slice a q.length c ∧ q.length ≤ c ∧ c ≤ maxLen ∧ (a = none → c = 0) ∧ ∀ j x, q[j]? = some x → ∃ g, a = some ⟨g, 0, none⟩ ∧ w.cell? ⟨g, j, none⟩ = some (.int .i64 x) := by
  have h' := h
  rcases h.2 with ⟨rfl, h0⟩ | ⟨g, cap, cur, rfl, hg, hb, hc, hm, _⟩
  · exact ⟨none, 0, by rw [h0], by omega, by unfold maxLen; omega, fun _ => rfl, fun j x hx => by have := (List.getElem?_eq_some_iff.1 hx).1; omega⟩
  · refine ⟨_, cap, rfl, hc, hm, (fun e => (by cases e)), fun j x hx => ⟨g, rfl, ?_⟩⟩
    have hj := (List.getElem?_eq_some_iff.1 hx).1
    have := World.ownsRow.cellAt h' j (by omega)
    rw [this, List.getElem?_map, hx]
    rfl
end

/-- A slice's numbers can be read. -/
def Reads (w : World) (sp : Option Addr) (c : Nat) (xs : List Int) : Prop := (sp = none ∧ c = 0 ∧ xs = []) ∨ ∃ ad, sp = some ad ∧ ∀ j x, xs[j]? = some x → w.cell? (ad.add j) = some (.int .i64 x)

theorem run_app {w : World} {base : Nat} {v : Value} {k : Nat} {xs : List Int} {ty : TypeId} (hown : w.ownsRow base 3 1 v k (xs.map (Value.int .i64))) {sp : Option Addr} {m c : Nat} {news : List Int} (hl : news.length = m) (hr : Reads w sp c news)
    (hk : k + m ≤ 100000) (hb : base ≤ w.heap.size) :
    ∃ v' w', (Builtin.append_ #[32, 32] ty #[v, .slice sp m c]).run Try.prog w = .ok v' w' ∧ w'.ownsRow base 3 1 v' (k + m) ((xs ++ news).map (Value.int .i64)) ∧ w.grownBy w' v.ownBlock := by
  obtain ⟨i0, hi, hz0, hz1, hz2⟩ := info_parts info3
  rcases hr with ⟨rfl, rfl, rfl⟩ | ⟨ad, rfl, hc⟩
  · obtain rfl : m = 0 := by simpa using hl.symm
    refine ⟨v, w, run_append_owned_none w base 32 ty 3 i0 1 Try.underlying32 hi v k _ hown, by simpa using hown, ⟨rfl, rfl, rfl, Nat.le_refl _, fun _ _ _ => rfl⟩⟩
  · obtain ⟨v', w', h1, h2, h3, _⟩ := run_append_own (P := Try.prog) w base 32 ty 3 i0 (.int .i64 0) 1 8 Try.underlying32 hi hz0 hz1 hz2 rfl (by decide) v k _ hown ad m c (news.map (Value.int .i64)) (by simpa using hl)
      (fun j u hu => by rw [List.getElem?_map] at hu; obtain ⟨x, hx, rfl⟩ := Option.map_eq_some_iff.1 hu; exact hc j x hx) (fun u hu => by obtain ⟨x, _, rfl⟩ := List.mem_map.1 hu; rfl) (by unfold maxLen; omega) (by omega) hb
    exact ⟨v', w', h1, by rw [List.map_append]; exact h2, h3⟩

theorem wpList_app {w : World} {ops : Array Oper} {rest : List Oper} {o : Oper} {a : Act} {Q : Exit → Act → World → Prop} (hg : o.guard = none) (s x : Operand) (hop : o.op = Op.call { callee := Callee.builtin Builtin.append, args := #[s, x], argTypes := #[32, 32] })
    (base : Nat) (v : Value) (k : Nat) (xs : List Int) (hs : a.eval s = v) (hown : w.ownsRow base 3 1 v k (xs.map (Value.int .i64))) (sp : Option Addr) (m c : Nat) (news : List Int) (hx : a.eval x = .slice sp m c) (hl : news.length = m) (hr : Reads w sp c news)
    (hk : k + m ≤ 100000) (hb : base ≤ w.heap.size)
    (hK : ∀ v' w', w'.ownsRow base 3 1 v' (k + m) ((xs ++ news).map (Value.int .i64)) → w.grownBy w' v.ownBlock → wpList Try.prog ops Q rest (a.put o.dst v') w') :
    wpList Try.prog ops Q (o :: rest) a w := by
  refine wpList_plain hg fun K hK' => ?_
  obtain ⟨v', w', hrun, r1, r2⟩ := run_app (ty := o.type) hown hl hr hk hb
  unfold Oper.wp
  simp [execOp, hop, resolve, invoke, builtin, hs, hx, hrun, Result.andThen]
  exact hK' _ _ (hK v' w' r1 r2)

theorem step_app {w : World} {ops : Array Oper} {o : Oper} {a : Act} {K : Act → World → Prop} {Q : Exit → Act → World → Prop} {E : Prop} (hg : o.guard = none) (s x : Operand) (hop : o.op = Op.call { callee := Callee.builtin Builtin.append, args := #[s, x], argTypes := #[32, 32] })
    (base : Nat) (v : Value) (k : Nat) (xs : List Int) (hs : a.eval s = v) (hown : w.ownsRow base 3 1 v k (xs.map (Value.int .i64))) (sp : Option Addr) (m c : Nat) (news : List Int) (hx : a.eval x = .slice sp m c) (hl : news.length = m) (hr : Reads w sp c news)
    (hk : k + m ≤ 100000) (hb : base ≤ w.heap.size)
    (hK : ∀ v' w', w'.ownsRow base 3 1 v' (k + m) ((xs ++ news).map (Value.int .i64)) → w.grownBy w' v.ownBlock → K (a.put o.dst v') w') :
    if Region.wanted o (yielded ops a.tmps) = true then Oper.wp Try.prog o a w K Q else E := by
  have hw : Region.wanted o (yielded ops a.tmps) = true := by simp [Region.wanted, hg]
  rw [if_pos hw]
  obtain ⟨v', w', hrun, r1, r2⟩ := run_app (ty := o.type) hown hl hr hk hb
  unfold Oper.wp
  simp [execOp, hop, resolve, invoke, builtin, hs, hx, hrun, Result.andThen]
  exact hK v' w' r1 r2

theorem own_shape {w : World} {base k : Nat} {v : Value} {xs : List Value} (h : w.ownsRow base 3 1 v k xs) : ∃ a c, v = .slice a k c := by
  rcases h.2 with ⟨rfl, h0⟩ | ⟨g, cap, cur, rfl, _⟩
  · exact ⟨none, 0, by rw [h0]⟩
  · exact ⟨_, cap, rfl⟩
theorem But.grown {S : List Nat} {a b c : World} {row : Option Nat} (h : But S a b) (hg : b.grownBy c row) (hr : ∀ k, row = some k → a.heap.size ≤ k) : But S a c :=
  ⟨hg.os.trans h.os, hg.tape.trans h.tape, hg.output.trans h.output, Nat.le_trans h.size hg.size, fun k hk hs =>
    (hg.block k (Nat.lt_of_lt_of_le hk h.size) (fun e => by have := hr k e.symm; omega)).trans (h.block k hk hs)⟩
theorem Reads.but {w w' : World} {sp : Option Addr} {c : Nat} {xs : List Int} (h : Reads w sp c xs) (hb : But [] w w') : Reads w' sp c xs :=
  h.imp id (fun ⟨ad, e, hc⟩ => ⟨ad, e, fun j x hx => hb.cell (hc j x hx)⟩)
theorem reads_one (w : World) (x : Int) : Reads (w.alloc (.cells #[.int .i64 x] 3)) (some ⟨w.heap.size, 0, none⟩) 1 [x] := by
  refine .inr ⟨_, rfl, fun j y hj => ?_⟩
  cases j with
  | zero =>
    simp at hj
    subst hj
    simp [Addr.add, go_sem]
  | succ j => simp at hj
theorem own_none (w : World) : (w.alloc (.cells #[] 3)).ownsRow w.heap.size 3 1 (.slice (some ⟨w.heap.size, 0, none⟩) 0 0) 0 (([] : List Int).map (Value.int .i64)) := by
  have := World.ownsRow_lit (base := w.heap.size) (e := 3) (size := 1) w #[] 0 (Nat.le_refl _) (Nat.zero_le _) rfl
  exact this
theorem own_one (w : World) (x : Int) : (w.alloc (.cells #[.int .i64 x] 3)).ownsRow w.heap.size 3 1 (.slice (some ⟨w.heap.size, 0, none⟩) 1 1) 1 ([x].map (Value.int .i64)) := by
  have := World.ownsRow_lit (base := w.heap.size) (e := 3) (size := 1) w #[.int .i64 x] 1 (Nat.le_refl _) (by unfold maxLen; omega) rfl
  exact this
/-- A slice's numbers, from its block's first cell on. -/
def IntsR (w : World) (a : Option Addr) (xs : List Int) : Prop := ∀ j x, xs[j]? = some x → ∃ g, a = some ⟨g, 0, none⟩ ∧ w.cell? ⟨g, j, none⟩ = some (.int .i64 x)
theorem RowI.open' {w : World} {base : Nat} {v : Value} {q : List Int} (h : RowI w base v q) : ∃ a c, v = .slice a q.length c ∧ IntsR w a q := by
  obtain ⟨a, c, e, _, _, _, hx⟩ := h.shape
  exact ⟨a, c, e, hx⟩

set_option maxHeartbeats 1000000 in
theorem ints_any (a b : Option Addr) (c d : Nat) (xs : List Int) (w : World) (hn : xs.length ≤ 4096) (ha : IntsR w a xs) (hb : IntsR w b xs) :
    Calls Try.prog 18 #[.slice a xs.length c, .slice b xs.length d] w fun e w' => e = .returned (.bool true) ∧ Below w.heap.size w w' := by
  go_enter Try.func18, Try.ntmps18
  go_wp2_with fail
  go_loopw [13, 5] (fun q _ wr => ∃ j : Nat, j ≤ xs.length ∧ q = .int .i64 j ∧ Drawn w wr) (fun q _ _ => 4096 - (intOf q).toNat)
  case atStart => exact ⟨0, by omega, rfl, Drawn.refl _⟩
  case round =>
    obtain ⟨j, hj, rfl, hB⟩ := hrel
    by_cases hlt : j < xs.length
    · obtain ⟨g1, rfl, hc1⟩ := ha j (xs[j]) (by simp)
      obtain ⟨g2, rfl, hc2⟩ := hb j (xs[j]) (by simp)
      generalize xs[j] = x at hc1 hc2
      replace hc1 := (Drawn.but (S := []) hB).cell hc1
      replace hc2 := (Drawn.but (S := []) hB).cell hc2
      have h1 : (j : Int) < (xs.length : Int) := by omega
      have h0 : (0 : Int) ≤ (j : Int) := by omega
      go_wp2_with fail
      go_quiet (fail)
      go_wp2_with fail
      go_roundw
      case rel => exact ⟨j + 1, by omega, by simp, hB.trans ⟨nq, rfl⟩⟩
      case measure =>
        simp [intOf]
        omega
    · obtain rfl : j = xs.length := by omega
      go_wp2_with fail
      go_ret
      exact ⟨rfl, (Drawn.but (S := []) hB).below (Nat.le_refl _) (by simp)⟩


theorem RowI.reads {w : World} {lo : Nat} {a : Option Addr} {c l : Nat} {q : List Int} (h : RowI w lo (.slice a l c) q) : Reads w a c q := by
  obtain ⟨a', c', e, _, _, hn, hx⟩ := h.shape
  simp only [Value.slice.injEq] at e
  obtain ⟨rfl, rfl, rfl⟩ := e
  cases a with
  | none =>
    refine .inl ⟨rfl, hn rfl, ?_⟩
    cases q with
    | nil => rfl
    | cons y t => obtain ⟨g, e, _⟩ := hx 0 y rfl; cases e
  | some ad =>
    refine .inr ⟨ad, rfl, fun j x hj => ?_⟩
    obtain ⟨g, e, hc⟩ := hx j x hj
    cases e
    rw [WideShapes.add_plain, Nat.zero_add]
    exact hc

theorem IntsR.below {w w' : World} {a : Option Addr} {xs : List Int} (h : IntsR w a xs) (hb : Below w.heap.size w w') : IntsR w' a xs := fun j x hx => by
  obtain ⟨g, e, hc⟩ := h j x hx
  exact ⟨g, e, cell_on hb hc⟩
theorem ints_two (w : World) (x y : Int) : IntsR (w.alloc (.cells #[.int .i64 x, .int .i64 y] 3)) (some ⟨w.heap.size, 0, none⟩) [x, y] := by
  intro j z hz
  refine ⟨_, rfl, ?_⟩
  match j, hz with
  | 0, hz => simp at hz; subst hz; simp [go_sem]
  | 1, hz => simp at hz; subst hz; simp [go_sem]
  | j + 2, hz => simp at hz


end Go.Proofs.Ytmjjghhlalaeiaa
