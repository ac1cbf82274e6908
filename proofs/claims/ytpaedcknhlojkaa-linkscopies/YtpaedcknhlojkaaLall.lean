/- The statements' own helper all: a list's things in order. -/
import Derived.Test.YtpaedcknhlojkaaAllI
import Derived.WalkSpells
namespace Go.Proofs.Ytpaedcknhlojkaa
open Go.RowKit Go.Shelf
attribute [local go_sem] Oper.semAt_some

theorem eql_func (p q : Value) (W : World) : Sem.run Try.prog (binOp .eql 66 (.func (.func 47) #[] #[p, q]) .nilFunc) W = .ok (.bool false) W := by kernel_rfl

/-- A slice of ints that the call made. -/
def RowI (w : World) (base : Nat) (v : Value) (xs : List Int) : Prop := w.ownsRow base 3 1 v xs.length (xs.map (Value.int .i64))
/-- Things as ints. -/
def ints (q : List Nat) : List Int := q.map (fun x : Nat => (x : Int))

theorem ints_iv (q : List Nat) : (ints q).map (Value.int .i64) = q.map iv := by simp [ints, iv, Function.comp_def]
theorem ints_len (q : List Nat) : (ints q).length = q.length := by simp [ints]

/-- The row that box X holds lies in block b, or ahead of it. -/
def Owned (A : World) (X b : Nat) : Prop := ∃ v g, Boxed A X 33 v ∧ v.ownBlock = some g ∧ g ≤ b
/-- No cells turn but box X, and blocks from the row on that it holds. -/
def Kq (X : Nat) (A B : World) : Prop := ∀ b o, b ≠ X → ¬ Owned A X b → A.heap[b]? = some o → o.isCells = true → B.heap[b]? = some o ∧ ¬ Owned B X b

theorem kq_t {X : Nat} {A B C : World} (h : Kq X A B) (k : Kq X B C) : Kq X A C := fun b o h1 h2 h3 h4 =>
  have h' := h b o h1 h2 h3 h4
  k b o h1 h'.2 h'.1 h4
theorem kq_b {X : Nat} {w : World} (hX : X < w.heap.size) (W : World) (l : Nat) (o o' : Obj) (hl : w.heap.size ≤ l) (h : W.heap[l]? = some o) (hc : o.isCells = false) (_ : o.isWalk = false) : Kq X W (W.putObj l o') := by
  intro b p h1 h2 h3 h4
  have hbl : b ≠ l := by rintro rfl; rw [h] at h3; cases h3; rw [hc] at h4; cases h4
  refine ⟨(World.putObj_heap_other hbl).trans h3, ?_⟩
  rintro ⟨v, g, hv, hb, hg⟩
  exact h2 ⟨v, g, (World.putObj_heap_other (by omega)).symm.trans hv, hb, hg⟩

theorem rebase {W : World} {n₀ : Nat} {v : Value} {k : Nat} {xs : List Value} (h : W.ownsRow n₀ 3 1 v k xs) (hn : n₀ ≤ W.heap.size) :
    ∃ base, n₀ ≤ base ∧ base ≤ W.heap.size ∧ W.ownsRow base 3 1 v k xs ∧ ∀ b, b < W.heap.size → (¬ ∃ g, v.ownBlock = some g ∧ g ≤ b) → b < base := by
  rcases h.2 with ⟨rfl, h0⟩ | ⟨g, cap, cur, rfl, hg, hb, h4⟩
  · exact ⟨W.heap.size, hn, Nat.le_refl _, ⟨h.1, .inl ⟨rfl, h0⟩⟩, fun b hb _ => hb⟩
  · have hlt := (Array.getElem?_eq_some_iff.1 hb).1
    refine ⟨g, hg, by omega, ⟨h.1, .inr ⟨g, cap, cur, rfl, Nat.le_refl _, hb, h4⟩⟩, fun b _ hn => ?_⟩
    by_cases hgb : g ≤ b
    · exact absurd ⟨g, rfl, hgb⟩ hn
    · omega

theorem row_lower {W : World} {b b' : Nat} {v : Value} {k : Nat} {xs : List Value} (h : W.ownsRow b' 3 1 v k xs) (hb : b ≤ b') : W.ownsRow b 3 1 v k xs :=
  ⟨h.1, h.2.imp id (fun ⟨g, cap, cur, h1, h2, h3⟩ => ⟨g, cap, cur, h1, by omega, h3⟩)⟩

/-- An append to the row that the box holds keeps all other cells. -/
theorem kq_append {W w1 : World} {X base k m : Nat} {v v' : Value} {xs ys : List Value} {tmp : Obj} (hv : Boxed W X 33 v) (hrow : W.ownsRow base 3 1 v k xs) (hbs : ∀ b, b < W.heap.size → (¬ ∃ g, v.ownBlock = some g ∧ g ≤ b) → b < base)
    (hown' : w1.ownsRow base 3 1 v' m ys) (hgrow : (W.alloc tmp).grownBy w1 v.ownBlock) : Kq X W (w1.setCell ⟨X, 0, none⟩ v') := by
  intro b o h1 h2 h3 h4
  have hlt := (Array.getElem?_eq_some_iff.1 h3).1
  have h2' : ¬ ∃ g, v.ownBlock = some g ∧ g ≤ b := fun ⟨g, e, l⟩ => h2 ⟨v, g, hv, e, l⟩
  have hbb := hbs b hlt h2'
  refine ⟨?_, ?_⟩
  · rw [Below.heap_setCell _ _ _ _ h1, hgrow.block b (by simp; omega) (fun e => h2' ⟨b, e.symm, Nat.le_refl _⟩), Below.heap_alloc _ _ _ hlt]
    exact h3
  · rintro ⟨u, g, hu, hg, hle⟩
    have hv1 : Boxed w1 X 33 v := (hv.alloc tmp).kept hgrow (hv.not_row (by decide) hrow)
    have := hu.symm.trans (hv1.set v')
    simp only [Option.some.injEq, Obj.cells.injEq, Array.mk.injEq, List.cons.injEq, and_true] at this
    obtain rfl := this
    have := (hown'.lt g hg).1
    omega

set_option maxRecDepth 100000 in
set_option maxHeartbeats 2000000 in
theorem lall_in (p : Option Addr) (i : Int) (q : List Nat) (w : World) (hs : Src w (.pointer p) i q) :
    CallsIn Fence.wide 5 Try.prog 16 #[.pointer p, .int .i64 i] w fun e w' => ∃ v, e = .returned (.tuple #[v, .bool true]) ∧ RowI w' w.heap.size v (ints q) ∧ Below w.heap.size w w' := by
  obtain ⟨i0, hi, hz0, hz1, hz2⟩ := info_parts info3
  have hef := eql_func
  have hql := hs.le
  refine callsIn_of_wp_marks Try.func16 rfl trivial ?_ rfl
  simp only [Try.ntmps16, List.size_toArray, List.length_cons, List.length_nil, Nat.reduceAdd, Nat.reduceSub, Array.replicate_succ, Array.replicate_zero, List.push_toArray, List.append_toArray, List.nil_append, List.cons_append]
  gi_wp2_with (refine ⟨trivial, ?_⟩; gi_at_call 35; refine (callsIn_wide.2 (all_any _ _ _)).mono ?_; rintro e w' ⟨rfl, rfl⟩)
  obtain ⟨W1, hW1⟩ : ∃ W1, W1 = (w.alloc (.cells #[.pointer p] 27)).alloc (.cells #[.int .i64 i] 3) := ⟨_, rfl⟩
  have hsz1 : W1.heap.size = w.heap.size + 1 + 1 := by rw [hW1]; simp
  have hB1 : Below w.heap.size w W1 := by rw [hW1]; exact ((Below.refl _ w).alloc (Nat.le_refl _) _).alloc (by simp) _
  obtain ⟨x0, x1⟩ := box_two w 27 3 (.pointer p) (.int .i64 i)
  rw [← hW1] at x0 x1 ⊢
  have hs1 := hs.later hB1
  clear hW1
  have hB2 : Below w.heap.size w (W1.alloc (.cells #[.slice none 0 0] 33)) := hB1.alloc hB1.size _
  have b2 : Boxed (W1.alloc (.cells #[.slice none 0 0] 33)) (w.heap.size + 1 + 1) 33 (.slice none 0 0) := by
    have := Boxed.new W1 33 (.slice none 0 0)
    rwa [hsz1] at this
  have y0 : (W1.alloc (.cells #[.slice none 0 0] 33)).cell? ⟨w.heap.size, 0, none⟩ = some (.pointer p) := cell_on ((Below.refl _ _).alloc (Nat.le_refl _) _) x0
  have y1 : (W1.alloc (.cells #[.slice none 0 0] 33)).cell? ⟨w.heap.size + 1, 0, none⟩ = some (.int .i64 i) := cell_on ((Below.refl _ _).alloc (Nat.le_refl _) _) x1
  have hs0 := hs1.later ((Below.refl _ W1).alloc (Nat.le_refl _) (.cells #[.slice none 0 0] 33))
  have hsz : (W1.alloc (.cells #[.slice none 0 0] 33)).heap.size = w.heap.size + 1 + 1 + 1 := by simp [hsz1]
  generalize (W1.alloc (.cells #[.slice none 0 0] 33)) = W0 at *
  have hO : ∀ b, ¬ Owned W0 (w.heap.size + 1 + 1) b := by
    rintro b ⟨u, g, hu, hg, _⟩
    have := hu.symm.trans b2
    simp only [Option.some.injEq, Obj.cells.injEq, Array.mk.injEq, List.cons.injEq, and_true] at this
    obtain rfl := this
    simp [Value.ownBlock] at hg
  clear hef hs hs1 x0 x1 hB1
  refine wpIn_rangeFunc_ownG rfl (by omega) (gf := 47) (lb := #[.pointer (some ⟨w.heap.size, 0, none⟩), .pointer (some ⟨w.heap.size + 1, 0, none⟩)]) rfl trivial (enters_of Try.func47 (by kernel_rfl) rfl)
    (all_stops (fun x : Nat => x) (5 - 1) (by omega) w.heap.size (w.heap.size + 1) (.pointer p) i q W0 (by simpa using hs0) y0 y1 (Kq (w.heap.size + 1 + 1)) (fun A T => T ≠ w.heap.size + 1 + 1 ∧ ¬ Owned A (w.heap.size + 1 + 1) T)
      (fun W T hW hT => ⟨by omega, fun ⟨u, g, hu, hg, hle⟩ => hO T ⟨u, g, (hW.block _ (by omega)).symm.trans hu, hg, hle⟩⟩)
      (fun A B T vs hk ⟨s1, s2⟩ ⟨cur, h1, h2⟩ => by obtain ⟨k1, k2⟩ := hk T _ s1 s2 h1 rfl; exact ⟨⟨cur, k1, h2⟩, s1, k2⟩)) kq_t (kq_b (by omega)) (Below.refl _ _) (fun _ => rfl)
    (fun pre W => (∃ v, Boxed W (w.heap.size + 1 + 1) 33 v ∧ W.ownsRow (w.heap.size + 1 + 1) 3 1 v pre.length (pre.map iv) ∧ True) ∧ Below w.heap.size w W)
    (fun c pre W => False)
    (OwnFrom.and (Own.from (holdsRow_own (w.heap.size + 1 + 1) (w.heap.size + 1 + 1) 33 3 1 (fun pre : List Nat => pre.length) (fun pre => pre.map iv) (fun _ _ => True)) _) (ownFrom_below (Nat.le_refl _) (by omega)))
    (fun c => Own.from (fun _ A B row hs hg hr => hs) _)
    ⟨⟨_, b2, World.ownsRow_nil _ _ _ _, trivial⟩, hB2⟩ ?a1 ?assign ?body ?done ?stop
  case assign =>
    intro l x W K hK
    gi_wp2
    exact hK
  case body =>
    rintro l pre x W ⟨⟨v, hv, hrow0, _⟩, hB⟩ hlt
    have d2 := hv.cell
    have hB3 : w.heap.size + 1 + 1 + 1 ≤ W.heap.size := by
      have h2 := hv.lt
      omega
    have hvv : ∃ a c, v = .slice a pre.length c := by
      rcases hrow0.2 with ⟨rfl, h0⟩ | ⟨g, cap, cur, rfl, _⟩
      · exact ⟨none, 0, by rw [h0]⟩
      · exact ⟨_, cap, rfl⟩
    obtain ⟨base, hb1, hb2', hrow, hbs⟩ := rebase hrow0 (by omega)
    obtain ⟨sa, sc, rfl⟩ := hvv
    gi_wp2_with (gi_at_builtin; refine wpListIn_append_own _ rfl _ _ 33 rfl base 3 i0 (.int .i64 0) 1 8 Try.underlying33 hi hz0 hz1 hz2 rfl (by decide) _ _ _ rfl (hrow.alloc _) ⟨_, 0, none⟩ 1 1 [.int .i64 x] rfl rfl (cell_one_new _ _ _) (by simp [Value.oneCell']) (by unfold maxLen; omega) (by omega) (by simp; omega) ?_; intro v' w1 hown' hgrow _; obtain ⟨g', cap', rfl⟩ := ownsRow_succ hown'; obtain ⟨hv1, hv2, hr2, hk2, hb2⟩ := hv.appended (by decide) hrow0 (by omega) (Nat.le_refl _) (row_lower hown' hb1) hgrow; have hkq := kq_append hv hrow hbs hown' hgrow; have hc1 := hv1.cell; have hf1 := hv1.frozen)
    have hb3 := hb2.mono (show w.heap.size ≤ w.heap.size + 1 + 1 by omega)
    refine ⟨hk2.from _, hkq, ⟨_, hv2, ?_, trivial⟩, hB.trans hb3⟩
    rw [List.length_append, List.map_append]
    exact hr2
  case done =>
    rintro D ys W hD rfl ⟨⟨v, hv, hrow, _⟩, hB⟩ hK
    have d2 := hv.cell
    gi_wp2
    refine ⟨by simp, .inl ⟨_, _, rfl, run_takeDeferred hK, ?_⟩⟩
    refine ⟨.tuple #[v, .bool true], by simp [results, Try.f16, go_sem], v, rfl, ?_, hB.trans (belowK_b (w := w) (Nat.le_refl _) W D _ _ (by omega) hK rfl rfl)⟩
    unfold RowI
    rw [ints_iv, ints_len]
    exact row_lower (ownsRow_putObj hrow _ hK rfl) (by omega)
  case stop =>
    rintro D c pre W hD hpre h hK
    exact h.elim

theorem lall_any (p : Option Addr) (i : Int) (q : List Nat) (w : World) (hs : Src w (.pointer p) i q) :
    Calls Try.prog 16 #[.pointer p, .int .i64 i] w fun e w' => ∃ v, e = .returned (.tuple #[v, .bool true]) ∧ RowI w' w.heap.size v (ints q) ∧ Below w.heap.size w w' :=
  (callsIn_wide (n := 5)).1 (lall_in p i q w hs)

end Go.Proofs.Ytpaedcknhlojkaa
