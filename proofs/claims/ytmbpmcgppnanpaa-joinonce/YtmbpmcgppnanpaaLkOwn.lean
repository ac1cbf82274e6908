/- The statements' own helper all: a list's things in order. -/
import Derived.Test.YtmbpmcgppnanpaaLkAllI
import Derived.WalkSpells
namespace Go.Proofs.Ytmbpmcgppnanpaa.Lk
open Go.RowKit Go.Shelf Go.Proofs.Ytmbpmcgppnanpaa.Bs
attribute [local go_sem] Oper.semAt_some

theorem eql_func (p q : Value) (W : World) : Sem.run Try.prog (binOp .eql 70 (.func (.func 58) #[] #[p, q]) .nilFunc) W = .ok (.bool false) W := by kernel_rfl

/-- The row that box X holds lies in block b, or ahead of it. -/
def Owned (A : World) (X b : Nat) : Prop := ∃ v g, Boxed A X 34 v ∧ v.ownBlock = some g ∧ g ≤ b
/-- No cells turn but box X, and blocks from the row on that it holds. -/
def Kq (X : Nat) (A B : World) : Prop := ∀ b o, b ≠ X → ¬ Owned A X b → A.heap[b]? = some o → o.isCells = true → B.heap[b]? = some o ∧ ¬ Owned B X b

theorem kq_t {X : Nat} {A B C : World} (h : Kq X A B) (k : Kq X B C) : Kq X A C := fun b o h1 h2 h3 h4 =>
  have h' := h b o h1 h2 h3 h4
  k b o h1 h'.2 h'.1 h4
theorem kq_b {X : Nat} {w : World} (hX : X < w.heap.size) (W : World) (l : Nat) (o o' : Obj) (hl : w.heap.size ≤ l) (h : W.heap[l]? = some o) (hc : o.isCells = false) (_ : o.isWalk = false) : Kq X W (W.putObj l o') := by
  intro b p h1 h2 h3 h4
  have hbl : b ≠ l := by rintro rfl; rw [h] at h3; cases h3; rw [hc] at h4; cases h4
  refine ⟨(World.putObj_heap_other hbl).trans h3, ?_⟩
  rintro ⟨v, g, hv, hb, hg⟩
  exact h2 ⟨v, g, (World.putObj_heap_other (by omega)).symm.trans hv, hb, hg⟩

theorem rebase {W : World} {n₀ : Nat} {v : Value} {k : Nat} {xs : List Value} (h : W.ownsRow n₀ 3 1 v k xs) (hn : n₀ ≤ W.heap.size) :
    ∃ base, n₀ ≤ base ∧ base ≤ W.heap.size ∧ W.ownsRow base 3 1 v k xs ∧ ∀ b, b < W.heap.size → (¬ ∃ g, v.ownBlock = some g ∧ g ≤ b) → b < base := by
  rcases h.2 with ⟨rfl, h0⟩ | ⟨g, cap, cur, rfl, hg, hb, h4⟩
  · exact ⟨W.heap.size, hn, Nat.le_refl _, ⟨h.1, .inl ⟨rfl, h0⟩⟩, fun b hb _ => hb⟩
  · have hlt := (Array.getElem?_eq_some_iff.1 hb).1
    refine ⟨g, hg, by omega, ⟨h.1, .inr ⟨g, cap, cur, rfl, Nat.le_refl _, hb, h4⟩⟩, fun b _ hn => ?_⟩
    by_cases hgb : g ≤ b
    · exact absurd ⟨g, rfl, hgb⟩ hn
    · omega

/-- An append to the row that the box holds keeps all other cells. -/
theorem kq_append {W w1 : World} {X base k m : Nat} {v v' : Value} {xs ys : List Value} {tmp : Obj} (hv : Boxed W X 34 v) (hrow : W.ownsRow base 3 1 v k xs) (hbs : ∀ b, b < W.heap.size → (¬ ∃ g, v.ownBlock = some g ∧ g ≤ b) → b < base)
    (hown' : w1.ownsRow base 3 1 v' m ys) (hgrow : (W.alloc tmp).grownBy w1 v.ownBlock) : Kq X W (w1.setCell ⟨X, 0, none⟩ v') := by
  intro b o h1 h2 h3 h4
  have hlt := (Array.getElem?_eq_some_iff.1 h3).1
  have h2' : ¬ ∃ g, v.ownBlock = some g ∧ g ≤ b := fun ⟨g, e, l⟩ => h2 ⟨v, g, hv, e, l⟩
  have hbb := hbs b hlt h2'
  refine ⟨?_, ?_⟩
  · rw [Below.heap_setCell _ _ _ _ h1, hgrow.block b (by simp; omega) (fun e => h2' ⟨b, e.symm, Nat.le_refl _⟩), Below.heap_alloc _ _ _ hlt]
    exact h3
  · rintro ⟨u, g, hu, hg, hle⟩
    have hv1 : Boxed w1 X 34 v := (hv.alloc tmp).kept hgrow (hv.not_row (by decide) hrow)
    have := hu.symm.trans (hv1.set v')
    simp only [Option.some.injEq, Obj.cells.injEq, Array.mk.injEq, List.cons.injEq, and_true] at this
    obtain rfl := this
    have := (hown'.lt g hg).1
    omega

end Go.Proofs.Ytmbpmcgppnanpaa.Lk
