/- An event's numbers are handed to the closure that puts them; its registers. -/
import Derived.Test.YteiidkojofaamaaDoorEPut
import Derived.Test.YteiidkojofaamaaDoorCHoldT
import Derived.Deep.CutRange
namespace Go.Proofs.YteiidkojofaamaaDoor
open Go Go.RowKit

theorem pts_one {W : World} {E i : Nat} {n : Int} (h : W.cell? ⟨E, i, none⟩ = some (.int .i64 n)) (t : TypeId) : Pts (W.alloc (.cells #[.pointer (some ⟨E, i, none⟩)] t)) W.heap.size [n] := fun j m hj => by
  have hj0 : j = 0 := by have := (List.getElem?_eq_some_iff.1 hj).1; simpa using this
  subst hj0
  simp at hj
  subst hj
  exact ⟨⟨E, i, none⟩, by simp [go_sem], cell_on ((Below.refl _ W).alloc (Nat.le_refl _) _) h⟩
theorem pts_three {W : World} {E i j k : Nat} {n m q : Int} (h : W.cell? ⟨E, i, none⟩ = some (.int .i64 n)) (h' : W.cell? ⟨E, j, none⟩ = some (.int .i64 m)) (h'' : W.cell? ⟨E, k, none⟩ = some (.int .i64 q)) (t : TypeId) : Pts (W.alloc (.cells #[.pointer (some ⟨E, i, none⟩), .pointer (some ⟨E, j, none⟩), .pointer (some ⟨E, k, none⟩)] t)) W.heap.size [n, m, q] := fun x y hx => by
  have hb := (Below.refl _ W).alloc (Nat.le_refl _) (.cells #[.pointer (some ⟨E, i, none⟩), .pointer (some ⟨E, j, none⟩), .pointer (some ⟨E, k, none⟩)] t)
  have hx3 : x < 3 := by have := (List.getElem?_eq_some_iff.1 hx).1; simpa using this
  rcases (show x = 0 ∨ x = 1 ∨ x = 2 by omega) with rfl | rfl | rfl
  · simp at hx
    subst hx
    exact ⟨⟨E, i, none⟩, by simp [go_sem], cell_on hb h⟩
  · simp at hx
    subst hx
    exact ⟨⟨E, j, none⟩, by simp [go_sem], cell_on hb h'⟩
  · simp at hx
    subst hx
    exact ⟨⟨E, k, none⟩, by simp [go_sem], cell_on hb h''⟩

section
variable {lo : Nat} {W : World} {E X : Nat} {e : Ev} {l : List UInt8}
/-- One number is put. -/
theorem put_one (h : PS lo W E X e l) {i : Nat} {n : Int} (hi : (evA e)[i]? = some (.int .i64 n)) (hr : 0 ≤ n ∧ n ≤ 1099511627776) (hlo : lo ≤ W.heap.size) (hbs : l.length ≤ 700000) :
    Calls Tryd.prog 35 #[.slice (some ⟨W.heap.size, 0, none⟩) 1 1, .pointer (some ⟨X, 0, none⟩)] (W.alloc (.cells #[.pointer (some ⟨E, i, none⟩)] 83)) fun r w' => r = .returned (.tuple #[]) ∧ PS lo w' E X e (l ++ numI n) ∧ But [X] W w' := by
  have hb := (Below.refl _ W).alloc (Nat.le_refl _) (.cells #[.pointer (some ⟨E, i, none⟩)] 83)
  have := put1_any (c := 1) (h.below hb) (pts_one (h.ev.cell hi) 83) (fun x hx => by simp at hx; rw [hx]; exact hr) (by simp; omega) (by simp) hbs
  refine this.mono ?_
  rintro r w' ⟨rfl, h1, h2⟩
  exact ⟨rfl, by simpa [numsL] using h1, (But.of_below hb).trans h2⟩
/-- Three numbers are put. -/
theorem put_three (h : PS lo W E X e l) {i j k : Nat} {n m q : Int} (hi : (evA e)[i]? = some (.int .i64 n)) (hj : (evA e)[j]? = some (.int .i64 m)) (hk : (evA e)[k]? = some (.int .i64 q)) (hn : 0 ≤ n ∧ n ≤ 1099511627776) (hm : 0 ≤ m ∧ m ≤ 1099511627776) (hq : 0 ≤ q ∧ q ≤ 1099511627776) (hlo : lo ≤ W.heap.size) (hbs : l.length ≤ 700000) :
    Calls Tryd.prog 35 #[.slice (some ⟨W.heap.size, 0, none⟩) 3 3, .pointer (some ⟨X, 0, none⟩)] (W.alloc (.cells #[.pointer (some ⟨E, i, none⟩), .pointer (some ⟨E, j, none⟩), .pointer (some ⟨E, k, none⟩)] 83)) fun r w' => r = .returned (.tuple #[]) ∧ PS lo w' E X e (l ++ (numI n ++ (numI m ++ numI q))) ∧ But [X] W w' := by
  have hb := (Below.refl _ W).alloc (Nat.le_refl _) (.cells #[.pointer (some ⟨E, i, none⟩), .pointer (some ⟨E, j, none⟩), .pointer (some ⟨E, k, none⟩)] 83)
  have := put1_any (c := 3) (h.below hb) (pts_three (h.ev.cell hi) (h.ev.cell hj) (h.ev.cell hk) 83) (fun x hx => by simp at hx; rcases hx with rfl | rfl | rfl <;> assumption) (by simp; omega) (by simp) hbs
  refine this.mono ?_
  rintro r w' ⟨rfl, h1, h2⟩
  exact ⟨rfl, by simpa [numsL] using h1, (But.of_below hb).trans h2⟩
end
def headL (e : Ev) : List UInt8 := if e.kd = 2 then numI e.pg ++ (numI e.pc ++ numI e.dp) else []
def handL (e : Ev) : List UInt8 := numI e.ac ++ (thL e ++ (vaL e ++ headL e))
end Go.Proofs.YteiidkojofaamaaDoor
