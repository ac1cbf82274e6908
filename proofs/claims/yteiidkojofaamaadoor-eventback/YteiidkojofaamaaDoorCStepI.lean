/- The step of ints: as many as are said, one by one. -/
import Derived.Test.YteiidkojofaamaaDoorCStep
import Derived.Test.YteiidkojofaamaaDoorCApp
namespace Go.Proofs.YteiidkojofaamaaDoor
open Go.RowKit

theorem numG_eats {bs t : List UInt8} {n : Nat} (h : numG 0 0 bs = (0, n, t)) : t.length + 1 ≤ bs.length := by
  obtain ⟨e, hn⟩ := numG_back h
  rw [e, List.length_append, numL_nine hn]
  have := numF_pos 9 n
  omega
theorem numT_ok {most : Nat} {bs t : List UInt8} {n : Nat} (e : numT most bs = (0, n, t)) : numG 0 0 bs = (0, n, t) ∧ n ≤ most := by
  unfold numT at e
  simp only at e
  split at e
  · split at e
    · cases e
    · rename_i h
      rw [e] at h
      exact ⟨e, by simp only at h; omega⟩
  · rename_i h
    rw [e] at h
    exact absurd rfl h
theorem intT_eats {least most : Int} {bs : List UInt8} (h : (intT least most bs).1 = 0) : (intT least most bs).2.2.length + 1 ≤ bs.length := by
  unfold intT at h ⊢
  simp only at h ⊢
  by_cases h0 : (numG 0 0 bs).1 = 0
  · have e : numG 0 0 bs = (0, (numG 0 0 bs).2.1, (numG 0 0 bs).2.2) := Prod.ext h0 rfl
    have := numG_eats e
    rw [if_pos h0] at h ⊢
    split at h
    · cases h
    · rename_i hn
      rw [if_neg hn]
      exact this
  · rw [if_neg h0] at h
    exact absurd h h0

theorem But.of_grown {w w' : World} {row : Option Nat} (h : w.grownBy w' row) : But row.toList w w' :=
  ⟨h.os, h.tape, h.output, h.size, fun k hk hn => h.block k hk (fun e => hn (by rw [← e]; simp))⟩
theorem SR.grown {w w' : World} {B x : Nat} {bs : List UInt8} {row : Option Nat} (h : SR w B x bs) (hg : w.grownBy w' row) (hr : ∀ k, row = some k → B < k) : SR w' B x bs :=
  h.but (But.of_grown hg) (fun y hy => hr y (by simpa using hy))

/-- Ints ahead of what others tell. -/
def joinI (xs : List Int) (q : Nat × List Int × List UInt8) : Nat × List Int × List UInt8 := if q.1 = 0 then (0, xs ++ q.2.1, q.2.2) else (q.1, [], [])
theorem joinI_nil (least most : Int) (n : Nat) (bs : List UInt8) : joinI [] (intsG least most n bs) = intsG least most n bs := by
  unfold joinI
  split
  · rename_i h
    rw [← h]
    simp
  · rename_i h
    cases n with
    | zero => exact absurd rfl h
    | succ n =>
      unfold intsG at h ⊢
      simp only at h ⊢
      split
      · rename_i h1
        rw [if_pos h1] at h
        split
        · rename_i h2
          rw [if_pos h2] at h
          exact absurd rfl h
        · rfl
      · rfl
theorem joinI_ok {least most : Int} {n : Nat} {bs : List UInt8} {xs : List Int} (h : (intT least most bs).1 = 0) : joinI xs (intsG least most (n + 1) bs) = joinI (xs ++ [(intT least most bs).2.1]) (intsG least most n (intT least most bs).2.2) := by
  have e : intsG least most (n + 1) bs = if (intsG least most n (intT least most bs).2.2).1 = 0 then (0, (intT least most bs).2.1 :: (intsG least most n (intT least most bs).2.2).2.1, (intsG least most n (intT least most bs).2.2).2.2) else ((intsG least most n (intT least most bs).2.2).1, [], []) := by
    show (if (intT least most bs).1 = 0 then _ else _) = _
    rw [if_pos h]
  rw [e]
  unfold joinI
  by_cases h1 : (intsG least most n (intT least most bs).2.2).1 = 0
  · rw [if_pos h1, if_pos h1]
    simp
  · rw [if_neg h1, if_neg h1]
    simp [h1]
theorem joinI_no {least most : Int} {n : Nat} {bs : List UInt8} {xs : List Int} (h : (intT least most bs).1 ≠ 0) : joinI xs (intsG least most (n + 1) bs) = ((intT least most bs).1, [], []) := by
  have e : intsG least most (n + 1) bs = ((intT least most bs).1, [], []) := by
    show (if (intT least most bs).1 = 0 then _ else _) = _
    rw [if_neg h]
  rw [e]
  simp [joinI, h]
theorem joinI_end (least most : Int) (bs : List UInt8) (xs : List Int) : joinI xs (intsG least most 0 bs) = (0, xs, bs) := by simp [joinI, intsG]

section
variable {B : Nat} {bs : List UInt8} {w : World} {b0 b1 b2 b3 : Nat}

end

end Go.Proofs.YteiidkojofaamaaDoor
