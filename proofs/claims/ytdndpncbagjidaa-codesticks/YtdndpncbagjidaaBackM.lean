/- What was put is got: plain lists. -/
import Derived.Test.YtdndpncbagjidaaOpens
namespace Go.Proofs.Ytdndpncbagjidaa
open Go.RowKit

/-- The bytes of a value. -/
def putL (x : Vl) : List UInt8 :=
  if x.k = 0 then numL x.n.toNat else if x.k = 1 then numL (zigN x.i) else if x.k = 2 then numL x.s.size ++ x.s.data.toList else if x.k = 3 then [if decide (0 < x.i) then 1 else 0] else if x.k = 4 then intsL x.l else [UInt8.ofNat (x.n.toNat % 256)]
def putsL (xs : List Vl) : List UInt8 := xs.flatMap putL
theorem putsL_cons (x : Vl) (xs : List Vl) : putsL (x :: xs) = putL x ++ putsL xs := rfl
theorem putsL_snoc {xs : List Vl} {j : Nat} {x : Vl} (h : xs[j]? = some x) : putsL (xs.take (j + 1)) = putsL (xs.take j) ++ putL x := by
  have : xs.take (j + 1) = xs.take j ++ [x] := by rw [List.take_add_one, h]; rfl
  rw [this]
  simp [putsL]
theorem putsL_drop {xs : List Vl} {j : Nat} {x : Vl} (h : xs[j]? = some x) : putsL (xs.drop j) = putL x ++ putsL (xs.drop (j + 1)) := by
  obtain ⟨hj, e⟩ := List.getElem?_eq_some_iff.1 h
  rw [List.drop_eq_getElem_cons hj, e, putsL_cons]
/-- Not too long. -/
def Vl.fit (x : Vl) : Prop := x.s.size ≤ 200 ∧ x.l.length ≤ 50
theorem putL_len {x : Vl} (h : x.fit) : (putL x).length ≤ 600 := by
  unfold putL
  have h0 := numL_len x.n.toNat
  have h1 := numL_len (zigN x.i)
  have h2 := numL_len x.s.size
  have h3 := numL_len x.l.length
  have h4 := intsF_len x.l
  have h5 : x.s.data.toList.length = x.s.size := by simp
  have h6 := h.1
  have h7 := h.2
  repeat' split
  all_goals (try unfold intsL); (try simp only [List.length_append, List.length_cons, List.length_nil]); omega
theorem putsL_len : ∀ xs : List Vl, (∀ x ∈ xs, x.fit) → (putsL xs).length ≤ 600 * xs.length
  | [], _ => by simp [putsL]
  | x :: xs, h => by
    have h1 := putL_len (h x (by simp))
    have h2 := putsL_len xs (fun y hy => h y (by simp [hy]))
    rw [putsL_cons, List.length_append, List.length_cons]
    omega

theorem numT_put {n most : Nat} (hn : n < 2 ^ 64) (hm : n ≤ most) (t : List UInt8) : numT most (numL n ++ t) = (0, n, t) := by
  unfold numT
  simp only [numG_put hn t]
  rw [if_pos trivial, if_neg (by omega)]
theorem intT_put {i least most : Int} (hi : I64 i) (h1 : least ≤ i) (h2 : i ≤ most) (t : List UInt8) : intT least most (numL (zigN i) ++ t) = (0, i, t) := by
  unfold intT
  simp only [numG_put (zigN_lt hi.1 hi.2) t, unzig_zig]
  rw [if_pos trivial, if_neg (by omega)]
theorem textT_put {l t : List UInt8} {most : Int} (h : (l.length : Int) ≤ most) (h2 : l.length < 2 ^ 64) : textT most (numL l.length ++ (l ++ t)) = (0, l, t) := by
  unfold textT
  simp only [numT_put h2 (show l.length ≤ upN most by unfold upN; omega) (l ++ t)]
  rw [if_pos trivial, if_neg (by rw [List.length_append]; omega), List.take_left, List.drop_left]
theorem flagT_put (f : Bool) (t : List UInt8) : flagT ([if f then 1 else 0] ++ t) = (0, f, t) := by
  cases f <;> simp [flagT]
theorem byteT_put (c : UInt8) (t : List UInt8) : byteT ([c] ++ t) = (0, c, t) := rfl
theorem intsG_put {least most : Int} (t : List UInt8) : ∀ l : List Int, (∀ x ∈ l, I64 x ∧ least ≤ x ∧ x ≤ most) → intsG least most l.length (intsF l ++ t) = (0, l, t)
  | [], _ => rfl
  | x :: l, h => by
    obtain ⟨h1, h2, h3⟩ := h x (by simp)
    rw [intsF_cons, List.append_assoc, List.length_cons]
    have e := intT_put h1 h2 h3 (intsF l ++ t)
    show (if (intT least most _).1 = 0 then _ else _) = _
    rw [e]
    simp only
    rw [if_pos trivial, intsG_put t l (fun y hy => h y (by simp [hy]))]
    rfl
theorem intsT_put {l : List Int} {count least most : Int} (t : List UInt8) (hl : (l.length : Int) ≤ count) (h64 : l.length < 2 ^ 64) (h : ∀ x ∈ l, I64 x ∧ least ≤ x ∧ x ≤ most) : intsT count least most (intsL l ++ t) = (0, l, t) := by
  unfold intsT intsL
  rw [List.append_assoc]
  simp only [numT_put h64 (show l.length ≤ upN count by unfold upN; omega) (intsF l ++ t)]
  rw [if_pos trivial, intsG_put t l h]
theorem getS_ok {α : Type} {f : List UInt8 → Nat × α × List UInt8} {z v : α} {bs t : List UInt8} (h : f bs = (0, v, t)) : getS f z (0, bs) = (v, 0, t) := by
  unfold getS
  rw [if_pos rfl, h]

end Go.Proofs.Ytdndpncbagjidaa
