/- Events, plain: their numbers, which may be, rows of them, how many go into one upcall. -/
import Derived.Test.YtcffmdimfmpheaaDoorCByt
namespace Go.Proofs.YtcffmdimfmpheaaDoor
open Go

/-- An event. -/
structure Ev where
  kd : Int
  ac : Int
  th : Int
  va : Int
  pg : Int
  pc : Int
  rs : Nat → Int
  dp : Int
def z15 : Ev := ⟨0, 0, 0, 0, 0, 0, fun _ => 0, 0⟩
/-- Its numbers, in their order; those of its context. -/
def evI (e : Ev) : List Int := [e.kd, e.ac, e.th, e.va, e.pg, e.pc, e.rs 0, e.rs 1, e.rs 2, e.rs 3, e.rs 4, e.rs 5, e.rs 6, e.rs 7, e.dp]
def cxI (e : Ev) : List Int := [e.pg, e.pc, e.rs 0, e.rs 1, e.rs 2, e.rs 3, e.rs 4, e.rs 5, e.rs 6, e.rs 7, e.dp]
def eqE (a b : Ev) : Bool := decide (evI a = evI b)
/-- All are machine's numbers. -/
def RgE (e : Ev) : Prop := ∀ x ∈ evI e, -9223372036854775808 ≤ x ∧ x ≤ 9223372036854775807
def ev (xs : List Ev) (j : Nat) : Ev := xs.getD j z15
theorem ev_get {xs : List Ev} {j : Nat} (h : j < xs.length) : xs[j]? = some (ev xs j) := by
  unfold ev
  rw [List.getD_eq_getElem?_getD, List.getElem?_eq_getElem h]
  rfl
theorem ev_of {xs : List Ev} {j : Nat} {e : Ev} (h : xs[j]? = some e) : ev xs j = e := by
  unfold ev
  rw [List.getD_eq_getElem?_getD, h]
  rfl
theorem ev_mem {xs : List Ev} {j : Nat} (h : j < xs.length) : ev xs j ∈ xs := List.mem_of_getElem? (ev_get h)
theorem ev_take {xs : List Ev} {j k : Nat} (h : j < k) : ev (xs.take k) j = ev xs j := by
  unfold ev
  rw [List.getD_eq_getElem?_getD, List.getD_eq_getElem?_getD, List.getElem?_take_of_lt h]
theorem ev_drop (xs : List Ev) (j k : Nat) : ev (xs.drop k) j = ev xs (k + j) := by
  unfold ev
  rw [List.getD_eq_getElem?_getD, List.getD_eq_getElem?_getD, List.getElem?_drop]
/-- Are two rows alike? -/
def sameB (xs ys : List Ev) : Bool := decide (xs.map evI = ys.map evI)
theorem sameB_refl (xs : List Ev) : sameB xs xs = true := by simp [sameB]
theorem sameB_len {xs ys : List Ev} (h : xs.length ≠ ys.length) : sameB xs ys = false := by
  unfold sameB
  refine decide_eq_false fun e => h ?_
  have := congrArg List.length e
  simpa using this
theorem sameB_at {xs ys : List Ev} {j : Nat} (h : j < xs.length) (hy : j < ys.length) (he : eqE (ev xs j) (ev ys j) = false) : sameB xs ys = false := by
  unfold sameB
  refine decide_eq_false fun e => ?_
  have := congrArg (fun l => l[j]?) e
  simp only [List.getElem?_map, ev_get h, ev_get hy, Option.map_some, Option.some.injEq] at this
  unfold eqE at he
  rw [decide_eq_true this] at he
  cases he
theorem sameB_all {xs ys : List Ev} (hl : xs.length = ys.length) (h : ∀ j, j < xs.length → eqE (ev xs j) (ev ys j) = true) : sameB xs ys = true := by
  unfold sameB
  refine decide_eq_true (List.ext_getElem? fun j => ?_)
  rw [List.getElem?_map, List.getElem?_map]
  by_cases hj : j < xs.length
  · rw [ev_get hj, ev_get (by omega : j < ys.length)]
    simp only [Option.map_some, Option.some.injEq]
    exact of_decide_eq_true (h j hj)
  · rw [List.getElem?_eq_none (by omega), List.getElem?_eq_none (by omega)]

/-- Is it a Preempted one? -/
def preB (e : Ev) : Bool := decide (e.kd = 2)
/-- The first k of xs go into one upcall, of m at most. -/
structure Cnt (m : Nat) (xs : List Ev) (k : Nat) : Prop where
  len : k ≤ xs.length
  most : k ≤ m
  pre : ∀ j, j + 1 < k → preB (ev xs j) = false
  stop : k = xs.length ∨ k = m ∨ (0 < k ∧ preB (ev xs (k - 1)) = true)
theorem Cnt.uniq {m : Nat} {xs : List Ev} {k l : Nat} (h : Cnt m xs k) (g : Cnt m xs l) (hk : 0 < xs.length → 0 < k) (hl : 0 < xs.length → 0 < l) : k = l := by
  have key : ∀ {a b : Nat}, Cnt m xs a → Cnt m xs b → (0 < xs.length → 0 < a) → ¬ a < b := fun {a b} ha hb h0 hlt => by
    have h1 := hb.len
    have h2 := hb.most
    rcases ha.stop with h | h | ⟨h3, h4⟩
    · omega
    · omega
    · have := hb.pre (a - 1) (by omega)
      rw [this] at h4
      cases h4
  have k1 := key h g hk
  have k2 := key g h hl
  omega

/-- What may be. -/
def kindB (k : Int) : Bool := decide (1 ≤ k) && decide (k ≤ 7)
def thrB (k : Int) : Bool := decide (2 ≤ k ∧ k ≤ 4)
def valB (k : Int) : Bool := decide (4 ≤ k ∧ k ≤ 5)
def inB (l m n : Int) : Bool := decide (l ≤ n) && decide (n ≤ m)
def actB (k n : Int) : Bool := if k = 5 then inB 0 0 n else inB 1 1099511627776 n
def thB (k n : Int) : Bool := if thrB k then inB 1 1099511627776 n else inB 0 0 n
def vaB (k n : Int) : Bool := if valB k then inB 0 1000 n else inB 0 0 n
def zC : List Int := [0, 0, 0, 0, 0, 0, 0, 0, 0, 0, 0]
def cxB (e : Ev) : Bool := if e.kd = 2 then inB 0 7 e.pg && (inB 0 64 e.pc && inB 0 8 e.dp) else decide (cxI e = zC)
def goodE (e : Ev) : Bool := kindB e.kd && (actB e.kd e.ac && (thB e.kd e.th && (vaB e.kd e.va && cxB e)))

/-- Its bytes. -/
def regL (e : Ev) : List UInt8 := intsF [e.rs 0, e.rs 1, e.rs 2, e.rs 3, e.rs 4, e.rs 5, e.rs 6, e.rs 7]
def numI (n : Int) : List UInt8 := numL n.toNat
def thL (e : Ev) : List UInt8 := if thrB e.kd then numI e.th else []
def vaL (e : Ev) : List UInt8 := if valB e.kd then numI e.va else []
def cxL (e : Ev) : List UInt8 := if e.kd = 2 then numI e.pg ++ (numI e.pc ++ (numI e.dp ++ regL e)) else []
def byt (e : Ev) : List UInt8 := UInt8.ofNat e.kd.toNat :: (numI e.ac ++ (thL e ++ (vaL e ++ cxL e)))
def bytE (e : Ev) : List UInt8 := if goodE e then byt e else []
def allE (xs : List Ev) : List UInt8 := if xs.length ≤ 1024 ∧ xs.all goodE = true then numL xs.length ++ xs.flatMap byt else []
end Go.Proofs.YtcffmdimfmpheaaDoor
