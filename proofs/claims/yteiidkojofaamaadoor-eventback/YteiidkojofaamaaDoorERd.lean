/- Events of bytes, plain: what reading tells, and that it is the one row of which they are the bytes. -/
import Derived.Test.YteiidkojofaamaaDoorEAll
import Derived.Test.YteiidkojofaamaaDoorCSrc
namespace Go.Proofs.YteiidkojofaamaaDoor
open Go

abbrev St := Nat × List UInt8
/-- A number of an event is set. -/
def eset (e : Ev) (k : Nat) (v : Int) : Ev :=
  match k with
  | 0 => { e with kd := v }
  | 1 => { e with ac := v }
  | 2 => { e with th := v }
  | 3 => { e with va := v }
  | 4 => { e with pg := v }
  | 5 => { e with pc := v }
  | 14 => { e with dp := v }
  | k => { e with rs := fun j => if j = k - 6 then v else e.rs j }
def gN (M : Nat) (st : St) : Int × St := (((getS (numT M) 0 st).1 : Int), (getS (numT M) 0 st).2)
def gI (st : St) : Int × St := getS (intT (-9223372036854775808) 9223372036854775807) 0 st
/-- A number that is got, no more than the greatest int. -/
def gC (M : Nat) (st : St) : Int × St := (min (gN M st).1 9223372036854775807, (gN M st).2)
/-- Numbers, one behind the other. -/
def fillN (M : Nat) : List Nat → Ev → St → Ev × St
  | [], e, st => (e, st)
  | k :: q, e, st => fillN M q (eset e k (gC M st).1) (gC M st).2
def fillI : List Nat → Ev → St → Ev × St
  | [], e, st => (e, st)
  | k :: q, e, st => fillI q (eset e k (gI st).1) (gI st).2
/-- Which numbers a kind has; which registers. -/
def hq (k : Nat) : List Nat := [[], [1], [1, 2, 4, 5, 14], [1, 2], [1, 2, 3], [1, 3], [1], [1]].getD k []
def rq (k : Nat) : List Nat := if k = 2 then [6, 7, 8, 9, 10, 11, 12, 13] else []
def e0 (k : Nat) : Ev := ⟨(k : Int), 0, 0, 0, 0, 0, fun _ => 0, 0⟩
def nextE (M : Nat) (st : St) : Ev × St :=
  fillI (rq (getS byteT 0 st).1.toNat) (fillN M (hq (getS byteT 0 st).1.toNat) (e0 (getS byteT 0 st).1.toNat) (getS byteT 0 st).2).1 (fillN M (hq (getS byteT 0 st).1.toNat) (e0 (getS byteT 0 st).1.toNat) (getS byteT 0 st).2).2
/-- Events, one behind the other, that all may be, and then nothing. -/
def rd (M : Nat) : Nat → St → List Ev → Option (List Ev)
  | 0, st, xs => if st = (0, []) then some xs else none
  | n + 1, st, xs => if goodE (nextE M st).1 then rd M n (nextE M st).2 (xs ++ [(nextE M st).1]) else none
def readE (M : Nat) (bs : List UInt8) : Option (List Ev) := rd M (getS (numT 1024) 0 (0, bs)).1 (getS (numT 1024) 0 (0, bs)).2 []

theorem fillN_app (M : Nat) : ∀ (a b : List Nat) (e : Ev) (st : St), fillN M (a ++ b) e st = fillN M b (fillN M a e st).1 (fillN M a e st).2
  | [], b, e, st => rfl
  | k :: a, b, e, st => by
    show fillN M (a ++ b) _ _ = _
    rw [fillN_app M a b]
    rfl
theorem fillN_succ (M : Nat) {q : List Nat} {j k : Nat} (h : q[j]? = some k) (e : Ev) (st : St) :
    fillN M (q.take (j + 1)) e st = (eset (fillN M (q.take j) e st).1 k (gC M (fillN M (q.take j) e st).2).1, (gC M (fillN M (q.take j) e st).2).2) := by
  rw [List.take_add_one, h, fillN_app]
  rfl
theorem fillI_app : ∀ (a b : List Nat) (e : Ev) (st : St), fillI (a ++ b) e st = fillI b (fillI a e st).1 (fillI a e st).2
  | [], b, e, st => rfl
  | k :: a, b, e, st => by
    show fillI (a ++ b) _ _ = _
    rw [fillI_app a b]
    rfl
theorem fillI_succ {q : List Nat} {j k : Nat} (h : q[j]? = some k) (e : Ev) (st : St) :
    fillI (q.take (j + 1)) e st = (eset (fillI (q.take j) e st).1 k (gI (fillI (q.take j) e st).2).1, (gI (fillI (q.take j) e st).2).2) := by
  rw [List.take_add_one, h, fillI_app]
  rfl

/-- Of numbers that were put. -/
theorem gN_put {M : Nat} {n : Int} (h0 : 0 ≤ n) (h : n.toNat ≤ M) (h64 : n.toNat < 2 ^ 64) (t : List UInt8) : gN M (0, numI n ++ t) = (n, (0, t)) := by
  have e : numT M (numI n ++ t) = (0, n.toNat, t) := by
    unfold numT numI
    rw [numG_put h64]
    simp
    omega
  unfold gN getS
  rw [if_pos rfl]
  rw [e]
  simp
  omega
theorem gI_put {n : Int} (h : -9223372036854775808 ≤ n ∧ n ≤ 9223372036854775807) (t : List UInt8) : gI (0, numL (zigN n) ++ t) = (n, (0, t)) := by
  have e : intT (-9223372036854775808) 9223372036854775807 (numL (zigN n) ++ t) = (0, n, t) := by
    unfold intT
    rw [numG_put (zigN_lt h.1 h.2)]
    simp only [unzig_zig, if_true]
    rw [if_neg (by omega)]
  unfold gI getS
  rw [if_pos rfl, e]
/-- What was got was put. -/
theorem gN_back {M : Nat} {st : St} {n : Int} {t : List UInt8} (h : gN M st = (n, (0, t))) : st = (0, numI n ++ t) ∧ 0 ≤ n ∧ n.toNat ≤ M := by
  obtain ⟨x, bs⟩ := st
  unfold gN getS at h
  by_cases h0 : x = 0
  · subst h0
    rw [if_pos rfl] at h
    simp only [Prod.mk.injEq] at h
    obtain ⟨h1, h2, h3⟩ := h
    unfold numT at h1 h2 h3
    by_cases hz : (numG 0 0 bs).1 = 0
    · rw [if_pos hz] at h1 h2 h3
      by_cases hm : M < (numG 0 0 bs).2.1
      · rw [if_pos hm] at h2
        cases h2
      · rw [if_neg hm] at h1 h2 h3
        have hb := (numG_back (x := bs) (t := t) (n := (numG 0 0 bs).2.1) (by rw [← h3]; ext <;> simp [hz])).1
        have hn : n.toNat = (numG 0 0 bs).2.1 := by omega
        refine ⟨?_, by omega, by omega⟩
        unfold numI
        rw [hn, ← hb]
    · rw [if_neg hz] at h2
      exact absurd h2 hz
  · rw [if_neg h0] at h
    simp only [Prod.mk.injEq] at h
    exact absurd h.2.1 h0
theorem gI_back {st : St} {n : Int} {t : List UInt8} (h : gI st = (n, (0, t))) : st = (0, numL (zigN n) ++ t) ∧ -9223372036854775808 ≤ n ∧ n ≤ 9223372036854775807 := by
  obtain ⟨x, bs⟩ := st
  unfold gI getS at h
  by_cases h0 : x = 0
  · subst h0
    rw [if_pos rfl] at h
    simp only [Prod.mk.injEq] at h
    obtain ⟨h1, h2, h3⟩ := h
    unfold intT at h1 h2 h3
    by_cases hz : (numG 0 0 bs).1 = 0
    · rw [if_pos hz] at h1 h2 h3
      by_cases hm : unzig (numG 0 0 bs).2.1 < -9223372036854775808 ∨ 9223372036854775807 < unzig (numG 0 0 bs).2.1
      · rw [if_pos hm] at h2
        cases h2
      · rw [if_neg hm] at h1 h2 h3
        have hb := (numG_back (x := bs) (t := t) (n := (numG 0 0 bs).2.1) (by rw [← h3]; ext <;> simp [hz])).1
        have hn : zigN n = (numG 0 0 bs).2.1 := by rw [← h1]; exact zig_unzig _
        refine ⟨?_, by simp at h1; omega, by simp at h1; omega⟩
        rw [hn, ← hb]
    · rw [if_neg hz] at h2
      exact absurd h2 hz
  · rw [if_neg h0] at h
    simp only [Prod.mk.injEq] at h
    exact absurd h.2.1 h0
theorem gN_le (M : Nat) (st : St) : 0 ≤ (gN M st).1 ∧ (gN M st).1 ≤ (M : Int) := by
  unfold gN getS
  by_cases h0 : st.1 = 0
  · rw [if_pos h0]
    refine ⟨by simp, ?_⟩
    show (((numT M st.2).2.1 : Nat) : Int) ≤ _
    unfold numT
    by_cases hz : (numG 0 0 st.2).1 = 0
    · rw [if_pos hz]
      by_cases hm : M < (numG 0 0 st.2).2.1
      · rw [if_pos hm]
        simp
      · rw [if_neg hm]
        omega
    · rw [if_neg hz, numG_err _ _ _ hz]
      simp
  · rw [if_neg h0]
    simp
theorem gI_in (st : St) : -9223372036854775808 ≤ (gI st).1 ∧ (gI st).1 ≤ 9223372036854775807 := by
  unfold gI getS
  by_cases h0 : st.1 = 0
  · rw [if_pos h0]
    show _ ≤ (intT _ _ st.2).2.1 ∧ (intT _ _ st.2).2.1 ≤ _
    unfold intT
    by_cases hz : (numG 0 0 st.2).1 = 0
    · rw [if_pos hz]
      by_cases hm : unzig (numG 0 0 st.2).2.1 < -9223372036854775808 ∨ 9223372036854775807 < unzig (numG 0 0 st.2).2.1
      · rw [if_pos hm]
        exact ⟨by show (-9223372036854775808 : Int) ≤ 0; omega, by show (0 : Int) ≤ 9223372036854775807; omega⟩
      · rw [if_neg hm]
        constructor
        · show -9223372036854775808 ≤ unzig (numG 0 0 st.2).2.1
          omega
        · show unzig (numG 0 0 st.2).2.1 ≤ 9223372036854775807
          omega
    · rw [if_neg hz]
      exact ⟨by show (-9223372036854775808 : Int) ≤ 0; omega, by show (0 : Int) ≤ 9223372036854775807; omega⟩
  · rw [if_neg h0]
    exact ⟨by show (-9223372036854775808 : Int) ≤ 0; omega, by show (0 : Int) ≤ 9223372036854775807; omega⟩
/-- An error stays. -/
theorem gN_err {M : Nat} {st : St} (h : (gN M st).2.1 = 0) : st.1 = 0 := by
  unfold gN getS at h
  by_cases h0 : st.1 = 0
  · exact h0
  · rw [if_neg h0] at h
    exact h
theorem gI_err {st : St} (h : (gI st).2.1 = 0) : st.1 = 0 := by
  unfold gI getS at h
  by_cases h0 : st.1 = 0
  · exact h0
  · rw [if_neg h0] at h
    exact h
theorem gC_err {M : Nat} {st : St} (h : (gC M st).2.1 = 0) : st.1 = 0 := gN_err h
theorem gC_put {M : Nat} {n : Int} (h0 : 0 ≤ n) (h : n.toNat ≤ M) (h63 : n.toNat < 2 ^ 63) (t : List UInt8) : gC M (0, numI n ++ t) = (n, (0, t)) := by
  unfold gC
  rw [gN_put h0 h (by omega)]
  ext
  · show min n 9223372036854775807 = n
    omega
  · rfl
  · rfl
theorem gC_back {M : Nat} {st : St} {n : Int} {t : List UInt8} (h : gC M st = (n, (0, t))) (hn : n < 9223372036854775807) : st = (0, numI n ++ t) ∧ 0 ≤ n := by
  unfold gC at h
  simp only [Prod.mk.injEq] at h
  have hn' : (gN M st).1 = n := by omega
  have := gN_back (M := M) (st := st) (n := n) (t := t) (by rw [← hn']; exact Prod.ext rfl h.2)
  exact ⟨this.1, this.2.1⟩
theorem gC_le (M : Nat) (st : St) : 0 ≤ (gC M st).1 ∧ (gC M st).1 ≤ 9223372036854775807 := by
  have := (gN_le M st).1
  unfold gC
  dsimp only
  omega
theorem fillN_err {M : Nat} : ∀ {q : List Nat} {e : Ev} {st : St}, (fillN M q e st).2.1 = 0 → st.1 = 0
  | [], _, _, h => h
  | _ :: _, _, _, h => gC_err (fillN_err h)
theorem fillI_err : ∀ {q : List Nat} {e : Ev} {st : St}, (fillI q e st).2.1 = 0 → st.1 = 0
  | [], _, _, h => h
  | _ :: _, _, _, h => gI_err (fillI_err h)
end Go.Proofs.YteiidkojofaamaaDoor
