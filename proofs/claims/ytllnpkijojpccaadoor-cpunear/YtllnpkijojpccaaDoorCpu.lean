/- cpu, plain: contexts, what an instruction does, steps, runs. -/
import Derived.Test.YtllnpkijojpccaaDoorGood
namespace Go.Proofs.YtllnpkijojpccaaDoor
open Go Go.RowKit

/-- What a core has of a thread. -/
structure Cx where
  pg : Int
  pc : Int
  rs : Nat → Int
  dp : Int
def getR (c : Cx) (i : Int) : Int := if 0 ≤ i ∧ i ≤ 7 then c.rs i.toNat else 0
def putR (c : Cx) (i v : Int) : Cx := if 0 ≤ i ∧ i ≤ 7 then { c with rs := fun j => if j = i.toNat then v else c.rs j } else c
def toPC (c : Cx) (t : Int) : Cx := { c with pc := t }
def toDp (c : Cx) (d : Int) : Cx := { c with dp := d }
def oneI (b : Bool) : Int := match b with
  | true => 1
  | false => 0
def brC (c : Cx) (t : Int) (b : Bool) : Cx := match b with
  | true => toPC c t
  | false => c
/-- The depth behind Enter, and behind Leave. -/
def deepI (d : Int) : Int := wrap64 (d + oneI (decide (d < 8)))
def leaveI (d : Int) : Int := wrap64 (d - oneI (decide (0 < d)))
/-- What an instruction does, PC standing behind it: the context and the call. -/
def doC (x : Ins) (c : Cx) : Cx × Ins :=
  if x.1 = 0 then (c, z4)
  else if x.1 = 1 then (putR c x.2.1 x.2.2.1, z4)
  else if x.1 = 2 then (putR c x.2.1 (wrap64 (getR c x.2.1 + getR c x.2.2.1)), z4)
  else if x.1 = 3 then (putR c x.2.1 (wrap64 (getR c x.2.1 - getR c x.2.2.1)), z4)
  else if x.1 = 4 then (putR c x.2.1 (getR c x.2.2.1), z4)
  else if x.1 = 5 then (putR c x.2.1 (oneI (decide (getR c x.2.2.1 < getR c x.2.2.2))), z4)
  else if x.1 = 6 then (toPC c x.2.1, z4)
  else if x.1 = 7 then (brC c x.2.2.1 (getR c x.2.1 == 0), z4)
  else if x.1 = 8 then (brC (putR c x.2.1 (wrap64 (getR c x.2.1 - 1))) x.2.2.1 (getR (putR c x.2.1 (wrap64 (getR c x.2.1 - 1))) x.2.1 != 0), z4)
  else if x.1 = 9 then (toDp c (deepI c.dp), z4)
  else if x.1 = 10 then (toDp c (leaveI c.dp), z4)
  else if x.1 = 11 ∨ x.1 = 14 then (c, (x.1, getR c x.2.1, x.2.2.1, x.2.2.2))
  else (c, x)
/-- Operations that are calls, but Exit and Join, or none. -/
def Oth (op : Int) : Prop := op < 0 ∨ (12 ≤ op ∧ op ≠ 14)
theorem op_cases (op : Int) : op = 0 ∨ op = 1 ∨ op = 2 ∨ op = 3 ∨ op = 4 ∨ op = 5 ∨ op = 6 ∨ op = 7 ∨ op = 8 ∨ op = 9 ∨ op = 10 ∨ op = 11 ∨ op = 14 ∨ Oth op := by unfold Oth; omega
theorem doC_0 {x : Ins} (c : Cx) (h : x.1 = 0) : doC x c = (c, z4) := by
  unfold doC
  rw [if_pos h]
theorem doC_1 {x : Ins} (c : Cx) (h : x.1 = 1) : doC x c = (putR c x.2.1 x.2.2.1, z4) := by
  unfold doC
  rw [if_neg (by omega), if_pos h]
theorem doC_2 {x : Ins} (c : Cx) (h : x.1 = 2) : doC x c = (putR c x.2.1 (wrap64 (getR c x.2.1 + getR c x.2.2.1)), z4) := by
  unfold doC
  rw [if_neg (by omega), if_neg (by omega), if_pos h]
theorem doC_3 {x : Ins} (c : Cx) (h : x.1 = 3) : doC x c = (putR c x.2.1 (wrap64 (getR c x.2.1 - getR c x.2.2.1)), z4) := by
  unfold doC
  rw [if_neg (by omega), if_neg (by omega), if_neg (by omega), if_pos h]
theorem doC_4 {x : Ins} (c : Cx) (h : x.1 = 4) : doC x c = (putR c x.2.1 (getR c x.2.2.1), z4) := by
  unfold doC
  rw [if_neg (by omega), if_neg (by omega), if_neg (by omega), if_neg (by omega), if_pos h]
theorem doC_5 {x : Ins} (c : Cx) (h : x.1 = 5) : doC x c = (putR c x.2.1 (oneI (decide (getR c x.2.2.1 < getR c x.2.2.2))), z4) := by
  unfold doC
  rw [if_neg (by omega), if_neg (by omega), if_neg (by omega), if_neg (by omega), if_neg (by omega), if_pos h]
theorem doC_6 {x : Ins} (c : Cx) (h : x.1 = 6) : doC x c = (toPC c x.2.1, z4) := by
  unfold doC
  rw [if_neg (by omega), if_neg (by omega), if_neg (by omega), if_neg (by omega), if_neg (by omega), if_neg (by omega), if_pos h]
theorem doC_7 {x : Ins} (c : Cx) (h : x.1 = 7) : doC x c = (brC c x.2.2.1 (getR c x.2.1 == 0), z4) := by
  unfold doC
  rw [if_neg (by omega), if_neg (by omega), if_neg (by omega), if_neg (by omega), if_neg (by omega), if_neg (by omega), if_neg (by omega), if_pos h]
theorem doC_8 {x : Ins} (c : Cx) (h : x.1 = 8) : doC x c = (brC (putR c x.2.1 (wrap64 (getR c x.2.1 - 1))) x.2.2.1 (getR (putR c x.2.1 (wrap64 (getR c x.2.1 - 1))) x.2.1 != 0), z4) := by
  unfold doC
  rw [if_neg (by omega), if_neg (by omega), if_neg (by omega), if_neg (by omega), if_neg (by omega), if_neg (by omega), if_neg (by omega), if_neg (by omega), if_pos h]
theorem doC_9 {x : Ins} (c : Cx) (h : x.1 = 9) : doC x c = (toDp c (deepI c.dp), z4) := by
  unfold doC
  rw [if_neg (by omega), if_neg (by omega), if_neg (by omega), if_neg (by omega), if_neg (by omega), if_neg (by omega), if_neg (by omega), if_neg (by omega), if_neg (by omega), if_pos h]
theorem doC_10 {x : Ins} (c : Cx) (h : x.1 = 10) : doC x c = (toDp c (leaveI c.dp), z4) := by
  unfold doC
  rw [if_neg (by omega), if_neg (by omega), if_neg (by omega), if_neg (by omega), if_neg (by omega), if_neg (by omega), if_neg (by omega), if_neg (by omega), if_neg (by omega), if_neg (by omega), if_pos h]
theorem doC_call {x : Ins} (c : Cx) (h : x.1 = 11 ∨ x.1 = 14) : doC x c = (c, (x.1, getR c x.2.1, x.2.2.1, x.2.2.2)) := by
  unfold doC
  rw [if_neg (by omega), if_neg (by omega), if_neg (by omega), if_neg (by omega), if_neg (by omega), if_neg (by omega), if_neg (by omega), if_neg (by omega), if_neg (by omega), if_neg (by omega), if_neg (by omega), if_pos h]
theorem doC_oth {x : Ins} (c : Cx) (h : Oth x.1) : doC x c = (c, x) := by
  unfold Oth at h
  unfold doC
  rw [if_neg (by omega), if_neg (by omega), if_neg (by omega), if_neg (by omega), if_neg (by omega), if_neg (by omega), if_neg (by omega), if_neg (by omega), if_neg (by omega), if_neg (by omega), if_neg (by omega), if_neg (by omega)]
def e11 : Ins := (11, 0, 0, 0)
def stepC (ps : List Ins) (c : Cx) : Cx × Ins := if 0 ≤ c.pc ∧ c.pc < (ps.length : Int) then doC (ins ps c.pc.toNat) (toPC c (c.pc + 1)) else (c, e11)
/-- The code that a machine goes through. -/
def codeL (ps : List Ins) : List Ins := if wholeB ps then ps else []
/-- Steps, up to the first call or so many of them. -/
def runC (ps : List Ins) : Nat → Cx → Cx × Ins × Nat
  | 0, c => (c, z4, 0)
  | n + 1, c => if (stepC ps c).2.1 = 0 then ((runC ps n (stepC ps c).1).1, (runC ps n (stepC ps c).1).2.1, (runC ps n (stepC ps c).1).2.2 + 1) else ((stepC ps c).1, (stepC ps c).2, 1)

theorem getR_nat (c : Cx) {k : Nat} (h : k < 8) : getR c (k : Int) = c.rs k := by
  unfold getR
  rw [if_pos (by omega)]
  simp
theorem getR_out (c : Cx) {i : Int} (h : ¬ (0 ≤ i ∧ i ≤ 7)) : getR c i = 0 := by unfold getR; rw [if_neg h]
theorem putR_out (c : Cx) {i : Int} (h : ¬ (0 ≤ i ∧ i ≤ 7)) (v : Int) : putR c i v = c := by unfold putR; rw [if_neg h]
theorem getR_pc (c : Cx) (t i : Int) : getR (toPC c t) i = getR c i := rfl
/-- A depth that a machine's number is. -/
def Rg (c : Cx) : Prop := -9223372036854775808 ≤ c.dp ∧ c.dp ≤ 9223372036854775807
theorem wrap_in {z : Int} (h : -9223372036854775808 ≤ z) (h1 : z ≤ 9223372036854775807) : wrap64 z = z := by unfold wrap64; omega
theorem putR_dp (c : Cx) (i v : Int) : (putR c i v).dp = c.dp := by unfold putR; split <;> rfl
theorem putR_pg (c : Cx) (i v : Int) : (putR c i v).pg = c.pg := by unfold putR; split <;> rfl
theorem putR_pc (c : Cx) (i v : Int) : (putR c i v).pc = c.pc := by unfold putR; split <;> rfl
theorem wrap_rg (z : Int) : -9223372036854775808 ≤ wrap64 z ∧ wrap64 z ≤ 9223372036854775807 := by unfold wrap64; omega
theorem deep_rg {d : Int} (_ : -9223372036854775808 ≤ d ∧ d ≤ 9223372036854775807) : -9223372036854775808 ≤ deepI d ∧ deepI d ≤ 9223372036854775807 := wrap_rg _
theorem leave_rg {d : Int} (_ : -9223372036854775808 ≤ d ∧ d ≤ 9223372036854775807) : -9223372036854775808 ≤ leaveI d ∧ leaveI d ≤ 9223372036854775807 := wrap_rg _
theorem deep_in {d : Int} (h : -9223372036854775808 ≤ d ∧ d ≤ 9223372036854775807) : deepI d = if d < 8 then d + 1 else d := by
  unfold deepI
  by_cases e : d < 8
  · rw [if_pos e, decide_eq_true e]; exact wrap_in (by simp [oneI]; omega) (by simp [oneI]; omega)
  · rw [if_neg e, decide_eq_false e]; simp only [oneI, Int.add_zero]; exact wrap_in h.1 h.2
theorem leave_in {d : Int} (h : -9223372036854775808 ≤ d ∧ d ≤ 9223372036854775807) : leaveI d = if 0 < d then d - 1 else d := by
  unfold leaveI
  by_cases e : 0 < d
  · rw [if_pos e, decide_eq_true e]; exact wrap_in (by simp [oneI]; omega) (by simp [oneI]; omega)
  · rw [if_neg e, decide_eq_false e]; simp only [oneI, Int.sub_zero]; exact wrap_in h.1 h.2
theorem Rg.pc {c : Cx} (h : Rg c) (t : Int) : Rg (toPC c t) := h
theorem Rg.put {c : Cx} (h : Rg c) (i v : Int) : Rg (putR c i v) := by unfold Rg; rw [putR_dp]; exact h
theorem Rg.br {c : Cx} (h : Rg c) (t : Int) (b : Bool) : Rg (brC c t b) := by cases b <;> exact h
theorem Rg.do_ {c : Cx} (h : Rg c) (x : Ins) : Rg (doC x c).1 := by
  rcases op_cases x.1 with e | e | e | e | e | e | e | e | e | e | e | e | e | e
  · rw [doC_0 c e]
    exact h
  · rw [doC_1 c e]
    exact h.put _ _
  · rw [doC_2 c e]
    exact h.put _ _
  · rw [doC_3 c e]
    exact h.put _ _
  · rw [doC_4 c e]
    exact h.put _ _
  · rw [doC_5 c e]
    exact h.put _ _
  · rw [doC_6 c e]
    exact h.pc _
  · rw [doC_7 c e]
    exact h.br _ _
  · rw [doC_8 c e]
    exact (h.put _ _).br _ _
  · rw [doC_9 c e]
    exact deep_rg h
  · rw [doC_10 c e]
    exact leave_rg h
  · rw [doC_call c (.inl e)]; exact h
  · rw [doC_call c (.inr e)]; exact h
  · rw [doC_oth c e]; exact h
theorem Rg.step {c : Cx} (h : Rg c) (ps : List Ins) : Rg (stepC ps c).1 := by
  unfold stepC
  split
  · exact Rg.do_ (c := toPC c (c.pc + 1)) h _
  · exact h

theorem doC_kind (x : Ins) (c : Cx) : ((doC x c).2 = z4 ∧ 0 ≤ x.1 ∧ x.1 ≤ 10) ∨ ((doC x c).2.1 = x.1 ∧ (x.1 < 0 ∨ 11 ≤ x.1)) := by
  rcases op_cases x.1 with e | e | e | e | e | e | e | e | e | e | e | e | e | e
  · rw [doC_0 c e]; exact .inl ⟨rfl, by omega⟩
  · rw [doC_1 c e]; exact .inl ⟨rfl, by omega⟩
  · rw [doC_2 c e]; exact .inl ⟨rfl, by omega⟩
  · rw [doC_3 c e]; exact .inl ⟨rfl, by omega⟩
  · rw [doC_4 c e]; exact .inl ⟨rfl, by omega⟩
  · rw [doC_5 c e]; exact .inl ⟨rfl, by omega⟩
  · rw [doC_6 c e]; exact .inl ⟨rfl, by omega⟩
  · rw [doC_7 c e]; exact .inl ⟨rfl, by omega⟩
  · rw [doC_8 c e]; exact .inl ⟨rfl, by omega⟩
  · rw [doC_9 c e]; exact .inl ⟨rfl, by omega⟩
  · rw [doC_10 c e]; exact .inl ⟨rfl, by omega⟩
  · rw [doC_call c (.inl e)]; exact .inr ⟨rfl, by omega⟩
  · rw [doC_call c (.inr e)]; exact .inr ⟨rfl, by omega⟩
  · rw [doC_oth c e]; exact .inr ⟨rfl, by unfold Oth at e; omega⟩

theorem codeL_good {ps : List Ins} {i : Nat} (h : i < (codeL ps).length) : opB (ins (codeL ps) i).1 = true := by
  unfold codeL at *
  split at h
  · rename_i hw
    rw [if_pos hw]
    have := (wholeB_iff.1 hw).2 i h
    unfold goodB at this
    simp only [Bool.and_eq_true] at this
    exact this.1
  · simp at h
/-- A step of code that is good: no call, or one. -/
theorem step_kind (ps : List Ins) (c : Cx) : ((stepC (codeL ps) c).2 = z4) ∨ (11 ≤ (stepC (codeL ps) c).2.1 ∧ (stepC (codeL ps) c).2.1 ≤ 26) := by
  unfold stepC
  split
  · rename_i h
    have hg := codeL_good (ps := ps) (i := c.pc.toNat) (by omega)
    have := opB_iff.1 hg
    rcases doC_kind (ins (codeL ps) c.pc.toNat) (toPC c (c.pc + 1)) with h1 | h1
    · exact .inl h1.1
    · right; rw [h1.1]; omega
  · exact .inr ⟨(by decide : (11 : Int) ≤ 11), (by decide : (11 : Int) ≤ 26)⟩
theorem step_zero {ps : List Ins} {c : Cx} (h : (stepC (codeL ps) c).2.1 = 0) : (stepC (codeL ps) c).2 = z4 := by
  rcases step_kind ps c with h1 | h1
  · exact h1
  · omega
theorem codeL_len (ps : List Ins) : (codeL ps).length ≤ 64 := by
  unfold codeL
  split
  · rename_i h; exact (wholeB_iff.1 h).1
  · simp

end Go.Proofs.YtllnpkijojpccaaDoor
