/- Instructions, plain: names, shapes, which numbers may be, which are used. -/
import Derived.Test.YtjgclehghnmhnaaDoorCByt
namespace Go.Proofs.YtjgclehghnmhnaaDoor

/-- An instruction: its operation and three numbers. -/
abbrev Ins := Int × Int × Int × Int
def z4 : Ins := (0, 0, 0, 0)
/-- An instruction by its place. -/
def ins (xs : List Ins) (i : Nat) : Ins := xs.getD i z4
theorem ins_get {xs : List Ins} {i : Nat} (h : i < xs.length) : xs[i]? = some (ins xs i) := by
  unfold ins
  rw [List.getD_eq_getElem?_getD, List.getElem?_eq_getElem h, Option.getD_some]
theorem ins_at {xs : List Ins} {i : Nat} {x : Ins} (h : xs[i]? = some x) : ins xs i = x := by
  unfold ins
  rw [List.getD_eq_getElem?_getD, h, Option.getD_some]

/-- Names and shapes. -/
def nmT : List (List UInt8) := [[110, 111, 112], [115, 101, 116], [97, 100, 100], [115, 117, 98], [99, 111, 112, 121], [108, 101, 115, 115], [106, 117, 109, 112], [122, 101, 114, 111], [108, 111, 111, 112], [101, 110, 116, 101, 114], [108, 101, 97, 118, 101], [101, 120, 105, 116], [121, 105, 101, 108, 100], [115, 112, 97, 119, 110], [106, 111, 105, 110], [108, 111, 99, 107], [117, 110, 108, 111, 99, 107], [119, 97, 105, 116], [115, 105, 103, 110, 97, 108], [99, 97, 115, 116], [100, 111, 119, 110], [117, 112], [115, 108, 101, 101, 112], [114, 101, 97, 100], [119, 114, 105, 116, 101], [115, 101, 108, 102], [116, 105, 109, 101]]
def shT : List (List UInt8) := [[45, 45, 45], [114, 118, 45], [114, 114, 45], [114, 114, 45], [114, 114, 45], [114, 114, 114], [116, 45, 45], [114, 116, 45], [114, 116, 45], [45, 45, 45], [45, 45, 45], [114, 45, 45], [45, 45, 45], [112, 107, 114], [114, 45, 114], [111, 45, 45], [111, 45, 45], [111, 111, 45], [111, 45, 45], [111, 45, 45], [111, 45, 45], [111, 45, 45], [110, 45, 45], [115, 45, 114], [115, 45, 114], [45, 45, 114], [45, 45, 114]]
/-- Is it an operation? -/
def opB (op : Int) : Bool := decide (0 ≤ op) && decide (op ≤ 26)
def nmL (op : Int) : List UInt8 := if opB op then nmT.getD op.toNat [] else []
def shL (op : Int) : List UInt8 := if opB op then shT.getD op.toNat [] else []
/-- A letter of a shape. -/
def sc (op : Int) (k : Nat) : Nat := ((shL op).getD k 0).toNat
theorem opB_iff {op : Int} : opB op = true ↔ 0 ≤ op ∧ op ≤ 26 := by simp [opB]
theorem opB_not {op : Int} : opB op = false ↔ op < 0 ∨ 26 < op := by
  have := @opB_iff op
  cases h : opB op with
  | true => simp [h] at this; simp; omega
  | false => simp [h] at this; simp; omega
theorem opB_nat {op : Int} (h : opB op = true) : ∃ k : Nat, op = (k : Int) ∧ k < 27 := ⟨op.toNat, by have := opB_iff.1 h; omega, by have := opB_iff.1 h; omega⟩
theorem nmL_nat {k : Nat} (h : k < 27) : nmL (k : Int) = nmT.getD k [] := by
  unfold nmL
  rw [if_pos (opB_iff.2 (by omega))]
  simp
theorem shL_nat {k : Nat} (h : k < 27) : shL (k : Int) = shT.getD k [] := by
  unfold shL
  rw [if_pos (opB_iff.2 (by omega))]
  simp
theorem nmL_out {op : Int} (h : opB op = false) : nmL op = [] := by unfold nmL; rw [h]; rfl
theorem shL_out {op : Int} (h : opB op = false) : shL op = [] := by unfold shL; rw [h]; rfl
theorem three_of : ∀ k : Fin 27, (shT.getD k.1 []).length = 3 := by decide
theorem shL_len {op : Int} (h : opB op = true) : (shL op).length = 3 := by
  obtain ⟨k, rfl, hk⟩ := opB_nat h
  rw [shL_nat hk]
  exact three_of ⟨k, hk⟩
theorem shL_three {op : Int} (h : opB op = true) : ∃ c0 c1 c2, shL op = [c0, c1, c2] := by
  have := shL_len h
  match hs : shL op, this with
  | [c0, c1, c2], _ => exact ⟨c0, c1, c2, rfl⟩
theorem sc_lt (op : Int) (k : Nat) : sc op k < 256 := by unfold sc; exact UInt8.toNat_lt _

/-- What a letter allows, in a program of n instructions. -/
def bdL (c : Nat) (n : Int) : Int × Int :=
  if c = 114 then (0, 7) else if c = 118 then (-1099511627776, 1099511627776) else if c = 116 then (0, n) else if c = 112 then (0, 7) else if c = 107 then (1, 65536) else if c = 111 then (0, 3) else if c = 110 then (1, 1000) else if c = 115 then (0, 1000) else (0, 0)
def mayB (c : Nat) (v n : Int) : Bool := decide ((bdL c n).1 ≤ v) && decide (v ≤ (bdL c n).2)
/-- The k-th number. -/
def nk (x : Ins) : Nat → Int
  | 0 => x.2.1
  | 1 => x.2.2.1
  | _ => x.2.2.2
/-- May it stand in a program of n instructions? -/
def goodB (n : Int) (x : Ins) : Bool := opB x.1 && (mayB (sc x.1 0) (nk x 0) n && (mayB (sc x.1 1) (nk x 1) n && mayB (sc x.1 2) (nk x 2) n))
def goodAt (p : List Ins) (i : Int) : Bool := decide (0 ≤ i) && (decide (i < (p.length : Int)) && goodB p.length (ins p i.toNat))
def wholeB (p : List Ins) : Bool := decide (p.length ≤ 64) && p.all (goodB p.length)

theorem goodAt_nat {p : List Ins} {i : Nat} (h : i < p.length) : goodAt p (i : Int) = goodB p.length (ins p i) := by
  unfold goodAt
  have h1 : (0 : Int) ≤ (i : Int) := by omega
  have h2 : (i : Int) < (p.length : Int) := by omega
  simp [h1, h2]
theorem wholeB_iff {p : List Ins} : wholeB p = true ↔ p.length ≤ 64 ∧ ∀ i, i < p.length → goodB p.length (ins p i) = true := by
  unfold wholeB
  simp only [Bool.and_eq_true, decide_eq_true_eq, List.all_eq_true]
  refine and_congr Iff.rfl ⟨fun h i hi => h _ ?_, fun h x hx => ?_⟩
  · exact List.mem_of_getElem? (ins_get hi)
  · obtain ⟨i, hi⟩ := List.getElem?_of_mem hx
    have := h i (List.getElem?_eq_some_iff.1 hi).1
    rw [ins_at hi] at this
    exact this

/-- The places of an operation's numbers, and of those that are used. -/
def numQ (op : Int) : List Nat := if opB op then [0, 1, 2] else []
def usQ (op : Int) : List Nat := (numQ op).filter (fun k => sc op k != 45)
/-- The numbers that are used. -/
def usedL (x : Ins) : List Int := (usQ x.1).map (nk x)
theorem numQ_lt {op : Int} {k : Nat} (h : k ∈ numQ op) : k < 3 := by
  unfold numQ at h
  split at h
  · simp at h; omega
  · simp at h
theorem usQ_mem {op : Int} {k : Nat} (h : k ∈ usQ op) : k < 3 ∧ sc op k ≠ 45 ∧ opB op = true := by
  unfold usQ at h
  obtain ⟨h1, h2⟩ := List.mem_filter.1 h
  refine ⟨numQ_lt h1, by simpa using h2, ?_⟩
  unfold numQ at h1
  split at h1
  · assumption
  · simp at h1
theorem usQ_len (op : Int) : (usQ op).length ≤ 3 := by
  unfold usQ
  refine Nat.le_trans (List.length_filter_le _ _) ?_
  unfold numQ
  split <;> simp

end Go.Proofs.YtjgclehghnmhnaaDoor
