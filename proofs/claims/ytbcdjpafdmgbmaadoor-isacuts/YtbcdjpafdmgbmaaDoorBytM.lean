/- Programs as bytes, plain. -/
import Derived.Test.YtbcdjpafdmgbmaaDoorPrM
namespace Go.Proofs.YtbcdjpafdmgbmaaDoor

/-- An instruction's bytes; a program's. -/
def bytesI (x : Ins) : List UInt8 := UInt8.ofNat x.1.toNat :: intsF (usedL x)
def bytesP (p : List Ins) : List UInt8 := p.flatMap bytesI
def bytesL (p : List Ins) : List UInt8 := numL p.length ++ bytesP p
/-- What is told of any program. -/
def bytesA (p : List Ins) : List UInt8 := if wholeB p then bytesL p else []

theorem bytesI_len (x : Ins) : (bytesI x).length ≤ 34 := by
  have h1 := intsF_len (usedL x)
  have h2 : (usedL x).length ≤ 3 := by unfold usedL; rw [List.length_map]; exact usQ_len _
  unfold bytesI
  rw [List.length_cons]
  omega
theorem bytesP_len : ∀ p : List Ins, (bytesP p).length ≤ 34 * p.length
  | [] => by simp [bytesP]
  | x :: p => by
    have h1 := bytesI_len x
    have h2 := bytesP_len p
    unfold bytesP at h2 ⊢
    simp only [List.flatMap_cons, List.length_append, List.length_cons]
    omega
theorem bytesL_len (p : List Ins) : (bytesL p).length ≤ 11 + 34 * p.length := by
  unfold bytesL
  rw [List.length_append]
  have := numL_len p.length
  have := bytesP_len p
  omega
theorem bytesP_snoc {ps : List Ins} {i : Nat} {x : Ins} (h : ps[i]? = some x) : bytesP (ps.take (i + 1)) = bytesP (ps.take i) ++ bytesI x := by
  unfold bytesP
  rw [List.take_add_one, h, List.flatMap_append]
  simp
/-- The first j numbers that are used, as bytes. -/
def intsJ (x : Ins) (j : Nat) : List UInt8 := intsF ((usedL x).take j)
theorem intsJ_zero (x : Ins) : intsJ x 0 = [] := by simp [intsJ, intsF]
theorem intsJ_all (x : Ins) : intsJ x (usQ x.1).length = intsF (usedL x) := by
  unfold intsJ
  rw [List.take_of_length_le (by unfold usedL; rw [List.length_map]; exact Nat.le_refl _)]
theorem used_get {x : Ins} {j k : Nat} (h : (usQ x.1)[j]? = some k) : (usedL x)[j]? = some (nk x k) := by
  unfold usedL
  rw [List.getElem?_map, h]
  rfl
theorem intsJ_succ {x : Ins} {j k : Nat} (h : (usQ x.1)[j]? = some k) : intsJ x (j + 1) = intsJ x j ++ numL (zigN (nk x k)) := by
  unfold intsJ
  rw [List.take_add_one, used_get h, intsF_app]
  simp [intsF]
theorem intsJ_len (x : Ins) (j : Nat) : (intsJ x j).length ≤ 33 := by
  have h1 := intsF_len ((usedL x).take j)
  have h2 : ((usedL x).take j).length ≤ 3 := by
    rw [List.length_take]
    have : (usedL x).length ≤ 3 := by unfold usedL; rw [List.length_map]; exact usQ_len _
    omega
  unfold intsJ
  omega

end Go.Proofs.YtbcdjpafdmgbmaaDoor
