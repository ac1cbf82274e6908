/- Programs as texts, plain. -/
import Derived.Test.YtbcdjpafdmgbmaaDoorIsa
import Derived.Lib.ItoaNum
namespace Go.Proofs.YtbcdjpafdmgbmaaDoor

/-- An instruction's line; a program's text. -/
def numsL (x : Ins) : List UInt8 := (usedL x).flatMap (fun v => 32 :: Lib.itoa v)
def printI (x : Ins) : List UInt8 := nmL x.1 ++ numsL x ++ [10]
def printL (p : List Ins) : List UInt8 := p.flatMap printI
/-- What is told of any program. -/
def printA (p : List Ins) : List UInt8 := if wholeB p then printL p else []

theorem nDigits_le : ∀ (k u : Nat), u < 10 ^ (k + 1) → Lib.nDigits u ≤ k + 1
  | 0, u, h => by rw [Lib.nDigits_small (by simpa using h)]; exact Nat.le_refl _
  | k + 1, u, h => by
    by_cases h1 : u < 10
    · rw [Lib.nDigits_small h1]; omega
    · rw [Lib.nDigits_big h1]
      have := nDigits_le k (u / 10) (by rw [Nat.pow_succ] at h; omega)
      omega
theorem itoa_len {v : Int} (h1 : -1099511627776 ≤ v) (h2 : v ≤ 1099511627776) : (Lib.itoa v).length ≤ 14 := by
  have h13 : (10 : Nat) ^ 13 = 10000000000000 := by decide
  unfold Lib.itoa
  split
  · rw [List.length_cons, Lib.decDigits_length]
    have := nDigits_le 12 v.natAbs (by rw [h13]; omega)
    omega
  · rw [Lib.decDigits_length]
    have := nDigits_le 12 v.toNat (by rw [h13]; omega)
    omega
theorem bd_small (c : Nat) {n : Int} (hn0 : 0 ≤ n) (hn : n ≤ 64) : -1099511627776 ≤ (bdL c n).1 ∧ (bdL c n).2 ≤ 1099511627776 := by
  unfold bdL
  repeat' split
  all_goals constructor <;> (simp only []; omega)
theorem may_small {c : Nat} {v n : Int} (hn0 : 0 ≤ n) (hn : n ≤ 64) (h : mayB c v n = true) : -1099511627776 ≤ v ∧ v ≤ 1099511627776 := by
  obtain ⟨h1, h2⟩ := bd_small c hn0 hn
  unfold mayB at h
  simp only [Bool.and_eq_true, decide_eq_true_eq] at h
  omega
theorem good_small {n : Nat} {x : Ins} (hn : n ≤ 64) (h : goodB n x = true) {k : Nat} (hk : k < 3) : -1099511627776 ≤ nk x k ∧ nk x k ≤ 1099511627776 := by
  unfold goodB at h
  simp only [Bool.and_eq_true] at h
  obtain ⟨_, h0, h1, h2⟩ := h
  match k, hk with
  | 0, _ => exact may_small (by omega) (by omega) h0
  | 1, _ => exact may_small (by omega) (by omega) h1
  | 2, _ => exact may_small (by omega) (by omega) h2
theorem used_small {n : Nat} {x : Ins} (hn : n ≤ 64) (h : goodB n x = true) {v : Int} (hv : v ∈ usedL x) : -1099511627776 ≤ v ∧ v ≤ 1099511627776 := by
  unfold usedL at hv
  obtain ⟨k, hk, rfl⟩ := List.mem_map.1 hv
  exact good_small hn h (usQ_mem hk).1
theorem nm_len : ∀ k : Fin 27, (nmT.getD k.1 []).length ≤ 6 := by decide
theorem nmL_len (op : Int) : (nmL op).length ≤ 6 := by
  cases h : opB op with
  | false => rw [nmL_out h]; simp
  | true =>
    obtain ⟨k, rfl, hk⟩ := opB_nat h
    rw [nmL_nat hk]
    exact nm_len ⟨k, hk⟩
theorem flat_le {l : List Int} (h : ∀ v ∈ l, (Lib.itoa v).length ≤ 14) : (l.flatMap (fun v => 32 :: Lib.itoa v)).length ≤ 15 * l.length := by
  induction l with
  | nil => simp
  | cons a l ih =>
    have h1 := h a (by simp)
    have h2 := ih (fun v hv => h v (by simp [hv]))
    simp only [List.flatMap_cons, List.length_append, List.length_cons] at h2 ⊢
    omega
theorem printI_len {n : Nat} {x : Ins} (hn : n ≤ 64) (h : goodB n x = true) : (printI x).length ≤ 52 := by
  have h1 := nmL_len x.1
  have h2 : (numsL x).length ≤ 15 * (usedL x).length := flat_le (fun v hv => by obtain ⟨a, b⟩ := used_small hn h hv; exact itoa_len a b)
  have h3 : (usedL x).length ≤ 3 := by unfold usedL; rw [List.length_map]; exact usQ_len _
  unfold printI
  simp only [List.length_append, List.length_cons, List.length_nil]
  omega
theorem printL_len {p : List Ins} {n : Nat} (hn : n ≤ 64) (h : ∀ x ∈ p, goodB n x = true) : (printL p).length ≤ 52 * p.length := by
  induction p with
  | nil => simp [printL]
  | cons a p ih =>
    have h1 := printI_len hn (h a (by simp))
    have h2 := ih (fun v hv => h v (by simp [hv]))
    unfold printL at h2 ⊢
    simp only [List.flatMap_cons, List.length_append, List.length_cons] at h2 ⊢
    omega
theorem whole_mem {p : List Ins} (h : wholeB p = true) : ∀ x ∈ p, goodB p.length x = true := by
  unfold wholeB at h
  simp only [Bool.and_eq_true, List.all_eq_true] at h
  exact h.2

end Go.Proofs.YtbcdjpafdmgbmaaDoor
