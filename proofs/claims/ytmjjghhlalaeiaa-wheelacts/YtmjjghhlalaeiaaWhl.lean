/- Who waits until when, plainly; and in which row. -/
import Derived.ProofKit
namespace Go.Proofs.Ytmjjghhlalaeiaa

/-- A part of a time: of four, the lowest first; the last one is all that is left. -/
def prt (l t : Nat) : Nat := match l with
  | 0 => t % 16
  | 1 => t / 16 % 16
  | 2 => t / 256 % 16
  | _ => t / 4096
/-- The greatest part in which two times differ. -/
def lev (a b : Nat) : Nat := if prt 3 a ≠ prt 3 b then 3 else if prt 2 a ≠ prt 2 b then 2 else if prt 1 a ≠ prt 1 b then 1 else 0
/-- The row for those that wait until b, at a. -/
def rowN (a b : Nat) : Nat := 16 * lev a b + prt (lev a b) b % 16

theorem lev_le (a b : Nat) : lev a b ≤ 3 := by
  unfold lev
  split
  · omega
  · split
    · omega
    · split <;> omega
theorem rowN_lt (a b : Nat) : rowN a b < 64 := by
  have := lev_le a b
  unfold rowN
  omega
theorem lev_cases (a b : Nat) : (lev a b = 3 ∧ a / 4096 ≠ b / 4096) ∨ (lev a b = 2 ∧ a / 4096 = b / 4096 ∧ a / 256 % 16 ≠ b / 256 % 16) ∨ (lev a b = 1 ∧ a / 4096 = b / 4096 ∧ a / 256 % 16 = b / 256 % 16 ∧ a / 16 % 16 ≠ b / 16 % 16) ∨ (lev a b = 0 ∧ a / 4096 = b / 4096 ∧ a / 256 % 16 = b / 256 % 16 ∧ a / 16 % 16 = b / 16 % 16) := by
  unfold lev
  simp only [prt]
  split
  · exact .inl ⟨rfl, by assumption⟩
  · rename_i h3
    have h3' := Decidable.not_not.1 h3
    split
    · exact .inr (.inl ⟨rfl, h3', by assumption⟩)
    · rename_i h2
      have h2' := Decidable.not_not.1 h2
      split
      · exact .inr (.inr (.inl ⟨rfl, h3', h2', by assumption⟩))
      · rename_i h1
        exact .inr (.inr (.inr ⟨rfl, h3', h2', Decidable.not_not.1 h1⟩))
theorem rowN_cases (a b : Nat) : (rowN a b = 48 + b / 4096 % 16 ∧ a / 4096 ≠ b / 4096) ∨ (rowN a b = 32 + b / 256 % 16 ∧ a / 4096 = b / 4096 ∧ a / 256 % 16 ≠ b / 256 % 16) ∨ (rowN a b = 16 + b / 16 % 16 ∧ a / 4096 = b / 4096 ∧ a / 256 % 16 = b / 256 % 16 ∧ a / 16 % 16 ≠ b / 16 % 16) ∨ (rowN a b = b % 16 ∧ a / 4096 = b / 4096 ∧ a / 256 % 16 = b / 256 % 16 ∧ a / 16 % 16 = b / 16 % 16) := by
  unfold rowN
  rcases lev_cases a b with ⟨e, h⟩ | ⟨e, h⟩ | ⟨e, h⟩ | ⟨e, h⟩
  · exact .inl ⟨by rw [e]; simp only [prt], h⟩
  · exact .inr (.inl ⟨by rw [e]; simp only [prt]; omega, h⟩)
  · exact .inr (.inr (.inl ⟨by rw [e]; simp only [prt]; omega, h⟩))
  · exact .inr (.inr (.inr ⟨by rw [e]; simp only [prt]; omega, h⟩))

theorem rowN_self (n : Nat) : rowN n n = n % 16 := by
  rcases rowN_cases n n with ⟨e, h⟩ | ⟨e, h⟩ | ⟨e, h⟩ | ⟨e, h⟩
  · exact absurd rfl h
  · exact absurd rfl h.2
  · exact absurd rfl h.2.2
  · exact e
/-- Who stands in the lowest row of now waits until now. -/
theorem rowN_now {n u : Nat} (h : rowN n u = n % 16) : u = n := by
  rcases rowN_cases n u with ⟨e, h⟩ | ⟨e, h⟩ | ⟨e, h⟩ | ⟨e, h⟩ <;> omega

/-- The row of a level whose turn comes now. -/
def turnR (n l : Nat) : Nat := 16 * l + prt l n % 16
/-- The parts below l are nothing. -/
def Zr (n l : Nat) : Prop := ∀ j, j < l → prt j n = 0
/-- What is so of those that stand in rows while the rows from level l on still have to go down. -/
def Rl (n l u i : Nat) : Prop := i = rowN n u ∨ ∃ m, l ≤ m ∧ m ≤ 3 ∧ Zr n m ∧ i = turnR n m

set_option maxHeartbeats 4000000 in
theorem turn_start {n u : Nat} (h1 : n < u) (h2 : u ≤ n + 65535) : Rl (n + 1) 1 u (rowN n u) := by
  unfold Rl
  rcases rowN_cases n u with ⟨e, h⟩ | ⟨e, h⟩ | ⟨e, h⟩ | ⟨e, h⟩
  · by_cases hk : (n + 1) % 4096 = 0 ∧ u / 4096 % 16 = (n + 1) / 4096 % 16
    · refine .inr ⟨3, by omega, by omega, ?_, ?_⟩
      · intro j hj
        match j, hj with
        | 0, _ => simp only [prt]; omega
        | 1, _ => simp only [prt]; omega
        | 2, _ => simp only [prt]; omega
      · rw [e]; unfold turnR; simp only [prt]; omega
    · left
      rcases rowN_cases (n + 1) u with ⟨e', h'⟩ | ⟨e', h'⟩ | ⟨e', h'⟩ | ⟨e', h'⟩ <;> omega
  · by_cases hk : (n + 1) % 256 = 0 ∧ u / 256 % 16 = (n + 1) / 256 % 16
    · refine .inr ⟨2, by omega, by omega, ?_, ?_⟩
      · intro j hj
        match j, hj with
        | 0, _ => simp only [prt]; omega
        | 1, _ => simp only [prt]; omega
      · rw [e]; unfold turnR; simp only [prt]; omega
    · left
      rcases rowN_cases (n + 1) u with ⟨e', h'⟩ | ⟨e', h'⟩ | ⟨e', h'⟩ | ⟨e', h'⟩ <;> omega
  · by_cases hk : (n + 1) % 16 = 0 ∧ u / 16 % 16 = (n + 1) / 16 % 16
    · refine .inr ⟨1, by omega, by omega, ?_, ?_⟩
      · intro j hj
        match j, hj with
        | 0, _ => simp only [prt]; omega
      · rw [e]; unfold turnR; simp only [prt]; omega
    · left
      rcases rowN_cases (n + 1) u with ⟨e', h'⟩ | ⟨e', h'⟩ | ⟨e', h'⟩ | ⟨e', h'⟩ <;> omega
  · left
    rcases rowN_cases (n + 1) u with ⟨e', h'⟩ | ⟨e', h'⟩ | ⟨e', h'⟩ | ⟨e', h'⟩ <;> omega
theorem Rl.next {n l u i : Nat} (h : Rl n l u i) (hi : i ≠ turnR n l) : Rl n (l + 1) u i := by
  rcases h with h | ⟨m, h1, h2, h3, h4⟩
  · exact .inl h
  · refine .inr ⟨m, ?_, h2, h3, h4⟩
    rcases Nat.lt_or_ge l m with h | h
    · exact h
    · obtain rfl : l = m := by omega
      exact absurd h4 hi
theorem Rl.over {n l u i : Nat} (h : Rl n l u i) (hl : l = 4 ∨ (1 ≤ l ∧ prt (l - 1) n ≠ 0)) : i = rowN n u := by
  rcases h with h | ⟨m, h1, h2, h3, h4⟩
  · exact h
  · rcases hl with rfl | ⟨hl, hp⟩
    · omega
    · exact absurd (h3 (l - 1) (by omega)) hp
theorem turnR_lt {n l : Nat} (hl : l ≤ 3) : turnR n l < 64 := by unfold turnR; omega

/-- Until when a thing waits; 0: it doesn't. -/
def wt (wh : List Nat) (t : Nat) : Nat := wh.getD t 0
theorem wt_set_self {wh : List Nat} {t : Nat} (v : Nat) (h : t < wh.length) : wt (wh.set t v) t = v := by
  unfold wt
  rw [List.getD_eq_getElem?_getD, List.getElem?_set_self h]
  rfl
theorem wt_set_ne {wh : List Nat} {t s : Nat} (v : Nat) (h : t ≠ s) : wt (wh.set t v) s = wt wh s := by
  unfold wt
  rw [List.getD_eq_getElem?_getD, List.getElem?_set_ne h, ← List.getD_eq_getElem?_getD]
theorem wt_out {wh : List Nat} {t : Nat} (h : wh.length ≤ t) : wt wh t = 0 := by
  unfold wt
  rw [List.getD_eq_getElem?_getD, List.getElem?_eq_none h]
  rfl
theorem wt_get {wh : List Nat} {t x : Nat} (h : wh[t]? = some x) : wt wh t = x := by
  unfold wt
  rw [List.getD_eq_getElem?_getD, h]
  rfl

/-- Who is woken at n, rising; and who waits then. -/
def wakeL (n : Nat) (wh : List Nat) : List Nat := (List.range wh.length).filter (fun t => wt wh t == n)
def wakeS (n : Nat) (wh : List Nat) : List Nat := wh.map (fun x => if x = n then 0 else x)
theorem wakeS_len (n : Nat) (wh : List Nat) : (wakeS n wh).length = wh.length := by simp [wakeS]
theorem wt_wakeS {n : Nat} {wh : List Nat} (t : Nat) : wt (wakeS n wh) t = if wt wh t = n then 0 else wt wh t := by
  unfold wt wakeS
  simp only [List.getD_eq_getElem?_getD, List.getElem?_map]
  cases h : wh[t]? with
  | none => simp
  | some x => simp
theorem mem_wakeL {n t : Nat} {wh : List Nat} (hn : n ≠ 0) : t ∈ wakeL n wh ↔ wt wh t = n := by
  unfold wakeL
  rw [List.mem_filter, List.mem_range]
  constructor
  · rintro ⟨_, h⟩
    simpa using h
  · intro h
    refine ⟨?_, by simpa using h⟩
    rcases Nat.lt_or_ge t wh.length with hl | hl
    · exact hl
    · rw [wt_out hl] at h
      exact absurd h.symm hn
theorem wakeL_nodup (n : Nat) (wh : List Nat) : (wakeL n wh).Nodup := List.nodup_range.filter _
theorem wakeL_sorted (n : Nat) (wh : List Nat) : (wakeL n wh).Pairwise (· < ·) := List.pairwise_lt_range.filter _

end Go.Proofs.Ytmjjghhlalaeiaa
