/- Runs of members side by side: their firsts and lasts. -/
import Derived.Test.YtgoedlgilgnphaaDoorFnsB
namespace Go.Proofs.YtgoedlgilgnphaaDoor
open Go Go.RowKit

/-- The first of each run, rising. -/
def starts (m : Nat) : List Nat := (mem m).filter (fun i => decide (i = 0) || !m.testBit (i - 1))

theorem starts_sorted (m : Nat) : (starts m).Pairwise (· < ·) := (mem_sorted m).filter _
theorem mem_starts {m i : Nat} : i ∈ starts m ↔ i ∈ mem m ∧ (i = 0 ∨ m.testBit (i - 1) = false) := by
  unfold starts
  rw [List.mem_filter]
  simp

theorem headI_le : ∀ {l : List Nat}, l.Pairwise (· < ·) → ∀ {x}, x ∈ l → headI l ≤ x
  | [], _, x, h => by cases h
  | y :: l, hs, x, h => by
    simp only [headI]
    rcases List.mem_cons.1 h with rfl | h
    · omega
    · have := (List.pairwise_cons.1 hs).1 x h
      omega

theorem headI_mem : ∀ {l : List Nat}, l ≠ [] → ∃ x ∈ l, headI l = x
  | [], h => (h rfl).elim
  | y :: _, _ => ⟨y, by simp, rfl⟩

/-- Two rising lists, each with one at or below any of the other, have the same first. -/
theorem headI_same {a b : List Nat} (ha : a.Pairwise (· < ·)) (hb : b.Pairwise (· < ·)) (h1 : ∀ x ∈ a, ∃ y ∈ b, y ≤ x) (h2 : ∀ y ∈ b, ∃ x ∈ a, x ≤ y) : headI a = headI b := by
  by_cases ea : a = []
  · subst ea
    by_cases eb : b = []
    · rw [eb]
    · obtain ⟨y, hy, _⟩ := headI_mem eb
      obtain ⟨x, hx, _⟩ := h2 y hy
      cases hx
  · obtain ⟨x, hx, ex⟩ := headI_mem ea
    obtain ⟨y, hy, hyx⟩ := h1 x hx
    have eb : b ≠ [] := fun e => by rw [e] at hy; cases hy
    obtain ⟨y', hy', ey⟩ := headI_mem eb
    obtain ⟨x', hx', hxy⟩ := h2 y' hy'
    have := headI_le ha hx'
    have := headI_le hb hy
    omega

theorem not_mem_compl {m i : Nat} (hm : m < 18446744073709551616) (hi : i < 64) : i ∈ mem (18446744073709551615 - m) ↔ m.testBit i = false := by
  rw [mem_mem]
  rcases testBit_compl (a := m) hi with e | e
  · rw [e]; simp [hi]
  · exact (e hm).elim

/-- What the end of a run is. -/
theorem endN_spec {m x : Nat} (hm : m < 18446744073709551616) (hx : x ∈ mem m) : x ≤ endN m x ∧ endN m x < 64 ∧ (∀ i, x ≤ i → i ≤ endN m x → m.testBit i = true) ∧ (endN m x = 63 ∨ m.testBit (endN m x + 1) = false) := by
  have hx1 := mem_mem.1 hx
  have hs := (mem_sorted (18446744073709551615 - m)).filter (fun y : Nat => decide ((x : Int) < (y : Int)))
  have key : ∀ i, x < i → i < 64 → m.testBit i = false → i ∈ aboveL (x : Int) (mem (18446744073709551615 - m)) := fun i h1 h2 h3 => by
    unfold aboveL
    rw [List.mem_filter]
    exact ⟨(not_mem_compl hm h2).2 h3, by simp; omega⟩
  unfold endN
  cases hl : aboveL (x : Int) (mem (18446744073709551615 - m)) with
  | nil =>
    refine ⟨by simp only; omega, by simp only; omega, ?_, .inl rfl⟩
    intro i h1 h2
    simp only at h2
    by_cases e : i = x
    · subst e; exact hx1.2
    · cases hb : m.testBit i with
      | true => rfl
      | false =>
        have := key i (by omega) (by omega) hb
        rw [hl] at this
        cases this
  | cons g l =>
    have hg : g ∈ aboveL (x : Int) (mem (18446744073709551615 - m)) := by rw [hl]; simp
    unfold aboveL at hg hl
    rw [List.mem_filter] at hg
    have hg1 := mem_lt64 g hg.1
    have hg2 : (x : Int) < g := by simpa using hg.2
    simp only
    refine ⟨by omega, by omega, ?_, .inr ?_⟩
    · intro i h1 h2
      by_cases e : i = x
      · subst e; exact hx1.2
      · cases hb : m.testBit i with
        | true => rfl
        | false =>
          have h3 := key i (by omega) (by omega) hb
          unfold aboveL at h3
          rw [hl] at h3 hs
          have := headI_le hs h3
          simp only [headI] at this
          omega
    · rw [show g - 1 + 1 = g by omega]
      exact (not_mem_compl hm hg1).1 hg.1

/-- The first member behind a run is the first of the next run. -/
theorem next_start {m x : Nat} {pre rest : List Nat} (hm : m < 18446744073709551616) (h : starts m = pre ++ x :: rest) : headI (aboveL ((endN m x : Nat) : Int) (mem m)) = headI rest := by
  have hx : x ∈ starts m := by rw [h]; simp
  have hx1 := (mem_starts.1 hx)
  obtain ⟨e1, e2, e3, e4⟩ := endN_spec hm hx1.1
  have hrest := filter_pre (starts_sorted m) h
  have hs1 := (mem_sorted m).filter (fun y : Nat => decide (((endN m x : Nat) : Int) < (y : Int)))
  have hs2 : rest.Pairwise (· < ·) := by rw [← hrest]; exact (starts_sorted m).filter _
  have hin : ∀ z, z ∈ aboveL ((endN m x : Nat) : Int) (mem m) ↔ z ∈ mem m ∧ endN m x < z := fun z => by
    unfold aboveL
    rw [List.mem_filter]
    simp
  have hin2 : ∀ z, z ∈ rest ↔ z ∈ starts m ∧ x < z := fun z => by
    rw [← hrest, List.mem_filter]
    simp
  refine headI_same hs1 hs2 ?_ ?_
  · intro y hy
    have hne : aboveL ((endN m x : Nat) : Int) (mem m) ≠ [] := fun e => by rw [e] at hy; cases hy
    obtain ⟨z, hz, ez⟩ := headI_mem hne
    have hzy := headI_le hs1 hy
    change headI (aboveL ((endN m x : Nat) : Int) (mem m)) ≤ _ at hzy
    have hz1 := (hin z).1 hz
    have hz2 := mem_mem.1 hz1.1
    refine ⟨z, (hin2 z).2 ⟨mem_starts.2 ⟨hz1.1, .inr ?_⟩, by omega⟩, by omega⟩
    cases hb : m.testBit (z - 1) with
    | false => rfl
    | true =>
      by_cases hz3 : z - 1 = endN m x
      · rcases e4 with e4 | e4
        · omega
        · rw [← hz3, show z - 1 + 1 = z by omega, hz2.2] at e4
          cases e4
      · have hz4 : z - 1 ∈ aboveL ((endN m x : Nat) : Int) (mem m) := (hin _).2 ⟨mem_mem.2 ⟨by omega, hb⟩, by omega⟩
        have := headI_le hs1 hz4
        change headI (aboveL ((endN m x : Nat) : Int) (mem m)) ≤ _ at this
        omega
  · intro y hy
    have hy1 := (hin2 y).1 hy
    have hy2 := mem_starts.1 hy1.1
    refine ⟨y, (hin y).2 ⟨hy2.1, ?_⟩, Nat.le_refl _⟩
    apply Nat.lt_of_not_le
    intro hle
    have := e3 (y - 1) (by omega) (by omega)
    rcases hy2.2 with h0 | h0
    · omega
    · rw [this] at h0; cases h0

theorem first_start {m : Nat} (_hm : m < 18446744073709551616) : headI (mem m) = headI (starts m) := by
  refine headI_same (mem_sorted m) (starts_sorted m) ?_ ?_
  · intro y hy
    have hne : mem m ≠ [] := fun e => by rw [e] at hy; cases hy
    obtain ⟨z, hz, ez⟩ := headI_mem hne
    have hzy := headI_le (mem_sorted m) hy
    have hz2 := mem_mem.1 hz
    refine ⟨z, mem_starts.2 ⟨hz, ?_⟩, by omega⟩
    by_cases h0 : z = 0
    · exact .inl h0
    · right
      cases hb : m.testBit (z - 1) with
      | false => rfl
      | true =>
        have := headI_le (mem_sorted m) (mem_mem.2 ⟨by omega, hb⟩ : z - 1 ∈ mem m)
        omega
  · intro y hy
    exact ⟨y, (mem_starts.1 hy).1, Nat.le_refl _⟩

end Go.Proofs.YtgoedlgilgnphaaDoor
