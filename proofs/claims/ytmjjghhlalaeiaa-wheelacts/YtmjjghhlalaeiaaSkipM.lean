/- Who is woken by so many ticks, and who is not; rows of rows, read. -/
import Derived.Test.YtmjjghhlalaeiaaSkip
import Derived.Test.YtmjjghhlalaeiaaLen
namespace Go.Proofs.Ytmjjghhlalaeiaa
open Go.RowKit

/-- All that wait do so until later than n. -/
def Late (n : Nat) (wh : List Nat) : Prop := ∀ t, wt wh t ≠ 0 → n < wt wh t
theorem Late.wake {n : Nat} {wh : List Nat} (h : Late n wh) : Late (n + 1) (wakeS (n + 1) wh) := by
  intro t ht
  rw [wt_wakeS] at ht ⊢
  split at ht
  · exact absurd rfl ht
  · rename_i hne
    rw [if_neg hne]
    have := h t ht
    omega
theorem wt_skS : ∀ (k n : Nat) (wh : List Nat), Late n wh → ∀ t, wt (skS k n wh) t = if wt wh t ≤ n + k then 0 else wt wh t
  | 0, n, wh, h, t => by
    unfold skS
    by_cases h0 : wt wh t = 0
    · rw [h0]; split <;> rfl
    · have := h t h0
      rw [if_neg (by omega)]
  | k + 1, n, wh, h, t => by
    unfold skS
    rw [wt_skS k (n + 1) _ h.wake t, wt_wakeS]
    by_cases h0 : wt wh t = 0
    · simp [h0]
    · have := h t h0
      by_cases h1 : wt wh t = n + 1
      · rw [if_pos h1, if_pos (by omega), if_pos (by omega)]
      · rw [if_neg h1]
        by_cases h2 : wt wh t ≤ n + 1 + k
        · rw [if_pos h2, if_pos (by omega)]
        · rw [if_neg h2, if_neg (by omega)]
theorem mem_skW : ∀ (k n : Nat) (wh : List Nat), Late n wh → ∀ x ∈ skW k n wh, ∀ t ∈ x, wt wh t ≠ 0 ∧ wt wh t ≤ n + k
  | 0, _, _, _, x, hx, _, _ => by simp [skW] at hx
  | k + 1, n, wh, h, x, hx, t, ht => by
    unfold skW at hx
    rw [List.mem_append] at hx
    rcases hx with hx | hx
    · split at hx
      · simp at hx
      · simp at hx
        subst hx
        have := (mem_wakeL (by omega)).1 ht
        omega
    · obtain ⟨h1, h2⟩ := mem_skW k (n + 1) _ h.wake x hx t ht
      rw [wt_wakeS] at h1 h2
      split at h1
      · exact absurd rfl h1
      · rename_i hne
        rw [if_neg hne] at h2
        exact ⟨h1, by omega⟩
theorem waitL_nil {wh : List Nat} (h : ∀ t, wt wh t = 0) : waitL wh = [] := by
  apply List.eq_nil_iff_forall_not_mem.2
  intro t ht
  exact mem_waitL.1 ht (h t)
theorem mem_skW_len {k n : Nat} {wh : List Nat} {N : Nat} (h : Late n wh) (hl : wh.length = N) (hN : N ≤ 4096) : ∀ (x : List Nat), x ∈ skW k n wh → x.length ≤ 4096 := by
  induction k generalizing n wh with
  | zero => intro x hx; simp [skW] at hx
  | succ k ih =>
    intro x hx
    unfold skW at hx
    rw [List.mem_append] at hx
    rcases hx with hx | hx
    · split at hx
      · simp at hx
      · simp at hx
        subst hx
        have h1 := List.length_filter_le (fun t => wt wh t == n + 1) (List.range wh.length)
        rw [List.length_range] at h1
        unfold wakeL
        omega
    · exact ih h.wake (by rw [wakeS_len]; exact hl) x hx

theorem RowLL.get {w : World} {base : Nat} {v : Value} {L : List (List Nat)} (h : RowLL w base v L) {j : Nat} {x : List Nat} (hj : L[j]? = some x) :
    ∃ g c ua uc, v = .slice (some ⟨g, 0, none⟩) L.length c ∧ w.cell? ⟨g, j, none⟩ = some (.slice ua x.length uc) ∧ IntsR w ua (ints x) := by
  obtain ⟨vs, h1, h2, h3⟩ := h
  have hjl := (List.getElem?_eq_some_iff.1 hj).1
  have hu : vs[j]? = some vs[j] := List.getElem?_eq_getElem (by omega)
  have hI := h3 j _ x hu hj
  obtain ⟨ua, uc, e, hr⟩ := hI.open'
  rw [ints_len] at e
  rcases h1.2 with ⟨rfl, h0⟩ | ⟨g, cap, cur, rfl, _⟩
  · omega
  · refine ⟨g, cap, ua, uc, rfl, ?_, hr⟩
    have := World.ownsRow.cellAt h1 j (by omega)
    rw [this, hu, e]

end Go.Proofs.Ytmjjghhlalaeiaa
