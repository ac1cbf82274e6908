/- The rows' lists, one behind the other in the order of their turns: all that wait. -/
import Derived.Test.YtmjjghhlalaeiaaInTurn
namespace Go.Proofs.Ytmjjghhlalaeiaa
open Go.RowKit

/-- Who waits, rising. -/
def waitL (wh : List Nat) : List Nat := (List.range wh.length).filter (fun t => wt wh t != 0)
theorem mem_waitL {wh : List Nat} {t : Nat} : t ∈ waitL wh ↔ wt wh t ≠ 0 := by
  unfold waitL
  rw [List.mem_filter, List.mem_range]
  constructor
  · rintro ⟨_, h⟩
    simpa using h
  · intro h
    refine ⟨?_, by simpa using h⟩
    rcases Nat.lt_or_ge t wh.length with hl | hl
    · exact hl
    · exact absurd (wt_out hl) h
theorem waitL_nodup (wh : List Nat) : (waitL wh).Nodup := List.nodup_range.filter _
theorem waitL_sorted (wh : List Nat) : (waitL wh).Pairwise (· < ·) := List.pairwise_lt_range.filter _
theorem waitL_le (wh : List Nat) : (waitL wh).length ≤ wh.length := by
  have := List.length_filter_le (fun t => wt wh t != 0) (List.range wh.length)
  rw [List.length_range] at this
  exact this

theorem tq_inj {n a b : Nat} (ha : a < 64) (hb : b < 64) (h : tq n a = tq n b) : a = b := by
  unfold tq at h
  have h1 : a / 16 = b / 16 := by omega
  rw [h1] at h
  omega
theorem tq_sur {n i : Nat} (hi : i < 64) : ∃ m, m < 64 ∧ tq n m = i := by
  refine ⟨16 * (i / 16) + (i % 16 + 16 - (prt (i / 16) n + 1) % 16) % 16, by omega, ?_⟩
  unfold tq
  have h1 : (16 * (i / 16) + (i % 16 + 16 - (prt (i / 16) n + 1) % 16) % 16) / 16 = i / 16 := by omega
  rw [h1]
  generalize prt (i / 16) n = p
  omega
theorem turnL_nodup (n : Nat) : (turnL n).Nodup := by
  unfold turnL
  rw [List.nodup_iff_pairwise_ne, List.pairwise_map]
  refine List.Pairwise.imp_of_mem ?_ List.pairwise_lt_range
  intro a b ha hb hlt e
  have := tq_inj (List.mem_range.1 ha) (List.mem_range.1 hb) e
  omega
theorem mem_turnL {n i : Nat} : i ∈ turnL n ↔ i < 64 := by
  unfold turnL
  rw [List.mem_map]
  constructor
  · rintro ⟨m, hm, rfl⟩
    exact tq_lt (List.mem_range.1 hm)
  · intro hi
    obtain ⟨m, hm, e⟩ := tq_sur hi
    exact ⟨m, List.mem_range.2 hm, e⟩

/-- Lists one behind the other. -/
def catL (ls : List (List Nat)) (is : List Nat) : List Nat := is.flatMap (fun i => ls.getD i [])
theorem mem_catL {ls : List (List Nat)} {is : List Nat} {t : Nat} : t ∈ catL ls is ↔ ∃ i ∈ is, t ∈ ls.getD i [] := by simp [catL, List.mem_flatMap]
theorem catL_snoc (ls : List (List Nat)) (is : List Nat) (i : Nat) : catL ls (is ++ [i]) = catL ls is ++ ls.getD i [] := by simp [catL]
theorem catL_nodup {N : Nat} {ls : List (List Nat)} (ho : Ok N 64 ls) : ∀ (is : List Nat), is.Nodup → (∀ i ∈ is, i < 64) → (catL ls is).Nodup
  | [], _, _ => by simp [catL]
  | i :: is, hn, hl => by
    have hn' := List.nodup_cons.1 hn
    have e : catL ls (i :: is) = ls.getD i [] ++ catL ls is := by simp [catL]
    rw [e]
    have hat : ∀ j, j < 64 → ls[j]? = some (ls.getD j []) := fun j hj => getD_at (by rw [ho.len]; exact hj)
    refine List.nodup_append.2 ⟨ho.nd i _ (hat i (hl i (by simp))), catL_nodup ho is hn'.2 (fun j hj => hl j (List.mem_cons_of_mem _ hj)), ?_⟩
    intro a ha b hb e
    subst e
    obtain ⟨j, hj, hm⟩ := mem_catL.1 hb
    have hij : i ≠ j := fun e => hn'.1 (e ▸ hj)
    exact ho.dj i j _ _ (hat i (hl i (by simp))) (hat j (hl j (List.mem_cons_of_mem _ hj))) hij a ha hm

theorem cat_perm {w : World} {T : Wp} {N n : Nat} {wh : List Nat} {us : List Int} {ls : List (List Nat)} {R : Nat → Nat → Prop} (hm : WM w T N n us ls) (hp : WP N n wh us ls R []) : (catL ls (turnL n)).Perm (waitL wh) := by
  have ho := hm.l.ok
  refine (List.perm_ext_iff_of_nodup (catL_nodup ho _ (turnL_nodup n) (fun i hi => mem_turnL.1 hi)) (waitL_nodup wh)).2 fun t => ?_
  rw [mem_catL, mem_waitL]
  constructor
  · rintro ⟨i, hi, ht⟩
    exact (hp.inn i _ (getD_at (by rw [ho.len]; exact mem_turnL.1 hi)) t ht).2.1
  · intro h
    obtain ⟨i, q, hq, ht⟩ := hp.out t h (by simp)
    have hi : i < 64 := by
      have := (List.getElem?_eq_some_iff.1 hq).1
      rw [ho.len] at this
      exact this
    refine ⟨i, mem_turnL.2 hi, ?_⟩
    rw [List.getD_eq_getElem?_getD, hq]
    exact ht
theorem cat_len {w : World} {T : Wp} {N n : Nat} {us : List Int} {ls : List (List Nat)} (hm : WM w T N n us ls) {is : List Nat} (hn : is <+: turnL n) : (catL ls is).length ≤ 4096 := by
  have ho := hm.l.ok
  have hnd : (catL ls is).Nodup := catL_nodup ho is ((turnL_nodup n).sublist hn.sublist) (fun i hi => mem_turnL.1 (hn.subset hi))
  have hlt : ∀ t ∈ catL ls is, t < N := fun t ht => by
    obtain ⟨i, hi, h⟩ := mem_catL.1 ht
    exact ho.lt i _ (getD_at (by rw [ho.len]; exact mem_turnL.1 (hn.subset hi))) t h
  exact Nat.le_trans (nodup_short hnd hlt) hm.sizes.2
theorem one_len {w : World} {T : Wp} {N n : Nat} {us : List Int} {ls : List (List Nat)} (hm : WM w T N n us ls) (i : Nat) : (ls.getD i []).length ≤ 4096 := by
  rcases Nat.lt_or_ge i ls.length with h | h
  · exact Nat.le_trans (hm.l.ok.short (getD_at h)) hm.sizes.2
  · rw [List.getD_eq_getElem?_getD, List.getElem?_eq_none h]
    simp

end Go.Proofs.Ytmjjghhlalaeiaa
