/- Who is woken by a skip that is long enough. -/
import Derived.Test.YtmjjghhlalaeiaaSkipM
import Derived.Test.YtmjjghhlalaeiaaOpens
namespace Go.Proofs.Ytmjjghhlalaeiaa
open Go.RowKit

/-- Until when each waits that was put in at n: the first j alone. -/
def afM (m n : Nat) (xs : List Nat) (j t : Nat) : Nat := if t < j then n + (1 + xs.getD t 0 % m) else 0
theorem afM_set {m n : Nat} {xs wh : List Nat} {j N : Nat} (hl : wh.length = N) (hj : j < N) (h : ∀ t, wt wh t = afM m n xs j t) : ∀ t, wt (wh.set j (n + (1 + xs.getD j 0 % m))) t = afM m n xs (j + 1) t := by
  intro t
  unfold afM
  by_cases e : j = t
  · subst e
    rw [wt_set_self _ (by omega), if_pos (by omega)]
  · rw [wt_set_ne _ e, h t]
    unfold afM
    by_cases h1 : t < j
    · rw [if_pos h1, if_pos (by omega)]
    · rw [if_neg h1, if_neg (by omega)]
theorem afM_zero {m n : Nat} {xs wh : List Nat} {j : Nat} (h : ∀ t, wt wh t = afM m n xs j t) : wt wh j = 0 := by rw [h j]; unfold afM; rw [if_neg (by omega)]
theorem wt_repl (N t : Nat) : wt (List.replicate N 0) t = 0 := by
  unfold wt
  rw [List.getD_eq_getElem?_getD, List.getElem?_replicate]
  split <;> rfl

theorem len_parts (p : Nat → Bool) : ∀ l : List Nat, l.length = (l.filter p).length + (l.filter (fun t => !p t)).length
  | [] => rfl
  | x :: l => by
    have := len_parts p l
    rw [List.filter_cons, List.filter_cons]
    cases p x <;> simp <;> omega

/-- So many waited as were woken, and wait still. -/
theorem wait_split {n : Nat} (wh : List Nat) (hn : n ≠ 0) : (waitL wh).length = (wakeL n wh).length + (waitL (wakeS n wh)).length := by
  have h1 : waitL (wakeS n wh) = (waitL wh).filter (fun t => !(wt wh t == n)) := by
    unfold waitL
    rw [wakeS_len, List.filter_filter]
    apply List.filter_congr
    intro t _
    rw [wt_wakeS]
    by_cases h : wt wh t = n
    · simp [h]
    · simp [h]
  have h2 : wakeL n wh = (waitL wh).filter (fun t => wt wh t == n) := by
    unfold wakeL waitL
    rw [List.filter_filter]
    apply List.filter_congr
    intro t _
    by_cases h : wt wh t = n
    · simp [h, hn]
    · simp [h]
  rw [h1, h2]
  exact len_parts (fun t => wt wh t == n) (waitL wh)
theorem skW_sum : ∀ (k n : Nat) (wh : List Nat), ((skW k n wh).map List.length).sum + (waitL (skS k n wh)).length = (waitL wh).length
  | 0, n, wh => by simp [skW, skS]
  | k + 1, n, wh => by
    have ih := skW_sum k (n + 1) (wakeS (n + 1) wh)
    have hs := wait_split (n := n + 1) wh (by omega)
    unfold skW skS
    rw [List.map_append, List.sum_append]
    have : ((if wakeL (n + 1) wh = [] then ([] : List (List Nat)) else [wakeL (n + 1) wh]).map List.length).sum = (wakeL (n + 1) wh).length := by
      split
      · rename_i h; rw [h]; rfl
      · simp
    omega
theorem waitL_range {wh : List Nat} {k : Nat} (h : ∀ t, wt wh t ≠ 0 ↔ t < k) : (waitL wh).length = k := by
  have : (waitL wh).Perm (List.range k) := (List.perm_ext_iff_of_nodup (waitL_nodup wh) List.nodup_range).2 (fun t => by rw [mem_waitL, h t, List.mem_range])
  rw [this.length_eq, List.length_range]

theorem skN_nat {k : Nat} (h : k ≤ 100000) : skN (k : Int) = k := by
  unfold skN
  rw [if_neg (by omega)]
  simp
theorem wakes_skip {w : World} {T : Wp} {s mx : Nat} {xs wh : List Nat} (hQ : WQ w T 40 s wh) (hs : s ≤ 65535) (hmx : mx ≤ 65535) (hw : ∀ t, wt wh t = afM 65535 s xs xs.length t) (hmm : ∀ t, t < xs.length → 1 + xs.getD t 0 % 65535 ≤ mx) :
    ((skW mx s wh).map List.length).sum = xs.length ∧
    (Calls Try.prog 20 #[.pointer (some ⟨T.B, 0, none⟩), .int .i64 (mx : Nat)] w fun e w' => ∃ v, e = .returned v ∧ RowLL w' w.heap.size v (skW mx s wh) ∧ WQ w' T 40 (s + mx) (skS mx s wh) ∧ But T.S w w') ∧
    (skW mx s wh).length ≤ 65535 ∧
    (∀ W, WQ W T 40 (s + mx) (skS mx s wh) → Calls Try.prog 13 #[.pointer (some ⟨T.B, 0, none⟩)] W fun e w' => e = .returned (.int .i64 0) ∧ Below W.heap.size W w') ∧
    (∀ W, WQ W T 40 (s + mx) (skS mx s wh) → Calls Try.prog 12 #[.pointer (some ⟨T.B, 0, none⟩)] W fun e w' => e = .returned (.int .i64 ((s : Int) + (mx : Int))) ∧ w' = W) := by
  have hall : ∀ t, wt wh t ≠ 0 ↔ t < xs.length := fun t => by
    rw [hw t]
    unfold afM
    split <;> omega
  have hlate : Late s wh := fun t ht => by
    have h1 := (hall t).1 ht
    rw [hw t]
    unfold afM
    rw [if_pos h1]
    omega
  have hz : ∀ t, wt (skS mx s wh) t = 0 := fun t => by
    rw [wt_skS mx s wh hlate t]
    have : wt wh t ≤ s + mx := by
      rw [hw t]
      unfold afM
      split
      · rename_i h1
        have := hmm t h1
        omega
      · omega
    rw [if_pos this]
  refine ⟨?_, ?_, Nat.le_trans (skW_len mx s wh) hmx, ?_, ?_⟩
  · have h1 := skW_sum mx s wh
    rw [waitL_nil hz, waitL_range hall] at h1
    exact h1
  · have := skip_any hQ (mx : Int) (tm_small (by omega))
    rwa [skN_nat (by omega)] at this
  · intro W hW
    have := wlen_any hW (tm_small (by omega))
    rw [waitL_nil hz] at this
    exact this
  · intro W hW
    obtain ⟨us, ls, hm, _⟩ := hW.pair
    have := now2_any hm
    rwa [Int.natCast_add] at this

theorem sum_drop {L : List (List Nat)} {i : Nat} (h : i < L.length) : ((L.drop i).map List.length).sum = L[i].length + ((L.drop (i + 1)).map List.length).sum := by
  rw [List.drop_eq_getElem_cons h, List.map_cons, List.sum_cons]

end Go.Proofs.Ytmjjghhlalaeiaa
