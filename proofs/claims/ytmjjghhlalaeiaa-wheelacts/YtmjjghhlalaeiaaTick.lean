/- Contract of Tick. -/
import Derived.Test.YtmjjghhlalaeiaaTurn
import Derived.Test.YtmjjghhlalaeiaaShelf
import Derived.Sort.OwnSortedInts
namespace Go.Proofs.Ytmjjghhlalaeiaa
open Go.RowKit

/-- The library's sort of a row of the call's own. -/
theorem sort_row {W : World} {base : Nat} {v : Value} {xs : List Int} (h : RowI W base v xs) (hb : base ≤ W.heap.size) (hx : xs.length ≤ 4096) :
    Calls Try.prog 44 #[v] W fun e w' => e = .returned (.tuple #[]) ∧ RowI w' base v (xs.mergeSort (fun x y => decide (x ≤ y))) ∧ Below base W w' := by
  rcases h.2 with ⟨rfl, h0⟩ | ⟨g, cap, cur, rfl, hg, hblk, hc, hm, hs, ht⟩
  · have e : xs = [] := List.length_eq_zero_iff.1 h0
    subst e
    refine (Try.slices_Sort_int_none none 0 W).mono ?_
    rintro e w' ⟨rfl, rfl⟩
    refine ⟨rfl, ?_, Below.refl _ _⟩
    simpa using h
  · have hlt := (Array.getElem?_eq_some_iff.1 hblk).1
    refine (Try.slices_Sort_int g 0 cap xs W (holds_of_blockI hblk (by simpa using ht)) hlt (by omega)).mono ?_
    rintro e w' ⟨rfl, m, os, rfl⟩
    have hl : (xs.mergeSort (fun x y => decide (x ≤ y))).length = xs.length := List.length_mergeSort _
    refine ⟨rfl, ?_, (Below.refl base W).grown (grownBy_sortedI _) hb (fun k e => by cases e; exact hg)⟩
    have := ownsRow_sortedI (n := m) (os := os) hl hg hblk hc hm hs
    unfold RowI
    rw [hl]
    exact this

theorem index73 (cs : Array Value) (k : Nat) (v : Value) (hk : k < 4) (h : cs[k]? = some v) (w : World) : (Instr.index 73 (.agg cs) (.int .i64 k)).run Try.prog w = .ok v w := by
  simp [Instr.index, asIntOf, run_underlying Try.underlying73, go_sem, hk, h]

/-- Blocks from n on alone may have turned. -/
theorem But.of_from {n : Nat} {a b : World} (h : Below n a b) : But (List.range' n (a.heap.size - n)) a b :=
  ⟨h.os, h.tape, h.output, h.size, fun k hk hn => h.block k (by
    rcases Nat.lt_or_ge k n with hl | hl
    · exact hl
    · exact absurd (List.mem_range'_1.2 ⟨hl, by omega⟩) hn)⟩
theorem But.from_not {n m k : Nat} (h : k < n) : k ∉ List.range' n m := fun e => by have := (List.mem_range'_1.1 e).1; omega

/-- Sorted, they are those that rise. -/
theorem sort_ids {q r : List Nat} (hq : q.Nodup) (hr : r.Pairwise (· < ·)) (h : ∀ t, t ∈ q ↔ t ∈ r) : (ints q).mergeSort (fun x y => decide (x ≤ y)) = ints r := by
  have hn : r.Nodup := hr.imp (fun h => Nat.ne_of_lt h)
  have hp : q.Perm r := (List.perm_ext_iff_of_nodup hq hn).2 h
  refine List.Perm.eq_of_pairwise (le := fun x y : Int => x ≤ y) (fun a b _ _ h1 h2 => by omega) ?_ ?_ ((List.mergeSort_perm _ _).trans (hp.map _))
  · have := List.pairwise_mergeSort (le := fun x y : Int => decide (x ≤ y)) (fun a b c h1 h2 => by simp at *; omega) (fun a b => by simp; omega) (ints q)
    exact this.imp (fun h => by simpa using h)
  · unfold ints
    rw [List.pairwise_map]
    exact hr.imp (fun h => by omega)

/-- A wheel at n: who waits stands in the row for its time. -/
def WQ (w : World) (T : Wp) (N n : Nat) (wh : List Nat) : Prop := WX w T N n wh (fun u i => i = rowN n u) [] ∧ ∀ t, wt wh t ≠ 0 → n < wt wh t

section
variable {w w' : World} {T : Wp} {N n : Nat} {wh : List Nat}
theorem WQ.keep (h : WQ w T N n wh) (hb : But [] w w') : WQ w' T N n wh := ⟨h.1.keep hb, h.2⟩
theorem WQ.below (h : WQ w T N n wh) (hb : Below w.heap.size w w') : WQ w' T N n wh := ⟨h.1.below hb, h.2⟩
theorem WQ.but {S : List Nat} (h : WQ w T N n wh) (hb : But S w w') (hS : ∀ k ∈ T.S, k ∉ S) : WQ w' T N n wh := ⟨h.1.but hb hS, h.2⟩
theorem WQ.len (h : WQ w T N n wh) : wh.length = N := h.1.len
theorem WQ.lt (h : WQ w T N n wh) {k : Nat} (hk : k ∈ T.S) : k < w.heap.size := h.1.lt hk
theorem WQ.sizes (h : WQ w T N n wh) : 1 ≤ N ∧ N ≤ 4096 := by
  obtain ⟨⟨us, ls, hm, hp⟩, -⟩ := h
  exact hm.sizes
theorem WQ.near (h : WQ w T N n wh) {t : Nat} (ht : wt wh t ≠ 0) : n < wt wh t ∧ wt wh t ≤ n + 65535 := by
  obtain ⟨⟨us, ls, hm, hp⟩, h2⟩ := h
  exact ⟨h2 t ht, hp.near t ht⟩

/-- Those that were woken wait no more. -/
theorem WX.woken {q : List Nat} (h : WX w T N (n + 1) wh (fun u j => j = rowN (n + 1) u ∧ j ≠ (n + 1) % 16) (q ++ [])) (hq : ∀ t ∈ q, wt wh t ≠ 0 ∧ (n + 1) % 16 = rowN (n + 1) (wt wh t)) (hn : ∀ t, wt wh t ≠ 0 → n < wt wh t) :
    (∀ t, t ∈ q ↔ t ∈ wakeL (n + 1) wh) ∧ WQ w T N (n + 1) (wakeS (n + 1) wh) := by
  obtain ⟨us, ls, hm, hp⟩ := h
  have hiff : ∀ t, t ∈ q ↔ wt wh t = n + 1 := fun t => by
    constructor
    · intro ht
      exact rowN_now (hq t ht).2.symm
    · intro ht
      apply Decidable.byContradiction
      intro hno
      obtain ⟨i, p, hi, hmem⟩ := hp.out t (by omega) (by simpa using hno)
      obtain ⟨_, _, h3, h4⟩ := hp.inn i p hi t hmem
      rw [ht, rowN_self] at h3
      exact h4 h3
  refine ⟨fun t => (hiff t).trans (mem_wakeL (by omega)).symm, ⟨us, ls, hm, ?_⟩, ?_⟩
  · refine ⟨by rw [wakeS_len]; exact hp.len, ?_, ?_, ?_, ?_⟩
    · intro t ht h0
      rw [wt_wakeS] at h0 ⊢
      split at h0
      · exact absurd rfl h0
      · rename_i hne
        rw [if_neg hne]
        exact hp.us t ht h0
    · intro i p hi t ht
      obtain ⟨h1, h2, h3, h4⟩ := hp.inn i p hi t ht
      have hne : wt wh t ≠ n + 1 := fun e => h1 (by rw [List.append_nil]; exact (hiff t).2 e)
      rw [wt_wakeS, if_neg hne]
      exact ⟨by simp, h2, h3⟩
    · intro t h0 _
      rw [wt_wakeS] at h0
      split at h0
      · exact absurd rfl h0
      · rename_i hne
        exact hp.out t h0 (fun e => hne ((hiff t).1 (by simpa using e)))
    · intro t h0
      rw [wt_wakeS] at h0 ⊢
      split at h0
      · exact absurd rfl h0
      · rename_i hne
        rw [if_neg hne]
        exact hp.near t h0
  · intro t h0
    rw [wt_wakeS] at h0 ⊢
    split at h0
    · exact absurd rfl h0
    · rename_i hne
      rw [if_neg hne]
      have := hn t h0
      omega

set_option maxRecDepth 100000 in
set_option maxHeartbeats 4000000 in
theorem tick_any (h : WQ w T N n wh) (hT : Tm (n + 1)) :
    Calls Try.prog 22 #[.pointer (some ⟨T.B, 0, none⟩)] w fun e w' => ∃ v, e = .returned v ∧ RowI w' w.heap.size v (ints (wakeL (n + 1) wh)) ∧ WQ w' T N (n + 1) (wakeS (n + 1) wh) ∧ But T.S w w' := by
  obtain ⟨hX, hN⟩ := h
  have hX' := hX
  obtain ⟨us, ls, hm, hp⟩ := hX'
  have HM := wmade_any hm
  have c0 := hm.c0
  have f0 := hm.b.fz 0
  have hBS : T.B ∉ T.P.S := by
    have nb := hm.nb
    simp [Wp.five] at nb
    simp [Pl.S]; omega
  have ewrap : IntKind.i64.wrap ((n : Int) + 1) = ((n + 1 : Nat) : Int) := by
    have hTm : n + 1 < 4000000000000000000 := hT
    rw [IntKind.wrap_i64] <;> omega
  have ewrap' : wrap64 ((n : Int) + 1) = ((n + 1 : Nat) : Int) := by
    have hTm : n + 1 < 4000000000000000000 := hT
    unfold wrap64
    omega
  have h1 : WX (w.setCell ⟨T.B, 0, none⟩ (.int .i64 (n + 1 : Nat))) T N (n + 1) wh (Rl (n + 1) 1) [] := by
    refine ⟨us, ls, hm.setN (n + 1), hp.len, hp.us, fun i q hq t ht => ?_, hp.out, fun t ht => by have := hp.near t ht; omega⟩
    obtain ⟨a1, a2, a3⟩ := hp.inn i q hq t ht
    refine ⟨a1, a2, ?_⟩
    rw [a3]
    exact turn_start (hN t a2) (hp.near t a2)
  have hb1 : But T.S w (w.setCell ⟨T.B, 0, none⟩ (.int .i64 (n + 1 : Nat))) := (But.refl T.S w).set (p := ⟨T.B, 0, none⟩) (by simp [Wp.S]) _
  have HTu := turn_any h1 hT
  go_enter Try.func22, Try.ntmps22
  go_wp2_with (first
    | (go_at_call 31; refine HM.mono ?_; rintro e w' ⟨rfl, hw⟩; subst w')
    | (go_at_call 41; refine HTu.mono ?_; rintro e w2 ⟨rfl, h2, b2⟩))
  have hk : prt 0 (n + 1) = (n + 1) % 16 := rfl
  have hk0 : (0 : Int) ≤ ((prt 0 (n + 1) : Nat) : Int) := by omega
  have hk1 : ((prt 0 (n + 1) : Nat) : Int) < 16 := by omega
  have hk64 : prt 0 (n + 1) < 64 := by omega
  have hS : w2.cell? ⟨T.B, 0, none⟩ = some (.int .i64 (n + 1 : Nat)) ∧ w2.cell? ⟨T.B, 2 + prt 0 (n + 1), none⟩ = some (.int .i64 (prt 0 (n + 1) : Nat)) := by
    obtain ⟨us2, ls2, hm2, hp2⟩ := h2
    exact ⟨hm2.c0, hm2.cr hk64⟩
  have hSd := c2_on (S := []) ((But.refl [] w2).drew) (by simp) (by simp) hS
  have HC := cut_any (n + 1) hT.lt w2.drew
  have HE : ∀ W, Below w2.drew.heap.size w2.drew W → Calls Try.prog 42 #[.pointer (some ⟨T.B, 0, none⟩), .int .i64 (prt 0 (n + 1) : Nat)] W fun e w' => ∃ v q, e = .returned v ∧ RowI w' W.heap.size v (ints q) ∧ q.length ≤ 4096 ∧ (ints q).mergeSort (fun x y => decide (x ≤ y)) = ints (wakeL (n + 1) wh) ∧ WQ w' T N (n + 1) (wakeS (n + 1) wh) ∧ But T.P.S W w' := fun W hW => by
    refine (xempty_any ((h2.keep (But.refl [] w2).drew).below hW) (prt 0 (n + 1)) hk64).mono ?_
    rintro e w' ⟨v, q, rfl, hr, hnd, hl, hq, hx, hb⟩
    have := WX.woken (n := n) hx (fun t ht => ⟨(hq t ht).2.1, (hq t ht).2.2⟩) hN
    exact ⟨v, q, rfl, hr, hl, sort_ids hnd (wakeL_sorted _ _) this.1, this.2, hb⟩
  have hsz : w.heap.size ≤ w2.heap.size := Nat.le_trans hb1.size b2.size
  have hlt : ∀ x ∈ T.S, x < w.heap.size := fun x hx => hm.lt hx
  have hB2 : But T.S w w2 := hb1.trans (b2.mono Wp.PS)
  have hB2d := hB2.drew
  unfold prtV prtC at HC
  clear hX HM c0 f0 h1 hb1 HTu h2 b2 hm hp ewrap ewrap' hk hk64 hB2 hN
  generalize prt 0 (n + 1) = k at *
  generalize prt 1 (n + 1) = p1 at *
  generalize prt 2 (n + 1) = p2 at *
  generalize prt 3 (n + 1) = p3 at *
  have hidx : ∀ W, (Instr.index 73 (.agg #[.int .i64 (k : Nat), .int .i64 (p1 : Nat), .int .i64 (p2 : Nat), .int .i64 (p3 : Nat)]) (.int .i64 0)).run Try.prog W = .ok (.int .i64 (k : Nat)) W := fun W => index73 _ 0 _ (by omega) rfl W
  go_region_held3 (fun w' => w'.cell? ⟨T.B, 0, none⟩ = some (.int .i64 (n + 1 : Nat)) ∧ w'.cell? ⟨T.B, 2 + k, none⟩ = some (.int .i64 (k : Nat))) (first | with_reducible assumption | with_reducible exact hSd) (first
    | (go_at_call 43; refine HC.mono ?_; rintro e w3 ⟨rfl, b3⟩; have k3 := c2_on (S := []) (.of_below b3) (by simp) (by simp) hSd)
    | (go_at_call 42; refine (HE _ b3).mono ?_; rintro e w4 ⟨v, q, rfl, hr, hl, hws, m4, b4⟩; have k4 := c2_on b4 hBS hBS k3))
  all_goals
    have hs3 : w2.heap.size ≤ w3.heap.size := b3.size
    have HS := sort_row hr b4.size (by rw [ints_len]; exact hl)
    rw [hws] at HS
    clear k3 k4 HE HC hSd hS
    go_wp2_with (first
      | (go_at_call 44; refine HS.mono ?_; rintro e w5 ⟨rfl, hr5, b5⟩))
    go_ret
    have hb4 : But T.S w w4 := (hB2d.trans (.of_below b3)).trans (b4.mono Wp.PS)
    have b5' := But.of_from b5
    exact ⟨_, rfl, row_lower hr5 (by omega), m4.but b5' (fun k hk => But.from_not (by have := hlt k hk; omega)), hb4.trans_new b5' (fun x hx => .inr (by have := (List.mem_range'_1.1 hx).1; omega))⟩
end
end Go.Proofs.Ytmjjghhlalaeiaa
