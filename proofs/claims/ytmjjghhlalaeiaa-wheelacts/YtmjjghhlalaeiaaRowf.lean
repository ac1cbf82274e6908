/- Contract of row: in which row one stands that waits until then. -/
import Derived.Test.YtmjjghhlalaeiaaCut
namespace Go.Proofs.Ytmjjghhlalaeiaa
open Go.RowKit

theorem cell_of {w : World} {G j : Nat} {cs : Array Value} {t : TypeId} {v : Value} (h : w.heap[G]? = some (.cells cs t (0, 0))) (hv : cs[j]? = some v) : w.cell? ⟨G, j, none⟩ = some v := by simp [World.cell?, h, hv]
theorem prtC_get {t j : Nat} (hj : j ≤ 3) : (prtC t)[j]? = some (.int .i64 (prt j t : Nat)) := by
  match j, hj with
  | 0, _ => rfl
  | 1, _ => rfl
  | 2, _ => rfl
  | 3, _ => rfl

/-- Two arrays of parts, laid one behind the other. -/
theorem two_laid (w : World) (a b : Nat) {W : World} (hW : W = (w.alloc (.cells (prtC a) 73)).alloc (.cells (prtC b) 73)) :
    (∀ j, j ≤ 3 → W.cell? ⟨w.heap.size, j, none⟩ = some (.int .i64 (prt j a : Nat))) ∧ (∀ j, j ≤ 3 → W.cell? ⟨w.heap.size + 1, j, none⟩ = some (.int .i64 (prt j b : Nat))) ∧ Below w.heap.size w W := by
  subst hW
  have h1 : ((w.alloc (.cells (prtC a) 73)).alloc (.cells (prtC b) 73)).heap[w.heap.size]? = some (.cells (prtC a) 73 (0, 0)) := (Below.heap_alloc _ _ _ (by simp)).trans (heap_alloc_new w _)
  have h2 : ((w.alloc (.cells (prtC a) 73)).alloc (.cells (prtC b) 73)).heap[w.heap.size + 1]? = some (.cells (prtC b) 73 (0, 0)) := by
    have := heap_alloc_new (w.alloc (.cells (prtC a) 73)) (.cells (prtC b) 73)
    rwa [show (w.alloc (.cells (prtC a) 73)).heap.size = w.heap.size + 1 by simp] at this
  exact ⟨fun j hj => cell_of h1 (prtC_get hj), fun j hj => cell_of h2 (prtC_get hj), ((Below.refl _ w).alloc (Nat.le_refl _) _).alloc (by simp) _⟩

section
variable {w w' : World} {T : Wp} {N n : Nat} {us : List Int} {ls : List (List Nat)}

set_option maxHeartbeats 2000000 in
theorem row_any (h : WM w T N n us ls) (u : Nat) (hn : n < 4611686018427387904) (hu : u < 4611686018427387904) :
    Calls Try.prog 60 #[.pointer (some ⟨T.B, 0, none⟩), .int .i64 u] w fun e w' => e = .returned (.int .i64 (rowN n u : Nat)) ∧ Below w.heap.size w w' := by
  have c0 := h.c0
  go_enter Try.func60, Try.ntmps60
  go_wp2_with (first
    | (go_at_call 43; (with_reducible refine (cut_any n hn _).mono ?_); rintro e w1 ⟨rfl, b1⟩; unfold prtV prtC)
    | (go_at_call 43; (with_reducible refine (cut_any u hu _).mono ?_); rintro e w2 ⟨rfl, b2⟩; unfold prtV prtC))
  generalize hW : ((w2.alloc (.cells #[.int .i64 (prt 0 n : Nat), .int .i64 (prt 1 n : Nat), .int .i64 (prt 2 n : Nat), .int .i64 (prt 3 n : Nat)] 73)).alloc (.cells #[.int .i64 (prt 0 u : Nat), .int .i64 (prt 1 u : Nat), .int .i64 (prt 2 u : Nat), .int .i64 (prt 3 u : Nat)] 73)) = W
  obtain ⟨ca, cb, bW⟩ := two_laid w2 n u hW.symm
  have b12 := b1.trans (b2.mono b1.size)
  have bB := b12.trans (bW.mono b12.size)
  have hM := h.below bB
  clear hW c0 h b1 b2 b12 bW
  have hl3 := lev_le n u
  generalize hp : Value.agg #[Value.int .i64 (prt 0 n : Nat), .int .i64 (prt 1 n : Nat), .int .i64 (prt 2 n : Nat), .int .i64 (prt 3 n : Nat)] = v1
  generalize hq : Value.agg #[Value.int .i64 (prt 0 u : Nat), .int .i64 (prt 1 u : Nat), .int .i64 (prt 2 u : Nat), .int .i64 (prt 3 u : Nat)] = v2
  clear hp hq
  generalize w2.heap.size = X at *
  go_loopw [7] (fun p wr => ∃ j : Nat, j ≤ 3 ∧ lev n u ≤ j ∧ p = .int .i64 j ∧ Drawn W wr) (fun p _ => (intOf p).toNat)
  case atStart => exact ⟨3, by omega, hl3, rfl, Drawn.refl _⟩
  case round =>
    obtain ⟨j, hj, hlj, rfl, hd⟩ := hrel
    have xa := (Drawn.but (S := []) hd).cell (ca j hj)
    have xb := (Drawn.but (S := []) hd).cell (cb j hj)
    have hM' := hM.drawn hd
    have bB' := bB.trans ((But.to_below (Drawn.but (S := []) hd)).mono bB.size)
    have j0 : (0 : Int) ≤ (j : Int) := by omega
    have j4 : (j : Int) < 4 := by omega
    by_cases hst : 0 < j ∧ prt j u = prt j n
    · obtain ⟨hj1, he⟩ := hst
      have hlj' : lev n u ≤ j - 1 := by
        rcases lev_cases n u with ⟨e, h⟩ | ⟨e, h⟩ | ⟨e, h⟩ | ⟨e, h⟩ <;> (rcases (by omega : j = 1 ∨ j = 2 ∨ j = 3) with rfl | rfl | rfl) <;> simp only [prt] at he <;> omega
      have hg : (0 : Int) < (j : Int) := by omega
      rw [he] at xb
      go_wp2_with fail
      go_quiet (fail)
      go_wp2_with fail
      go_roundw
      case rel => exact ⟨j - 1, by omega, hlj', by simp; omega, hd.trans ⟨nq, rfl⟩⟩
      case measure =>
        simp [intOf]
        omega
    · have hE : lev n u = j := by
        rcases Nat.eq_zero_or_pos j with rfl | hp
        · omega
        · have hne : prt j u ≠ prt j n := fun e => hst ⟨hp, e⟩
          rcases lev_cases n u with ⟨e, h⟩ | ⟨e, h⟩ | ⟨e, h⟩ | ⟨e, h⟩ <;> (rcases (by omega : j = 1 ∨ j = 2 ∨ j = 3) with rfl | rfl | rfl) <;> simp only [prt] at hne <;> omega
      have hR : rowN n u = 16 * j + prt j u % 16 := by unfold rowN; rw [hE]
      have e1 := tmod16 (prt j u)
      have hk : prt j u % 16 < 16 := by omega
      have hk0 : (0 : Int) ≤ ((prt j u % 16 : Nat) : Int) := by omega
      have hk1 : ((prt j u % 16 : Nat) : Int) < 16 := by omega
      generalize prt j u % 16 = k at *
      clear hE
      obtain rfl | rfl | rfl | rfl : j = 0 ∨ j = 1 ∨ j = 2 ∨ j = 3 := by omega
      · have cr : wr.cell? ⟨T.B, 2 + k, none⟩ = some (.int .i64 ((16 * 0 + k : Nat) : Int)) := by
          have := hM'.cr (i := 16 * 0 + k) (by omega)
          rwa [show 2 + (16 * 0 + k) = 2 + k by omega] at this
        clear hM hM' bB ca cb hk hlj hl3 hj hst
        go_wp2_with fail
        go_quiet (fail)
        go_wp2_with fail
        go_quiet (fail)
        go_wp2_with fail
        go_ret
        rw [hR]
        exact ⟨by simp, bB'.trans ((But.to_below ((But.refl [] wr).drewN _ |>.drewN _)).mono bB'.size)⟩
      · have cr : wr.cell? ⟨T.B, 18 + k, none⟩ = some (.int .i64 ((16 * 1 + k : Nat) : Int)) := by
          have := hM'.cr (i := 16 * 1 + k) (by omega)
          rwa [show 2 + (16 * 1 + k) = 18 + k by omega] at this
        have hne : prt 1 u ≠ prt 1 n := fun e => hst ⟨by omega, e⟩
        have hne' : ((prt 1 u : Nat) : Int) ≠ ((prt 1 n : Nat) : Int) := by omega
        have hnb : (((prt 1 u : Nat) : Int) == ((prt 1 n : Nat) : Int)) = false := by simpa using hne'
        clear hM hM' bB ca cb hk hlj hl3 hj hst
        go_wp2_with fail
        go_quiet (fail)
        go_wp2_with fail
        go_quiet (fail)
        go_wp2_with fail
        go_ret
        rw [hR]
        exact ⟨by simp, bB'.trans ((But.to_below ((But.refl [] wr).drewN _ |>.drewN _)).mono bB'.size)⟩
      · have cr : wr.cell? ⟨T.B, 34 + k, none⟩ = some (.int .i64 ((16 * 2 + k : Nat) : Int)) := by
          have := hM'.cr (i := 16 * 2 + k) (by omega)
          rwa [show 2 + (16 * 2 + k) = 34 + k by omega] at this
        have hne : prt 2 u ≠ prt 2 n := fun e => hst ⟨by omega, e⟩
        have hne' : ((prt 2 u : Nat) : Int) ≠ ((prt 2 n : Nat) : Int) := by omega
        have hnb : (((prt 2 u : Nat) : Int) == ((prt 2 n : Nat) : Int)) = false := by simpa using hne'
        clear hM hM' bB ca cb hk hlj hl3 hj hst
        go_wp2_with fail
        go_quiet (fail)
        go_wp2_with fail
        go_quiet (fail)
        go_wp2_with fail
        go_ret
        rw [hR]
        exact ⟨by simp, bB'.trans ((But.to_below ((But.refl [] wr).drewN _ |>.drewN _)).mono bB'.size)⟩
      · have cr : wr.cell? ⟨T.B, 50 + k, none⟩ = some (.int .i64 ((16 * 3 + k : Nat) : Int)) := by
          have := hM'.cr (i := 16 * 3 + k) (by omega)
          rwa [show 2 + (16 * 3 + k) = 50 + k by omega] at this
        have hne : prt 3 u ≠ prt 3 n := fun e => hst ⟨by omega, e⟩
        have hne' : ((prt 3 u : Nat) : Int) ≠ ((prt 3 n : Nat) : Int) := by omega
        have hnb : (((prt 3 u : Nat) : Int) == ((prt 3 n : Nat) : Int)) = false := by simpa using hne'
        clear hM hM' bB ca cb hk hlj hl3 hj hst
        go_wp2_with fail
        go_quiet (fail)
        go_wp2_with fail
        go_quiet (fail)
        go_wp2_with fail
        go_ret
        rw [hR]
        exact ⟨by simp, bB'.trans ((But.to_below ((But.refl [] wr).drewN _ |>.drewN _)).mono bB'.size)⟩

end
end Go.Proofs.Ytmjjghhlalaeiaa
