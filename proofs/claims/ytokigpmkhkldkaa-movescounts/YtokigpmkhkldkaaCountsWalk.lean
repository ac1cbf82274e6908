/- The walk of MovesCounts. -/
import Derived.Test.YtokigpmkhkldkaaLives
namespace Go.Proofs.Ytokigpmkhkldkaa
open Go.RowKit

section
variable {w : World} {xa ya : Option Addr} {xc yc : Nat} {os ts : List Int}

set_option maxRecDepth 100000 in
set_option maxHeartbeats 4000000 in
theorem counts_any (hx : IX w xa os) (hy : IX w ya ts) (ot : OkX ts) (n : Int) :
    Calls Try.prog 4 #[.slice xa os.length xc, .int .i64 n, .slice ya ts.length yc] w fun e w' => e = .returned (.bool true) ∧ Below w.heap.size w w' := by
  by_cases c1 : 70 < os.length
  · have c1' : (70 : Int) < (os.length : Int) := by omega
    go_enter Try.func4, Try.ntmps4
    go_wp2_with (first | (go_at_call 8; (with_reducible refine (lives_any _).mono ?_); rintro e w2 ⟨rfl, b2⟩))
    go_ret
    exact ⟨rfl, b2⟩
  have c1' : decide ((70 : Int) < (os.length : Int)) = false := by simp; omega
  by_cases c2 : 70 < ts.length
  · have c2' : (70 : Int) < (ts.length : Int) := by omega
    clear c1
    go_enter Try.func4, Try.ntmps4
    go_wp2_with (first | (go_at_call 8; (with_reducible refine (lives_any _).mono ?_); rintro e w2 ⟨rfl, b2⟩))
    go_ret
    exact ⟨rfl, b2⟩
  have c2' : decide ((70 : Int) < (ts.length : Int)) = false := by simp; omega
  have hz : Sz os := Sz.small (by omega)
  have hzt : Sz ts := Sz.small (by omega)
  have N := need_any (xc := xc) (yc := yc) hx hy hzt ot
  have RN := fun W (h : Below w.heap.size w W) => rneed_any (xc := xc) (yc := yc) (hx.below h) (hy.below h) hz hzt ot
  have G := fun W (h : Below w.heap.size w W) => good_any (xc := xc) (hx.below h) n
  have RG := fun W (h : Below w.heap.size w W) => rgood_any (xc := xc) (hx.below h) hz n
  have C := fun W (h : Below w.heap.size w W) => count_any (xc := xc) (hx.below h) n
  have RC := fun W (h : Below w.heap.size w W) => rcount_any (xc := xc) (hx.below h) hz n
  have hlA : (countA os n).length ≤ 1000 := by
    unfold countA
    split
    · rename_i h
      rw [cntL_len]
      have := good_iff.1 h
      omega
    · exact Nat.zero_le _
  have hlB : (exA os ts).length ≤ 1000 := by
    unfold exA
    split
    · rw [exL_len]; omega
    · exact Nat.zero_le _
  have hlC : (lkA os ts).length ≤ 1000 := by
    unfold lkA
    split
    · rw [lkL_len]; omega
    · exact Nat.zero_le _
  have I := fun W (xs : List Int) a c b d (ha : IX W a xs) (hb : IX W b xs) (hn : xs.length ≤ 1000) => ints_any (xc := c) (yc := d) ha hb hn
  have I' : ∀ (W : World) (xs : List Int) (a : Option Addr) (c : Nat) (b : Option Addr) (d : Nat), IX W a xs → IX W b xs → xs.length ≤ 1000 → Calls Try.prog 13 #[.slice a xs.length c, .slice b xs.length d] W fun e w' => e = .returned (.bool true) ∧ Below W.heap.size W w' := fun W xs a c b d ha hb hn => by
    have h := I W xs a c b d ha hb hn
    rw [show decide (xs = xs) = true from decide_eq_true rfl] at h
    exact h
  clear c1 c2 I
  generalize countA os n = CA at *
  generalize exA os ts = EX at *
  generalize lkA os ts = LK at *
  cases hg : goodB os n
  all_goals
    rw [hg] at G RG
    clear hg
    go_enter Try.func4, Try.ntmps4
    go_wp2_with (first
      | (go_at_call 16; (with_reducible refine N.mono ?_); rintro e w2 ⟨na, nc, nb, nd, rfl, hnd⟩; obtain ⟨⟨nx, _, _⟩, ⟨ny, _, _⟩, _, b2⟩ := hnd)
      | (go_at_call 17; (with_reducible refine (RN _ b2).mono ?_); rintro e w3 ⟨ra, rc, rb, rd, rfl, hrd⟩; obtain ⟨⟨rx, _, _⟩, ⟨ry, _, _⟩, _, b3'⟩ := hrd; have b3 := below2 b2 b2.size b3'; have nx3 := nx.below b3'; have ny3 := ny.below b3')
      | (go_at_call 18; (with_reducible refine (G _ b3).mono ?_); rintro e w4 ⟨rfl, b4'⟩; have b4 := below2 b3 b3.size b4')
      | (go_at_call 19; (with_reducible refine (RG _ b4).mono ?_); rintro e w5 ⟨rfl, b5'⟩; have b5 := below2 b4 b4.size b5')
      | (go_at_call 20; (with_reducible refine (C _ b5).mono ?_); rintro e w6 ⟨ca, cc, rfl, cx, _, b6'⟩; have b6 := below2 b5 b5.size b6')
      | (go_at_call 21; (with_reducible refine (RC _ b6).mono ?_); rintro e w7 ⟨da, dc, rfl, dx, _, b7'⟩; have b7 := below2 b6 b6.size b7')
      | (go_at_call 13; (with_reducible refine (I' _ _ _ _ _ _ (cx.below b7') dx hlA).mono ?_); rintro e w8 ⟨rfl, b8'⟩; have b8 := below2 b7 b7.size b8'; have hh := (Below.refl w3.heap.size w3).trans b4'; have h1 := below2 (below2 (below2 (below2 hh hh.size b5') (Nat.le_trans hh.size b5'.size) b6') (Nat.le_trans (Nat.le_trans hh.size b5'.size) b6'.size) b7') (Nat.le_trans (Nat.le_trans (Nat.le_trans hh.size b5'.size) b6'.size) b7'.size) b8'; have nx8 := nx3.below h1; have ny8 := ny3.below h1; have rx8 := rx.below h1; have ry8 := ry.below h1)
      | (go_at_call 13; (with_reducible refine (I' _ _ _ _ _ _ nx8 rx8 hlB).mono ?_); rintro e w9 ⟨rfl, b9'⟩; have b9 := below2 b8 b8.size b9')
      | (go_at_call 13; (with_reducible refine (I' _ _ _ _ _ _ (ny8.below b9') (ry8.below b9') hlC).mono ?_); rintro e w10 ⟨rfl, b10'⟩; have b10 := below2 b9 b9.size b10')
      | (go_at_call 8; (with_reducible refine (lives_any _).mono ?_); rintro e w11 ⟨rfl, b11⟩))
    go_ret
    exact ⟨rfl, below2 b10 b10.size b11⟩
end
end Go.Proofs.Ytokigpmkhkldkaa
