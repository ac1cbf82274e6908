/- Contract of the reference's Need, with where the rows lie. -/
import Derived.Test.YtokigpmkhkldkaaNeed
namespace Go.Proofs.Ytokigpmkhkldkaa
open Go.RowKit

section
variable {w : World} {xa ya : Option Addr} {xc yc : Nat} {os ts : List Int}

set_option maxHeartbeats 2000000 in
theorem rneedV_any (hx : IX w xa os) (hy : IX w ya ts) (hz : Sz os) (hzt : Sz ts) (ot : OkX ts) (hg : rightB os ts = true) :
    Calls Try.prog 17 #[.slice xa os.length xc, .slice ya ts.length yc] w fun e w' => ∃ e1 e2 : Nat, e = .returned (.tuple #[.slice (some ⟨e1, 0, none⟩) ts.length ts.length, .slice (some ⟨e2, 0, none⟩) ts.length ts.length]) ∧ (e1 ≠ e2 ∧ w.heap.size ≤ e1 ∧ w.heap.size ≤ e2 ∧ e1 < w'.heap.size ∧ e2 < w'.heap.size) ∧ WB w' e1 ts.length (exL os ts) ∧ WB w' e2 ts.length (lkL os ts) ∧ Below w.heap.size w w' := by
  have R := right_any (xc := xc) (yc := yc) hx hy hz hzt
  rw [hg] at R
  obtain ⟨t0, hgood⟩ := right_iff.1 hg
  obtain ⟨g1, g2, g3, g4⟩ := good_iff.1 hgood
  have hN : ts.length ≤ 64 := by omega
  have hcA : countA os (ts.length : Int) = cntL os ts.length := by unfold countA; rw [hgood, if_pos rfl, show ((ts.length : Nat) : Int).toNat = ts.length from Int.toNat_natCast _]
  have C := fun W (h : Below w.heap.size w W) => rcount_any (xc := xc) (hx.below h) hz (ts.length : Int)
  rw [hcA, cntL_len] at C
  have hmk := make22 (n := ts.length) (by omega)
  clear hg hcA hgood g4 g2 g3 hx
  go_enter Try.func17, Try.ntmps17
  go_upto_region 3 with (first | (go_at_call 29; (with_reducible refine R.mono ?_); rintro e w2 ⟨rfl, b2⟩))
  go_cut [6, 7] from 14 to 19 (fun s6 s7 wx => ∃ e1 e2 : Nat, s6 = .slice (some ⟨e1, 0, none⟩) ts.length ts.length ∧ s7 = .slice (some ⟨e2, 0, none⟩) ts.length ts.length ∧ e1 ≠ e2 ∧ w.heap.size ≤ e1 ∧ w.heap.size ≤ e2 ∧ e1 < wx.heap.size ∧ e2 < wx.heap.size ∧ WB wx e1 ts.length (exJ os ts 0) ∧ WB wx e2 ts.length (lkJ os ts 0) ∧ Below w.heap.size w wx)
  case first =>
    obtain ⟨k1, k2, k3, k4⟩ := two_made w2 ts.length
    have k5 := b2.size
    have k6 := below2 b2 b2.size k3
    go_region
    all_goals
      go_wp2_with fail
      go_meet
      case rel =>
        rw [exJ_zero, lkJ_zero]
        first
          | exact ⟨w2.heap.size, w2.heap.size + 1, rfl, rfl, by omega, by omega, by omega, by omega, by omega, k1, k2, k6⟩
          | exact ⟨w2.heap.size + 1, w2.heap.size, rfl, rfl, by omega, by omega, by omega, by omega, by omega, k2, k1, k6⟩
  case rest =>
    obtain ⟨e1, e2, rfl, rfl, hne, l1, l2, l3, l4, wb1, wb2, hb⟩ := hcut
    have hL : Hid (e1 ≠ e2 ∧ w.heap.size ≤ e1 ∧ w.heap.size ≤ e2) := ⟨hne, l1, l2⟩
    have CC := C _ hb
    clear hmk R b2 C hne l1 l2
    go_wp2_with (first | (go_at_call 21; (with_reducible refine CC.mono ?_); rintro e w3 ⟨ca, cc, rfl, hc3, hnew, b3⟩))
    have hn1 : Hid (∀ b o, ca = some ⟨b, o, none⟩ → b ≠ e1 ∧ b ≠ e2) := fun b o e => by have := hnew b o e; omega
    have wb1' := wb1.below b3
    have wb2' := wb2.below b3
    have hb3 := below2 hb hb.size b3
    have l5 : Hid (e1 < w3.heap.size ∧ e2 < w3.heap.size) := ⟨Nat.lt_of_lt_of_le l3 b3.size, Nat.lt_of_lt_of_le l4 b3.size⟩
    clear wb1 wb2 hb b3 l3 l4 hnew
    go_loopw [25, 8] (fun v _ wr => ∃ j : Nat, j ≤ ts.length ∧ v = .int .i64 j ∧ WB wr e1 ts.length (exJ os ts j) ∧ WB wr e2 ts.length (lkJ os ts j) ∧ IX wr ca (cntL os ts.length) ∧ w3.heap.size ≤ wr.heap.size ∧ Below w.heap.size w wr) (fun v _ _ => 100 - (intOf v).toNat)
    case atStart => exact ⟨0, Nat.zero_le _, rfl, wb1', wb2', hc3, Nat.le_refl _, hb3⟩
    case round =>
      clear wb1' wb2' hc3 hb3
      obtain ⟨j, hj, rfl, wb1, wb2, hc, hsz, hb⟩ := hrel
      by_cases hlt : j < ts.length
      · obtain ⟨b, o, rfl, c0⟩ := hy.below hb j hlt
        obtain ⟨b', o', rfl, c1⟩ := hc j (by rw [cntL_len]; exact hlt)
        have hlt' : (j : Int) < (ts.length : Int) := by omega
        have x1 := wb1.2.1 j hlt
        have f1 := wb1.2.2 j hlt
        have x2 := wb2.2.1 j hlt
        have f2 := wb2.2.2 j hlt
        have hle := ct_le os ((j : Int) + 1) os.length
        have tj := t0 j hlt
        have tj2 := (ot j hlt).2
        obtain ⟨n1, n2⟩ := hn1.out b' o' rfl
        have hbt : b < w.heap.size := by
          obtain ⟨b5, o5, e5, c5⟩ := hy j hlt
          cases e5
          exact World.block_lt_of_cell? w _ c5
        have n3 : b ≠ e1 := by have := hL.out; omega
        have n4 : b ≠ e2 := by have := hL.out; omega
        have n5 : e1 ≠ e2 := hL.out.1
        rw [ix_cntL hlt] at c1
        have hc2 : 0 ≤ ((cn os ((j : Int) + 1) : Nat) : Int) := by omega
        have hc3 : ((cn os ((j : Int) + 1) : Nat) : Int) ≤ 64 := by unfold cn; omega
        by_cases q : ix ts j < ((cn os ((j : Int) + 1) : Nat) : Int)
        · have hex : exI os ts j = ((cn os ((j : Int) + 1) : Nat) : Int) - ix ts j := if_pos q
          have hlk : lkI os ts j = 0 := if_pos q
          have nx1 : Hid (exJ os ts (j + 1) = (exJ os ts j).set j (((cn os ((j : Int) + 1) : Nat) : Int) - ix ts j)) := by rw [← hex]; exact exJ_next hlt
          have nx2 : Hid (lkJ os ts (j + 1) = lkJ os ts j) := lkJ_none hlt hlk
          clear hex hlk hle
          generalize ((cn os ((j : Int) + 1) : Nat) : Int) = cv at *
          generalize ix ts j = tv at *
          go_wp2_with fail
          go_roundw
          case rel =>
            refine ⟨j + 1, by omega, by simp, ?_, ?_, ?_, by simpa using hsz, hb.setCell (show w.heap.size ≤ e1 from hL.out.2.1) _⟩
            · rw [nx1.out]; exact wb1.set hlt
            · rw [nx2.out]; exact wb2.other n5 _
            · exact ix_other hc (fun b o e => (hn1.out b o e).1) _
          case measure =>
            simp [intOf]
            omega
        · have hex : exI os ts j = 0 := if_neg q
          have hlk : lkI os ts j = ix ts j - ((cn os ((j : Int) + 1) : Nat) : Int) := if_neg q
          have nx1 : Hid (exJ os ts (j + 1) = exJ os ts j) := exJ_none hlt hex
          have nx2 : Hid (lkJ os ts (j + 1) = (lkJ os ts j).set j (ix ts j - ((cn os ((j : Int) + 1) : Nat) : Int))) := by rw [← hlk]; exact lkJ_next hlt
          have q' : decide (ix ts j < ((cn os ((j : Int) + 1) : Nat) : Int)) = false := by simp; omega
          clear hex hlk hle
          generalize ((cn os ((j : Int) + 1) : Nat) : Int) = cv at *
          generalize ix ts j = tv at *
          go_wp2_with fail
          go_roundw
          case rel =>
            refine ⟨j + 1, by omega, by simp, ?_, ?_, ?_, by simpa using hsz, hb.setCell (show w.heap.size ≤ e2 from hL.out.2.2) _⟩
            · rw [nx1.out]; exact wb1.other (Ne.symm n5) _
            · rw [nx2.out]; exact wb2.set hlt
            · exact ix_other hc (fun b o e => (hn1.out b o e).2) _
          case measure =>
            simp [intOf]
            omega
      · obtain rfl : j = ts.length := by omega
        go_wp2_with fail
        go_ret2
        have hL' := hL.out
        have l5' := l5.out
        exact ⟨e1, e2, rfl, ⟨hL'.1, hL'.2.1, hL'.2.2, by omega, by omega⟩, wb1, wb2, hb⟩
end
end Go.Proofs.Ytokigpmkhkldkaa
