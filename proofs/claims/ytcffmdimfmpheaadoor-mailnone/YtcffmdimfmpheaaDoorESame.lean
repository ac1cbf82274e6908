/- Rows of events that are held against one another: the reference. -/
import Derived.Test.YtcffmdimfmpheaaDoorEEq
import Derived.BigQuiet
namespace Go.Proofs.YtcffmdimfmpheaaDoor
open Go Go.RowKit

set_option maxHeartbeats 2000000 in
set_option maxRecDepth 100000 in
theorem rsame_any {w : World} {xs ys : List Ev} {a b : Option Addr} (c d : Nat) (hx : EV w a xs) (hy : EV w b ys) (hn : xs.length ≤ 100000) :
    Calls Tryd.prog 13 #[.slice a xs.length c, .slice b ys.length d] w fun e w' => e = .returned (.bool (sameB xs ys)) ∧ Below w.heap.size w w' := by
  by_cases hl : xs.length = ys.length
  · rw [← hl]
    obtain ⟨n, hN⟩ : ∃ n, Hid (xs.length = n) := ⟨_, rfl⟩
    have hn' : n ≤ 100000 := by rw [← hN.out]; exact hn
    have HL : Hid (xs.length = ys.length) := hl
    rw [hN.out]
    clear hl hn
    obtain ⟨q, hq⟩ : ∃ q, Hid (sameB xs ys = q) := ⟨_, rfl⟩
    rw [hq.out]
    go_enter Tryd.func13, Tryd.ntmps13
    go_wp2_with fail
    go_loopw [13, 5] (fun v _ wr => ∃ j : Nat, j ≤ n ∧ v = .int .i64 j ∧ (∀ i, i < j → eqE (ev xs i) (ev ys i) = true) ∧ Below w.heap.size w wr) (fun v _ _ => 100000 - (intOf v).toNat)
    case atStart => exact ⟨0, Nat.zero_le _, rfl, fun i hi => by omega, Below.refl _ _⟩
    case round =>
      obtain ⟨j, hj, rfl, hall, hb⟩ := hrel
      by_cases hlt : j < n
      · have hjx : j < xs.length := by rw [hN.out]; exact hlt
        have hjy : j < ys.length := by rw [← HL.out]; exact hjx
        obtain ⟨g, o, rfl, hc⟩ := hx.below hb j hjx
        obtain ⟨g', o', rfl, hd⟩ := hy.below hb j hjy
        obtain ⟨c0, c1, c2, c3, c4, c5, c6, c7, c8, c9, c10, c11, c12, c13, c14⟩ := hc.cells
        obtain ⟨d0, d1, d2, d3, d4, d5, d6, d7, d8, d9, d10, d11, d12, d13, d14⟩ := hd.cells
        have NE := neEv (ev xs j) (ev ys j)
        unfold evA at NE
        have HALL : Hid (∀ i, i < j → eqE (ev xs i) (ev ys i) = true) := hall
        have HJ : Hid (j < xs.length ∧ j < ys.length) := ⟨hjx, hjy⟩
        have hlt' : (j : Int) < (n : Int) := by omega
        obtain ⟨t, ht⟩ : ∃ t, Hid (eqE (ev xs j) (ev ys j) = t) := ⟨_, rfl⟩
        rw [ht.out] at NE
        clear hall hjx hjy hc hd
        generalize ev xs j = x at NE c0 c1 c2 c3 c4 c5 c6 c7 c8 c9 c10 c11 c12 c13 c14
        generalize ev ys j = y at NE d0 d1 d2 d3 d4 d5 d6 d7 d8 d9 d10 d11 d12 d13 d14
        cases t with
        | true =>
          have HT : Hid (∀ i, i < j + 1 → eqE (ev xs i) (ev ys i) = true) := fun i hi => by
            by_cases e : i = j
            · rw [e]; exact ht.out
            · exact HALL.out i (by omega)
          go_wp2_with fail
          go_quiet (fail)
          go_wp2_with fail
          go_roundw
          case rel => exact ⟨j + 1, by omega, by simp, HT.out, below_drewN hb _⟩
          case measure =>
            simp [intOf]
            omega
        | false =>
          have HF : Hid (sameB xs ys = false) := sameB_at HJ.out.1 HJ.out.2 ht.out
          go_wp2_with fail
          go_quiet (fail)
          go_wp2_with fail
          go_ret
          exact ⟨by rw [← hq.out, HF.out]; rfl, below_drewN hb _⟩
      · obtain rfl : j = n := by omega
        have HALL : Hid (∀ i, i < j → eqE (ev xs i) (ev ys i) = true) := hall
        clear hall
        go_wp2_with fail
        go_ret
        refine ⟨?_, hb⟩
        rw [← hq.out, sameB_all HL.out (fun i hi => HALL.out i (by rw [← hN.out]; exact hi))]
        rfl
  · rw [sameB_len hl]
    have hne : (xs.length : Int) ≠ (ys.length : Int) := by omega
    clear hl hx hy hn
    generalize xs.length = n0 at *
    generalize ys.length = m0 at *
    go_enter Tryd.func13, Tryd.ntmps13
    go_wp2_with fail
    go_ret
    exact ⟨rfl, Below.refl _ _⟩
end Go.Proofs.YtcffmdimfmpheaaDoor
