/- IsaForms' walk. -/
import Derived.Test.YtbcdjpafdmgbmaaDoorLives
import Derived.Test.YtbcdjpafdmgbmaaDoorRGood
namespace Go.Proofs.YtbcdjpafdmgbmaaDoor
open Go.RowKit

set_option maxRecDepth 100000 in
set_option maxHeartbeats 4000000 in
theorem forms_tail (op i : Int) (ps qs : List Ins) (a a2 : Option Addr) (c c2 : Nat) (w : World) (hp : PV w a ps) (hq : PV w a2 qs) (hE : Env w) :
    Calls Tryd.prog 3 #[.agg #[.int .i64 op, .int .i64 i], .slice a ps.length c, .slice a2 qs.length c2] w fun e w' => e = .returned (.bool true) ∧ Below w.heap.size w w' := by
  have b1 : Below w.heap.size w (w.alloc (.cells #[.int .i64 op, .int .i64 i] 22)) := (Below.refl _ w).alloc (Nat.le_refl _) _
  have d0 : (w.alloc (.cells #[.int .i64 op, .int .i64 i] 22)).cell? ⟨w.heap.size, 0, none⟩ = some (.int .i64 op) := by simp [go_sem]
  have d1 : (w.alloc (.cells #[.int .i64 op, .int .i64 i] 22)).cell? ⟨w.heap.size, 1, none⟩ = some (.int .i64 i) := by simp [go_sem]
  have L1 := fun W => light_any (ps := ps) (a := a) c W
  have L2 := fun W => light_any (ps := qs) (a := a2) c2 W
  have HL := fun W (hW : Below w.heap.size w W) => lives_any (hE.on hW)
  have HN := fun W (hW : Below w.heap.size w W) => name_any op W (hE.on hW).tab
  have HS := fun W (hW : Below w.heap.size w W) => shape_any op W (hE.on hW).tab
  have HG := fun W (hW : Below w.heap.size w W) => good_any c i (hp.below hW) (hE.on hW).tab
  have HRG := fun W (hW : Below w.heap.size w W) => rgood_any c i (hp.below hW)
  have HW := fun W (hW : Below w.heap.size w W) => whole_any c (hp.below hW) (hE.on hW).tab
  have HRW := fun W (hW : Below w.heap.size w W) => rwhole_any c (hp.below hW)
  by_cases hlp : ps.length ≤ 80
  · by_cases hlq : qs.length ≤ 80
    · have HQ := fun W (hW : Below w.heap.size w W) => same_any (xc := c) (yc := c2) (hp.below hW) (hq.below hW) (by omega)
      have HRQ := fun W (hW : Below w.heap.size w W) => rsame_any (xc := c) (yc := c2) (hp.below hW) (hq.below hW) (by omega)
      simp only [hlp, decide_true] at L1
      simp only [hlq, decide_true] at L2
      clear hp hq hE hlp hlq
      generalize goodAt ps i = g at *
      generalize wholeB ps = wb at *
      generalize decide (ps = qs) = sb at *
      generalize ps.length = n at *
      generalize qs.length = m at *
      go_enter Tryd.func3, Tryd.ntmps3
      go_wp2_with fail
      generalize (w.alloc (.cells #[.int .i64 op, .int .i64 i] 22)) = W1 at *
      go_quiet (fail)
      have b2 : Below w.heap.size w (W1.drewN nq) := below_drewN b1 nq
      generalize W1.drewN nq = W2 at *
      go_wp2_with (first
        | (go_at_call 7; first | ((with_reducible refine (L1 _).mono ?_); rintro e w' ⟨rfl, rfl⟩) | ((with_reducible refine (L2 _).mono ?_); rintro e w' ⟨rfl, rfl⟩))
        | (go_at_call 9; (with_reducible refine (HN _ b2).mono ?_); rintro e w' ⟨rfl, rfl⟩)
        | (go_at_call 10; (with_reducible refine (rname_any op _).mono ?_); rintro e w' ⟨rfl, rfl⟩)
        | (go_at_call 11; (with_reducible refine (HS _ b2).mono ?_); rintro e w' ⟨rfl, rfl⟩)
        | (go_at_call 12; (with_reducible refine (rshape_any op _).mono ?_); rintro e w' ⟨rfl, rfl⟩)
        | (go_at_call 13; (with_reducible refine (call_any op _).mono ?_); rintro e w' ⟨rfl, rfl⟩)
        | (go_at_call 14; (with_reducible refine (rcall_any op _).mono ?_); rintro e w' ⟨rfl, rfl⟩)
        | (go_at_call 15; (with_reducible refine (HG _ b2).mono ?_); rintro e w3 ⟨rfl, q3⟩; have b3 := b2.trans (q3.mono b2.size))
        | (go_at_call 16; (with_reducible refine (HRG _ b3).mono ?_); rintro e w4 ⟨rfl, q4⟩; have b4 := b3.trans (q4.mono b3.size))
        | (go_at_call 17; (with_reducible refine (HW _ b4).mono ?_); rintro e w5 ⟨rfl, q5⟩; have b5 := b4.trans (q5.mono b4.size))
        | (go_at_call 18; (with_reducible refine (HRW _ b5).mono ?_); rintro e w6 ⟨rfl, q6⟩; have b6 := b5.trans (q6.mono b5.size))
        | (go_at_call 19; (with_reducible refine (HQ _ b6).mono ?_); rintro e w7 ⟨rfl, q7⟩; have b7 := b6.trans (q7.mono b6.size))
        | (go_at_call 20; (with_reducible refine (HRQ _ b7).mono ?_); rintro e w8 ⟨rfl, q8⟩; have b8 := b7.trans (q8.mono b7.size))
        | (go_at_call 8; (with_reducible refine (HL _ b8).mono ?_); rintro e w9 ⟨rfl, q9⟩; have b9 := b8.trans (q9.mono b8.size)))
      go_ret
      exact ⟨rfl, b9⟩
    · simp only [hlp, decide_true] at L1
      simp only [hlq, decide_false] at L2
      clear hp hq hE hlp hlq HN HS HG HRG HW HRW
      generalize ps.length = n at *
      generalize qs.length = m at *
      go_enter Tryd.func3, Tryd.ntmps3
      go_wp2_with fail
      generalize (w.alloc (.cells #[.int .i64 op, .int .i64 i] 22)) = W1 at *
      go_quiet (fail)
      have b2 : Below w.heap.size w (W1.drewN nq) := below_drewN b1 nq
      generalize W1.drewN nq = W2 at *
      go_wp2_with (first
        | (go_at_call 7; first | ((with_reducible refine (L1 _).mono ?_); rintro e w' ⟨rfl, rfl⟩) | ((with_reducible refine (L2 _).mono ?_); rintro e w' ⟨rfl, rfl⟩))
        | (go_at_call 8; (with_reducible refine (HL _ b2).mono ?_); rintro e w9 ⟨rfl, q9⟩; have b9 := b2.trans (q9.mono b2.size)))
      go_ret
      exact ⟨rfl, b9⟩
  · simp only [hlp, decide_false] at L1
    clear hp hq hE hlp HN HS HG HRG HW HRW L2
    generalize ps.length = n at *
    generalize qs.length = m at *
    go_enter Tryd.func3, Tryd.ntmps3
    go_wp2_with fail
    generalize (w.alloc (.cells #[.int .i64 op, .int .i64 i] 22)) = W1 at *
    go_quiet (fail)
    have b2 : Below w.heap.size w (W1.drewN nq) := below_drewN b1 nq
    generalize W1.drewN nq = W2 at *
    go_wp2_with (first
      | (go_at_call 7; first | ((with_reducible refine (L1 _).mono ?_); rintro e w' ⟨rfl, rfl⟩))
      | (go_at_call 8; (with_reducible refine (HL _ b2).mono ?_); rintro e w9 ⟨rfl, q9⟩; have b9 := b2.trans (q9.mono b2.size)))
    go_ret
    exact ⟨rfl, b9⟩

end Go.Proofs.YtbcdjpafdmgbmaaDoor
