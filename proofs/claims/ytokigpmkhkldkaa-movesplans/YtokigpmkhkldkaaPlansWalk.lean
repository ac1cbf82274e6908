/- The walk of MovesPlans. -/
import Derived.Test.YtokigpmkhkldkaaRPlan
namespace Go.Proofs.Ytokigpmkhkldkaa
open Go.RowKit

theorem planA_len (os ts : List Int) : (planA os ts).length ≤ 10000 := by
  by_cases h : V os ts
  · rw [planA_v h]; exact plan_len_le h
  · rw [show planA os ts = [] from if_neg h]; exact Nat.zero_le _
section
variable {w : World} {xa ya ma : Option Addr} {xc yc kc : Nat} {os ts : List Int} {ms : List (Int × Int × Int)}

set_option maxRecDepth 100000 in
set_option maxHeartbeats 4000000 in
theorem plans_any (hx : IX w xa os) (hy : IX w ya ts) (ot : OkX ts) (hm : MV w ma ms) :
    Calls Try.prog 3 #[.slice xa os.length xc, .slice ya ts.length yc, .slice ma ms.length kc] w fun e w' => e = .returned (.bool true) ∧ Below w.heap.size w w' := by
  by_cases c1 : 70 < os.length
  · have c1' : (70 : Int) < (os.length : Int) := by omega
    go_enter Try.func3, Try.ntmps3
    go_wp2_with (first | (go_at_call 8; (with_reducible refine (lives_any _).mono ?_); rintro e w2 ⟨rfl, b2⟩))
    go_ret
    exact ⟨rfl, b2⟩
  have c1' : decide ((70 : Int) < (os.length : Int)) = false := by simp; omega
  by_cases c2 : 70 < ts.length
  · have c2' : (70 : Int) < (ts.length : Int) := by omega
    clear c1
    go_enter Try.func3, Try.ntmps3
    go_wp2_with (first | (go_at_call 8; (with_reducible refine (lives_any _).mono ?_); rintro e w2 ⟨rfl, b2⟩))
    go_ret
    exact ⟨rfl, b2⟩
  have c2' : decide ((70 : Int) < (ts.length : Int)) = false := by simp; omega
  by_cases c3 : 200 < ms.length
  · have c3' : (200 : Int) < (ms.length : Int) := by omega
    clear c1 c2
    go_enter Try.func3, Try.ntmps3
    go_wp2_with (first | (go_at_call 8; (with_reducible refine (lives_any _).mono ?_); rintro e w2 ⟨rfl, b2⟩))
    go_ret
    exact ⟨rfl, b2⟩
  have c3' : decide ((200 : Int) < (ms.length : Int)) = false := by simp; omega
  have hz : Sz os := Sz.small (by omega)
  have hzt : Sz ts := Sz.small (by omega)
  have hpl := planA_len os ts
  have P := plan_any (xc := xc) (yc := yc) hx hy hzt ot
  have PL := fun W a c (h : MV W a (planA os ts)) => plain_any (xc := c) h (by omega)
  have RP := fun W (h : Below w.heap.size w W) => rplan_any (xc := xc) (yc := yc) (hx.below h) (hy.below h) hz hzt ot
  have S := fun W a c b d (h : MV W a (planA os ts)) (h2 : MV W b (planA os ts)) => same_any (xc := c) (yc := d) h h2 (by omega)
  rw [show decide (planA os ts = planA os ts) = true from decide_eq_true rfl] at S
  have hal : (apL os ms).length = os.length := apL_len _ _
  have A := fun W (h : Below w.heap.size w W) => apply_any (xc := xc) (kc := kc) (hx.below h) (by omega) (hm.below h) (by omega)
  have PM := fun W (h : Below w.heap.size w W) => plain_any (xc := kc) (hm.below h) (by omega)
  have RA := fun W (h : Below w.heap.size w W) a c (h2 : MV W a ms) => rapply_any (xc := xc) (kc := c) (hx.below h) (by omega) h2 (by omega)
  have I := fun W a c b d (h : IX W a (apL os ms)) (h2 : IX W b (apL os ms)) => ints_any (xc := c) (yc := d) h h2 (by rw [hal]; omega)
  rw [show decide (apL os ms = apL os ms) = true from decide_eq_true rfl, hal] at I
  clear c1 c2 c3 hpl hal
  generalize planA os ts = L at *
  generalize apL os ms = E at *
  go_enter Try.func3, Try.ntmps3
  go_wp2_with (first
    | (go_at_call 11; (with_reducible refine P.mono ?_); rintro e w2 ⟨pa, pc, rfl, p2, _, b2⟩)
    | (go_at_call 10; (with_reducible refine (PL _ _ _ p2).mono ?_); rintro e w3 ⟨qa, qc, rfl, q3, b3'⟩; have b3 := below2 b2 b2.size b3')
    | (go_at_call 12; (with_reducible refine (RP _ b3).mono ?_); rintro e w4 ⟨ra, rc, rfl, r4, b4'⟩; have b4 := below2 b3 b3.size b4')
    | (go_at_call 9; (with_reducible refine (S _ _ _ _ _ (q3.below b4') r4).mono ?_); rintro e w5 ⟨rfl, b5'⟩; have b5 := below2 b4 b4.size b5')
    | (go_at_call 14; (with_reducible refine (A _ b5).mono ?_); rintro e w6 ⟨aa, ac, rfl, ⟨a6, _, _⟩, b6'⟩; have b6 := below2 b5 b5.size b6')
    | (go_at_call 10; (with_reducible refine (PM _ b6).mono ?_); rintro e w7 ⟨ka, kd, rfl, k7, b7'⟩; have b7 := below2 b6 b6.size b7')
    | (go_at_call 15; (with_reducible refine (RA _ b7 _ _ k7).mono ?_); rintro e w8 ⟨ta, tc, rfl, ⟨t8, _, _⟩, b8'⟩; have b8 := below2 b7 b7.size b8')
    | (go_at_call 13; (with_reducible refine (I _ _ _ _ _ ((a6.below b7').below b8') t8).mono ?_); rintro e w9 ⟨rfl, b9'⟩; have b9 := below2 b8 b8.size b9')
    | (go_at_call 8; (with_reducible refine (lives_any _).mono ?_); rintro e w10 ⟨rfl, b10⟩))
  go_ret
  exact ⟨rfl, below2 b9 b9.size b10⟩
end
end Go.Proofs.Ytokigpmkhkldkaa
