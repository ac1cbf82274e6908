/- The walk of StrideBounds. -/
import Derived.Test.YtdfccjhmpgoacaaStRId
import Derived.Test.YtdfccjhmpgoacaaStRBd
import Derived.Test.YtdfccjhmpgoacaaStOpen
namespace Go.Proofs.Ytdfccjhmpgoacaa.Str
open Go.RowKit Go.Proofs.Ytdfccjhmpgoacaa.Big

section
variable {xa : Option Addr} {xc : Nat} {xs : List Int}
set_option maxHeartbeats 1000000 in
set_option maxRecDepth 100000 in
theorem bounds_any (w : World) (hx : IX w xa xs) (hm : xs.length ≤ maxLen) (i q : Int) (hq0 : -9223372036854775808 ≤ q) (hq1 : q ≤ 9223372036854775807) :
    Calls Try.prog 4 #[.slice xa xs.length xc, .int .i64 i, .int .i64 q] w fun e w' => e = .returned (.bool true) ∧ Below w.heap.size w w' := by
  by_cases h1 : 50 < xs.length
  · have h1' : (50 : Int) < (xs.length : Int) := by omega
    go_enter Try.func4, Try.ntmps4
    go_wp2_with (first | (go_at_call 18; (with_reducible refine (lives_any _).mono ?_); rintro e w1 ⟨rfl, rfl⟩))
    go_ret
    exact ⟨rfl, Below.refl _ _⟩
  have h1' : ¬ (50 : Int) < (xs.length : Int) := by omega
  have I1 := fun W (h : Below w.heap.size w W) => ideal_any (xc := xc) (hx.below h) i q hq0 hq1
  have I2 := fun W (h : Below w.heap.size w W) => rideal_any (xc := xc) (hx.below h) hm i q hq0 hq1
  have B1 := fun W (h : Below w.heap.size w W) => bound_any (xc := xc) (hx.below h) i
  have B2 := fun W (h : Below w.heap.size w W) => rbound_any (xc := xc) (hx.below h) hm i
  generalize idlQ xs i q = x1 at *
  generalize idlR xs i q = x2 at *
  generalize bndI xs i = x3 at *
  clear hm h1
  go_enter Try.func4, Try.ntmps4
  go_wp2_with (first
    | (go_at_call 19; (with_reducible refine (I1 _ (Below.refl _ _)).mono ?_); rintro e w1 ⟨rfl, b1⟩)
    | (go_at_call 20; (with_reducible refine (I2 _ b1).mono ?_); rintro e w2 ⟨rfl, b2'⟩; have b2 := below2 b1 b1.size b2'; clear b2')
    | (go_at_call 21; (with_reducible refine (B1 _ b2).mono ?_); rintro e w3 ⟨rfl, b3'⟩; have b3 := below2 b2 b2.size b3'; clear b3')
    | (go_at_call 22; (with_reducible refine (B2 _ b3).mono ?_); rintro e w4 ⟨rfl, hw⟩; subst w4)
    | (go_at_call 18; (with_reducible refine (lives_any _).mono ?_); rintro e w5 ⟨rfl, hw⟩; subst w5))
  go_ret
  exact ⟨rfl, b3⟩
end
end Go.Proofs.Ytdfccjhmpgoacaa.Str
