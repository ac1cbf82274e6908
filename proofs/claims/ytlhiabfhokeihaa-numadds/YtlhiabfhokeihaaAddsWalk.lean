/- The walk of NumAdds. -/
import Derived.Test.YtlhiabfhokeihaaRefD
namespace Go.Proofs.Ytlhiabfhokeihaa
open Go.RowKit

set_option maxHeartbeats 1000000 in
theorem adds_walk (a b : Int) (w : World) (ha0 : -9223372036854775808 ≤ a) (ha1 : a ≤ 9223372036854775807) (hb0 : -9223372036854775808 ≤ b) (hb1 : b ≤ 9223372036854775807) :
    Calls Try.prog 3 #[.int .i64 a, .int .i64 b] w fun e w' => e = .returned (.bool true) ∧ Below w.heap.size w w' := by
  have A := add_any a b w ha0 ha1 hb0 hb1
  have RA := fun W => radd_any a b W ha0 ha1 hb0 hb1
  have S := fun W => sub_any a b W ha0 ha1 hb0 hb1
  have RS := fun W => rsub_any a b W ha0 ha1 hb0 hb1
  have M := fun W => mul_any a b W ha0 ha1 hb0 hb1
  have RM := fun W => rmul_any a b W ha0 ha1 hb0 hb1
  generalize toldI (a + b) = x1 at *
  generalize fitsB (a + b) = y1 at *
  generalize toldI (a - b) = x2 at *
  generalize fitsB (a - b) = y2 at *
  generalize toldI (a * b) = x3 at *
  generalize fitsB (a * b) = y3 at *
  have HA := Hid.mk A
  have HRA := Hid.mk RA
  have HS := Hid.mk S
  have HRS := Hid.mk RS
  have HM := Hid.mk M
  have HRM := Hid.mk RM
  clear A RA S RS M RM
  go_enter Try.func3, Try.ntmps3
  go_wp2_with fail
  refine HA.out.mono ?_
  rintro e w0 ⟨rfl, hw0⟩
  rw [hw0]
  clear hw0 w0
  go_wp2_with fail
  refine (HRA.out _).mono ?_
  rintro e w1 ⟨rfl, k1⟩
  go_wp2_with fail
  refine (HS.out _).mono ?_
  rintro e w0 ⟨rfl, hw0⟩
  rw [hw0]
  clear hw0 w0
  go_wp2_with fail
  refine (HRS.out _).mono ?_
  rintro e w2 ⟨rfl, b2⟩
  have k2 := below2 k1 k1.size b2
  go_wp2_with fail
  refine (HM.out _).mono ?_
  rintro e w3 ⟨rfl, b3⟩
  have k3 := below2 k2 k2.size b3
  go_wp2_with fail
  refine (HRM.out _).mono ?_
  rintro e w4 ⟨rfl, b4⟩
  have k4 := below2 k3 k3.size b4
  go_wp2_with fail
  refine (lives_any _).mono ?_
  rintro e w5 ⟨rfl, b5⟩
  have k5 := below2 k4 k4.size b5
  go_wp2_with fail
  go_ret
  exact ⟨rfl, k5⟩
end Go.Proofs.Ytlhiabfhokeihaa
