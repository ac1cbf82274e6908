/- Contracts of the library's TrailingZeros64 and OnesCount64. -/
import Derived.Test.YtkoekdbkjjjoaaaDoorOnes
import Derived.Test.YtkoekdbkjjjoaaaDoorChecked
import Derived.WalkKit
import Derived.Laws.Bits64b
import Derived.Shelf.Spec.TrailingZeros
namespace Go.Proofs.YtkoekdbkjjjoaaaDoor
open Go.RowKit

/-- The table of TrailingZeros64 lies in its variable. -/
def Tab (w : World) : Prop := 0 < w.heap.size ∧ TabAt 0 Lib.deBruijn64tab w

theorem Tab.below {w w' : World} {n : Nat} (h : Tab w) (hb : Below n w w') (hn : w.heap.size ≤ n) : Tab w' :=
  ⟨Nat.lt_of_lt_of_le h.1 hb.size, fun j hj => (hb.cell (p := ⟨0, j, none⟩) (Nat.lt_of_lt_of_le h.1 hn)).trans (h.2 j hj)⟩

theorem tz64_core (x k idx : Nat) (w : World) (hx0 : ((x : Int) == 0) = false)
    (key : IntKind.u64.wrap (bits BinOp.and IntKind.u64 (x : Int) (IntKind.u64.wrap (-(x : Int))) * 285870213051353865) / 288230376151711744 = (idx : Int))
    (hi : idx < 64) (hk : k < 64) (hcell : w.cell? ⟨0, idx, none⟩ = some (.int .u8 k)) :
    Calls Tryd.prog 37 #[.int .u64 x] w fun e w' => e = .returned (.int .i64 k) ∧ w' = w := by
  go_enter Tryd.func37, Tryd.ntmps37
  go_wp2_with (simp only [key])
  go_ret
  exact ⟨rfl, rfl⟩

theorem tz64_any (x : Nat) (hx : x < 18446744073709551616) (hx0 : x ≠ 0) (w : World) (hT : Tab w) :
    Calls Tryd.prog 37 #[.int .u64 x] w fun e w' => e = .returned (.int .i64 (headI (mem x))) ∧ w' = w := by
  obtain ⟨hlow, hk⟩ := Lib.lowest_bit 64 x hx0 hx
  obtain ⟨hi, htab⟩ := Lib.deBruijn64_at _ hk
  have hcell := hT.2 _ hi
  rw [htab] at hcell
  rw [← ctz_head x hx hx0]
  exact tz64_core x _ _ w (by simp; omega) (tz64_key x _ hx hx0 hlow) hi hk hcell

theorem and127 (z : Nat) (h : z < 9223372036854775808) : bits .and .i64 (z : Int) 127 = ((z % 128 : Nat) : Int) := by
  have h1 : (BitVec.ofInt 64 (z : Int)).toNat = z := by
    rw [BitVec.ofInt_natCast, BitVec.toNat_ofNat]; exact Nat.mod_eq_of_lt (by omega)
  have h2 : (BitVec.ofInt 64 (127 : Int)).toNat = 127 := by decide
  show IntKind.i64.wrap ((BitVec.ofInt 64 (z : Int) &&& BitVec.ofInt 64 (127 : Int)).toNat : Int) = _
  rw [BitVec.toNat_and, h1, h2, show 127 = 2 ^ 7 - 1 from rfl, Nat.and_two_pow_sub_one_eq_mod]
  show IntKind.i64.wrap ((z % 128 : Nat) : Int) = _
  simp only [IntKind.wrap, IntKind.signed, IntKind.bits]
  simp
  omega

theorem ones_core (x p1 q1 y1 p2 q2 y2 s y3 z1 z2 z3 z4 r : Int) (w : World)
    (a1 : bits .and .u64 (x / 2) 6148914691236517205 = p1) (a2 : bits .and .u64 x 6148914691236517205 = q1) (b1 : IntKind.u64.wrap (p1 + q1) = y1)
    (a3 : bits .and .u64 (y1 / 4) 3689348814741910323 = p2) (a4 : bits .and .u64 y1 3689348814741910323 = q2) (b2 : IntKind.u64.wrap (p2 + q2) = y2)
    (b3 : IntKind.u64.wrap (y2 / 16 + y2) = s) (a5 : bits .and .u64 s 1085102592571150095 = y3) (b4 : IntKind.u64.wrap (y3 + y3 / 256) = z1)
    (b5 : IntKind.u64.wrap (z1 + z1 / 65536) = z2) (b6 : IntKind.u64.wrap (z2 + z2 / 4294967296) = z3) (w1 : wrap64 z3 = z4) (a6 : bits .and .i64 z4 127 = r) :
    Calls Tryd.prog 33 #[.int .u64 x] w fun e w' => e = .returned (.int .i64 r) ∧ w' = w := by
  go_enter Tryd.func33, Tryd.ntmps33
  go_wp2_with fail
  go_ret
  exact ⟨rfl, rfl⟩

theorem ones_any (x : Nat) (w : World) (hx : x < 18446744073709551616) :
    Calls Tryd.prog 33 #[.int .u64 x] w fun e w' => e = .returned (.int .i64 ((mem x).length : Nat)) ∧ w' = w := by
  obtain ⟨y1, h1⟩ : ∃ y, y = ((x / 2) &&& 6148914691236517205) + (x &&& 6148914691236517205) := ⟨_, rfl⟩
  obtain ⟨y2, h2⟩ : ∃ y, y = ((y1 / 4) &&& 3689348814741910323) + (y1 &&& 3689348814741910323) := ⟨_, rfl⟩
  obtain ⟨y3, h3⟩ : ∃ y, y = (y2 / 16 + y2) &&& 1085102592571150095 := ⟨_, rfl⟩
  obtain ⟨z1, e1⟩ : ∃ z, z = y3 + y3 / 256 := ⟨_, rfl⟩
  obtain ⟨z2, e2⟩ : ∃ z, z = z1 + z1 / 65536 := ⟨_, rfl⟩
  obtain ⟨z3, e3⟩ : ∃ z, z = z2 + z2 / 4294967296 := ⟨_, rfl⟩
  obtain ⟨l1, l2, l3, l4, l5⟩ := ones_all x y1 y2 y3 z1 z2 z3 h1 h2 h3 e1 e2 e3
  have l6 : y3 < 18446744073709551616 := by rw [h3]; exact and_lt l2
  have a1 : bits .and .u64 ((x : Int) / 2) 6148914691236517205 = ((x / 2 &&& 6148914691236517205 : Nat) : Int) := bits_and_u64_nat (x / 2) 6148914691236517205 (by omega) (by omega)
  have a2 : bits .and .u64 (x : Int) 6148914691236517205 = ((x &&& 6148914691236517205 : Nat) : Int) := bits_and_u64_nat x 6148914691236517205 (by omega) (by omega)
  have b1 : IntKind.u64.wrap (((x / 2 &&& 6148914691236517205 : Nat) : Int) + ((x &&& 6148914691236517205 : Nat) : Int)) = (y1 : Int) := by rw [IntKind.wrap_u64]; omega
  have a3 : bits .and .u64 ((y1 : Int) / 4) 3689348814741910323 = ((y1 / 4 &&& 3689348814741910323 : Nat) : Int) := bits_and_u64_nat (y1 / 4) 3689348814741910323 (by omega) (by omega)
  have a4 : bits .and .u64 (y1 : Int) 3689348814741910323 = ((y1 &&& 3689348814741910323 : Nat) : Int) := bits_and_u64_nat y1 3689348814741910323 (by omega) (by omega)
  have b2 : IntKind.u64.wrap (((y1 / 4 &&& 3689348814741910323 : Nat) : Int) + ((y1 &&& 3689348814741910323 : Nat) : Int)) = (y2 : Int) := by rw [IntKind.wrap_u64]; omega
  have b3 : IntKind.u64.wrap ((y2 : Int) / 16 + (y2 : Int)) = (y2 : Int) / 16 + (y2 : Int) := by rw [IntKind.wrap_u64]; omega
  have a5 : bits .and .u64 ((y2 : Int) / 16 + (y2 : Int)) 1085102592571150095 = (y3 : Int) := by
    have h := bits_and_u64_nat (y2 / 16 + y2) 1085102592571150095 l2 (by omega)
    have e : ((y2 / 16 + y2 : Nat) : Int) = (y2 : Int) / 16 + (y2 : Int) := by omega
    rw [e] at h
    rw [h3]; exact h
  have b4 : IntKind.u64.wrap ((y3 : Int) + (y3 : Int) / 256) = (z1 : Int) := by rw [IntKind.wrap_u64]; omega
  have b5 : IntKind.u64.wrap ((z1 : Int) + (z1 : Int) / 65536) = (z2 : Int) := by rw [IntKind.wrap_u64]; omega
  have b6 : IntKind.u64.wrap ((z2 : Int) + (z2 : Int) / 4294967296) = (z3 : Int) := by rw [IntKind.wrap_u64]; omega
  have w1 : wrap64 (z3 : Int) = z3 := by unfold wrap64; omega
  have a6 := and127 z3 l4
  rw [l5] at a6
  exact ones_core _ _ _ _ _ _ _ _ _ _ _ _ _ _ w a1 a2 b1 a3 a4 b2 b3 a5 b4 b5 b6 w1 a6

end Go.Proofs.YtkoekdbkjjjoaaaDoor
