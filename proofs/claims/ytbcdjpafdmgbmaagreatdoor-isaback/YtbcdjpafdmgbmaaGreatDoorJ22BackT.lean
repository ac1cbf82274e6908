/- The reference's puts: Num, Int, Text, Flag, Ints. -/
/- The reference's Bytes. -/
import Derived.Test.YtbcdjpafdmgbmaaGreatDoorJ10BackT
import Derived.Test.YtbcdjpafdmgbmaaGreatDoorJ20BackT
import Derived.Test.YtbcdjpafdmgbmaaGreatDoorJ21BackT
import Derived.Test.YtbcdjpafdmgbmaaGreatDoorJ15BackT
namespace Go.Proofs.YtbcdjpafdmgbmaaGreatDoor
open Go.RowKit

theorem low7 {z : Int} (h0 : 0 ≤ z) (h1 : z < 18446744073709551616) : bits BinOp.or IntKind.u64 (bits BinOp.and IntKind.u64 z 127) 128 = z % 128 + 128 := by
  obtain ⟨m, rfl⟩ := Int.eq_ofNat_of_zero_le h0
  have e1 : bits BinOp.and IntKind.u64 (m : Int) 127 = ((m % 128 : Nat) : Int) := by
    have := bits_and_u64_nat m 127 (by omega) (by omega)
    have e : m &&& 127 = m % 128 := Nat.and_two_pow_sub_one_eq_mod m 7
    rw [e] at this
    exact this
  rw [e1]
  have e2 := bits_or_u64_nat (m % 128) 128 (by omega) (by omega)
  have e3 : m % 128 ||| 128 = m % 128 + 128 := by
    have := Nat.two_pow_add_eq_or_of_lt (b := m % 128) (i := 7) (by omega) 1
    rw [show 2 ^ 7 * 1 = 128 from rfl] at this
    rw [Nat.or_comm]
    omega
  rw [e3] at e2
  rw [show ((128 : Nat) : Int) = 128 from rfl] at e2
  rw [e2]
  omega

section
variable {B : Nat} {a : Option Addr} {c : Nat} {bs : List UInt8} {w : World}

end
end Go.Proofs.YtbcdjpafdmgbmaaGreatDoor
namespace Go.Proofs.YtbcdjpafdmgbmaaGreatDoor
open Go.RowKit Go.Shelf

theorem intsF_take {us : List Int} {k : Nat} {u : Int} (h : us[k]? = some u) : intsF (us.take (k + 1)) = intsF (us.take k) ++ numL (zigN u) := by
  rw [List.take_add_one, h, intsF_app]
  simp [intsF]

theorem row_get {w : World} {base k c : Nat} {a : Option Addr} {q : List Int} (h : RowI w base (.slice a k c) q) : ∀ j x, q[j]? = some x → ∃ g, a = some ⟨g, 0, none⟩ ∧ w.cell? ⟨g, j, none⟩ = some (.int .i64 x) := by
  obtain ⟨a', c', e, _, _, _, hc⟩ := h.shape
  cases e
  exact hc
theorem row_sh {w : World} {base k : Nat} {v : Value} {q : List Int} (h : RowI w base v q) (hk : q.length = k) : ∃ a c, v = .slice a k c ∧ True := by
  obtain ⟨a, c, e⟩ := row_sl h hk
  exact ⟨a, c, e, trivial⟩

end Go.Proofs.YtbcdjpafdmgbmaaGreatDoor
