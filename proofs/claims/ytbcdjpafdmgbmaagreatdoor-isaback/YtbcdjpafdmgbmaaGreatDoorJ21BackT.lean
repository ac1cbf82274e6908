/- The reference's Digits. -/
/- The reference's Good and Whole. -/
import Derived.Test.YtbcdjpafdmgbmaaGreatDoorJ12BackT
import Derived.Test.YtbcdjpafdmgbmaaGreatDoorJ03BackT
import Derived.Lib.ItoaLen
import Derived.Test.YtbcdjpafdmgbmaaGreatDoorJ19BackT
namespace Go.Proofs.YtbcdjpafdmgbmaaGreatDoor
open Go.RowKit

theorem dec_small {u : Nat} (h : u < 10) : Lib.decDigits u = [UInt8.ofNat (48 + u)] := by rw [Lib.decDigits, dif_pos h]
theorem dec_big {u : Nat} (h : ¬ u < 10) : Lib.decDigits u = Lib.decDigits (u / 10) ++ Lib.decDigits (u % 10) := by
  rw [Lib.decDigits, dif_neg h, dec_small (u := u % 10) (by omega)]
theorem itoa_nat (u : Nat) : Lib.itoa (u : Int) = Lib.decDigits u := by
  unfold Lib.itoa
  rw [if_neg (by omega)]
  simp
theorem itoa_neg {v : Int} (h : v < 0) : Lib.itoa v = 45 :: Lib.itoa (-v) := by
  obtain ⟨u, hu⟩ : ∃ u : Nat, -v = (u : Int) := ⟨(-v).toNat, by omega⟩
  rw [hu, itoa_nat]
  unfold Lib.itoa
  rw [if_pos h]
  have : v.natAbs = u := by omega
  rw [this]
theorem digit_cut (w : World) : ∀ u : Nat, u < 10 → (Instr.slice 9 (.string ⟨#[48, 49, 50, 51, 52, 53, 54, 55, 56, 57]⟩) (some (.int .i64 (u : Int))) (some (.int .i64 ((u : Int) + 1))) none).run Tryz.prog w = .ok (.string ⟨#[UInt8.ofNat (48 + u)]⟩) w
  | 0, _ => by kernel_rfl
  | 1, _ => by kernel_rfl
  | 2, _ => by kernel_rfl
  | 3, _ => by kernel_rfl
  | 4, _ => by kernel_rfl
  | 5, _ => by kernel_rfl
  | 6, _ => by kernel_rfl
  | 7, _ => by kernel_rfl
  | 8, _ => by kernel_rfl
  | 9, _ => by kernel_rfl
  | _ + 10, h => absurd h (by omega)
theorem dec_len (u : Nat) (h : u < 18446744073709551616) : (⟨(Lib.decDigits u).toArray⟩ : ByteArray).size ≤ 20 := by
  show (Lib.decDigits u).toArray.size ≤ 20
  rw [List.size_toArray, Lib.decDigits_length]
  exact Lib.nDigits_le20 u h
theorem cat_bytes (a b : List UInt8) : (⟨a.toArray⟩ : ByteArray) ++ ⟨b.toArray⟩ = ⟨(a ++ b).toArray⟩ := by
  apply ByteArray.ext
  simp

end Go.Proofs.YtbcdjpafdmgbmaaGreatDoor
namespace Go.Proofs.YtbcdjpafdmgbmaaGreatDoor
open Go.RowKit

end Go.Proofs.YtbcdjpafdmgbmaaGreatDoor
