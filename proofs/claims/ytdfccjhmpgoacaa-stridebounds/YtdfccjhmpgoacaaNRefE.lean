/- Contracts of the reference's Gcd and Near. -/
import Derived.Test.YtdfccjhmpgoacaaNRefD
import Derived.Deep.CutRange
namespace Go.Proofs.Ytdfccjhmpgoacaa.Big
open Go.RowKit

/-- From numbers not below 0 on: the loop of the reference's Gcd. -/
theorem gcd_zero_right' {p : Int} (h : 0 ≤ p) : ((Int.gcd p 0 : Nat) : Int) = p := by simp; omega

end Go.Proofs.Ytdfccjhmpgoacaa.Big
