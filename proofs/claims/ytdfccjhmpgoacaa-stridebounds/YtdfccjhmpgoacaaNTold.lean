/- Numbers that are told. -/
import Derived.Test.YtdfccjhmpgoacaaNMulDivB
namespace Go.Proofs.Ytdfccjhmpgoacaa.Big
theorem told_fits {V : Int} (h : fitsB V = true) : toldI V = V := by simp [toldI, h]
theorem told_not {V : Int} (h : fitsB V = false) : toldI V = 0 := by simp [toldI, h]
theorem fits_mk {V : Int} (h0 : -9223372036854775808 ≤ V) (h1 : V ≤ 9223372036854775807) : fitsB V = true := by unfold fitsB; simp; omega
theorem fits_bd {V : Int} (h : fitsB V = true) : -9223372036854775808 ≤ V ∧ V ≤ 9223372036854775807 := by unfold fitsB at h; simpa using h
end Go.Proofs.Ytdfccjhmpgoacaa.Big
