/- Semas that no call made, as a value: 67 cells. -/
import Derived.Test.YtdmnobkbgmomdaaSmM
namespace Go.Proofs.Ytdmnobkbgmomdaa.Sm
open Go Go.RowKit Go.Proofs.Ytdmnobkbgmomdaa.Bs Go.Proofs.Ytdmnobkbgmomdaa.Se

/-- The cells of Semas that no call made. -/
def zc : Array Value := (.int .i64 0 :: .int .i64 0 :: (List.replicate 64 (Value.int .i64 0) ++ [Value.pointer none]) : List Value).toArray
theorem zc_zero (w : World) : Sem.run Try.prog (zeroValue 43) w = .ok (.agg zc) w := by kernel_rfl
theorem zc_size : zc.size = 67 := by kernel_rfl
theorem zc_ne : zc ≠ #[] := fun e => by
  have := zc_size
  rw [e] at this
  simp at this
theorem zc_last : zc[66]? = some (.pointer none) := by kernel_rfl
end Go.Proofs.Ytdmnobkbgmomdaa.Sm
