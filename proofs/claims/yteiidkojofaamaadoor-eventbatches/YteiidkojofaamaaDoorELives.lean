/- The statements' lives. -/
import Derived.Test.YteiidkojofaamaaDoorEBytes
import Derived.Test.YteiidkojofaamaaDoorCPutL
namespace Go.Proofs.YteiidkojofaamaaDoor
open Go Go.RowKit

def liveE : Ev := ⟨4, 3, 7, 5, 0, 0, fun _ => 0, 0⟩
theorem live_good : goodE liveE = true := by decide
theorem live_byt : byt liveE = [4, 3, 7, 5] := by decide
theorem live_rg : RgE liveE := fun x hx => by
  unfold evI liveE at hx
  simp at hx
  omega
theorem lives_any {w : World} (hT : Tab w) : Calls Tryd.prog 17 #[] w fun r w' => r = .returned (.bool true) ∧ Below w.heap.size w w' := by
  have HB := bytes_any liveE w hT live_good live_rg
  rw [live_byt] at HB
  unfold evA liveE at HB
  go_enter Tryd.func17, Tryd.ntmps17
  go_wp2_with (go_at_call 12; (with_reducible refine HB.mono ?_); rintro r w1 ⟨v1, rfl, ho1, hb1⟩; have q := conv_own ho1)
  go_ret
  exact ⟨rfl, hb1⟩
end Go.Proofs.YteiidkojofaamaaDoor
