/- The reference's Good: whatever the event. -/
import Derived.Test.YteiidkojofaamaaDoorRGd1
import Derived.Test.YteiidkojofaamaaDoorRGd2
import Derived.Test.YteiidkojofaamaaDoorRGd3
import Derived.Test.YteiidkojofaamaaDoorRGd4
import Derived.Test.YteiidkojofaamaaDoorRGd5
import Derived.Test.YteiidkojofaamaaDoorRGd6
import Derived.Test.YteiidkojofaamaaDoorRGd7
namespace Go.Proofs.YteiidkojofaamaaDoor
open Go Go.RowKit

theorem rgood_any (e : Ev) (w : World) : Calls Tryd.prog 9 #[.agg (evA e)] w fun r w' => r = .returned (.bool (goodE e)) ∧ Below w.heap.size w w' := by
  cases hk : kindB e.kd with
  | true =>
    obtain ⟨k, he, h1, h7⟩ := kind_nat hk
    rcases (show k = 1 ∨ k = 2 ∨ k = 3 ∨ k = 4 ∨ k = 5 ∨ k = 6 ∨ k = 7 by omega) with rfl | rfl | rfl | rfl | rfl | rfl | rfl
    · exact rgood1 e w he
    · exact rgood2 e w he
    · exact rgood3 e w he
    · exact rgood4 e w he
    · exact rgood5 e w he
    · exact rgood6 e w he
    · exact rgood7 e w he
  | false =>
    rw [good_kind hk]
    unfold evA
    unfold kindB at hk
    by_cases h1 : e.kd < 1
    · clear hk
      go_enter Tryd.func9, Tryd.ntmps9
      go_wp2_with fail
      go_ret
      exact ⟨rfl, by repeat (first | exact Below.refl _ _ | refine bel_al ?_ _)⟩
    · have h7 : 7 < e.kd := by
        simp at hk
        omega
      clear hk
      go_enter Tryd.func9, Tryd.ntmps9
      go_wp2_with fail
      go_ret
      exact ⟨rfl, by repeat (first | exact Below.refl _ _ | refine bel_al ?_ _)⟩
end Go.Proofs.YteiidkojofaamaaDoor
