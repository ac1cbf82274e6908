/- The reference's Good: whatever the event. -/
import Derived.Test.YtcffmdimfmpheaaDoorRGd1
import Derived.Test.YtcffmdimfmpheaaDoorRGd2
import Derived.Test.YtcffmdimfmpheaaDoorRGd3
import Derived.Test.YtcffmdimfmpheaaDoorRGd4
import Derived.Test.YtcffmdimfmpheaaDoorRGd5
import Derived.Test.YtcffmdimfmpheaaDoorRGd6
import Derived.Test.YtcffmdimfmpheaaDoorRGd7
namespace Go.Proofs.YtcffmdimfmpheaaDoor
open Go Go.RowKit

theorem rgood_any (e : Ev) (w : World) : Calls Tryd.prog 51 #[.agg (evA e)] w fun r w' => r = .returned (.bool (goodE e)) ∧ Below w.heap.size w w' := by
  cases hk : kindB e.kd with
  | true =>
    obtain ⟨k, he, h1, h7⟩ := kind_nat hk
    rcases (show k = 1 ∨ k = 2 ∨ k = 3 ∨ k = 4 ∨ k = 5 ∨ k = 6 ∨ k = 7 by omega) with rfl | rfl | rfl | rfl | rfl | rfl | rfl
    · exact rgood1 e w he
    · exact rgood2 e w he
    · exact rgood3 e w he
    · exact rgood4 e w he
    · exact rgood5 e w he
    · exact rgood6 e w he
    · exact rgood7 e w he
  | false =>
    rw [good_kind hk]
    unfold evA
    unfold kindB at hk
    by_cases h1 : e.kd < 1
    · clear hk
      go_enter Tryd.func51, Tryd.ntmps51
      go_wp2_with fail
      go_ret
      exact ⟨rfl, by repeat (first | exact Below.refl _ _ | refine bel_al ?_ _)⟩
    · have h7 : 7 < e.kd := by
        simp at hk
        omega
      clear hk
      go_enter Tryd.func51, Tryd.ntmps51
      go_wp2_with fail
      go_ret
      exact ⟨rfl, by repeat (first | exact Below.refl _ _ | refine bel_al ?_ _)⟩
end Go.Proofs.YtcffmdimfmpheaaDoor
