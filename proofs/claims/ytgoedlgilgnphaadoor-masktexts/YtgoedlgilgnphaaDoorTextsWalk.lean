/- The walk of MaskTexts. -/
import Derived.Test.YtgoedlgilgnphaaDoorParseR
namespace Go.Proofs.YtgoedlgilgnphaaDoor
open Go.RowKit Go.Shelf

set_option maxRecDepth 100000 in
set_option maxHeartbeats 1000000 in
theorem texts_any (m : Nat) (s : List UInt8) (hm : m < 18446744073709551616) (w : World) (hT : Tab w) (hE : Errs w) (hlen : s.length ≤ 9223372036854775807) :
    Calls Tryd.prog 5 #[.int .u64 m, .string ⟨s.toArray⟩] w fun e w' => e = .returned (.bool true) ∧ Below w.heap.size w w' := by
  by_cases h : 400 < s.length
  · have h' : (400 : Int) < (s.length : Int) := by omega
    have LV := fun W (hW : Below w.heap.size w W) => lives_any W (hT.below hW (Nat.le_refl _))
    go_enter Tryd.func5, Tryd.ntmps5
    go_wp2_with (first
      | (go_at_call 26; refine (lives_any _ hT).mono ?_; rintro e w1 ⟨rfl, hb⟩))
    go_ret
    exact ⟨rfl, hb⟩
  · have h' : (s.length : Int) ≤ 400 := by omega
    have P1 := parse_told s (by omega) w hT hE
    have P2 := fun W => rparse_any s (by omega) W
    have T1 := fun W (hW : Below w.heap.size w W) => text_any m hm W (hT.below hW (Nat.le_refl _))
    have T2 := fun W => rtext_any m hm W
    have LV := fun W (hW : Below w.heap.size w W) => lives_any W (hT.below hW (Nat.le_refl _))
    generalize textL m = t at T1 T2
    clear hT hE
    go_enter Tryd.func5, Tryd.ntmps5
    go_wp2_with (first
      | (go_at_call 33; refine P1.mono ?_; rintro e w1 ⟨⟨p, hp, rfl⟩, hb1⟩)
      | (go_at_call 34; refine (P2 _).mono ?_; rintro e w2 ⟨⟨p', hp', rfl⟩, hb2⟩; obtain rfl := told_one hp hp'; have b2 := hb1.trans (hb2.mono hb1.size))
      | (go_at_call 35; refine (T1 _ b2).mono ?_; rintro e w3 ⟨rfl, hb3⟩; have b3 := b2.trans (hb3.mono b2.size))
      | (go_at_call 36; refine (T2 _).mono ?_; rintro e w' ⟨rfl, hw⟩; subst w')
      | (go_at_call 26; refine (LV _ b3).mono ?_; rintro e w4 ⟨rfl, hb4⟩))
    go_ret
    exact ⟨by simp, b3.trans (hb4.mono b3.size)⟩
end Go.Proofs.YtgoedlgilgnphaaDoor
