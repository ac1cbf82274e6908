/- Two lists of ints held against each other. -/
import Derived.Test.YtdndpncbagjidaaOpens
import Derived.Test.YtdndpncbagjidaaApp
namespace Go.Proofs.Ytdndpncbagjidaa
open Go.RowKit

theorem RowI.at {w : World} {lo : Nat} {v : Value} {xs : List Int} (h : RowI w lo v xs) : ∃ a c, v = .slice a xs.length c ∧ IntsAt w a xs := by
  obtain ⟨a, c, e, hi⟩ := h.open'
  refine ⟨a, c, e, fun j x hx => ?_⟩
  obtain ⟨g, e, hc⟩ := hi j x hx
  exact ⟨g, 0, e, by rw [Nat.zero_add]; exact hc⟩

set_option maxHeartbeats 1000000 in
theorem ints_any (a b : Option Addr) (c d : Nat) (xs : List Int) (w : World) (hn : xs.length ≤ 100000) (ha : IntsAt w a xs) (hb : IntsAt w b xs) :
    Calls Try.prog 32 #[.slice a xs.length c, .slice b xs.length d] w fun e w' => e = .returned (.bool true) ∧ But [] w w' := by
  go_enter Try.func32, Try.ntmps32
  go_wp2_with fail
  go_loopw [13, 5] (fun q _ wr => ∃ j : Nat, j ≤ xs.length ∧ q = .int .i64 j ∧ Drawn w wr) (fun q _ _ => 100000 - (intOf q).toNat)
  case atStart => exact ⟨0, by omega, rfl, Drawn.refl _⟩
  case round =>
    obtain ⟨j, hj, rfl, hB⟩ := hrel
    by_cases hlt : j < xs.length
    · obtain ⟨g1, o1, rfl, hc1⟩ := ha j (xs[j]) (by simp)
      obtain ⟨g2, o2, rfl, hc2⟩ := hb j (xs[j]) (by simp)
      generalize xs[j] = x at hc1 hc2
      replace hc1 := (Drawn.but (S := []) hB).cell hc1
      replace hc2 := (Drawn.but (S := []) hB).cell hc2
      have h1 : (j : Int) < (xs.length : Int) := by omega
      have h0 : (0 : Int) ≤ (j : Int) := by omega
      go_wp2_with fail
      go_quiet (fail)
      go_wp2_with fail
      go_roundw
      case rel => exact ⟨j + 1, by omega, by simp, hB.trans ⟨nq, rfl⟩⟩
      case measure =>
        simp [intOf]
        omega
    · obtain rfl : j = xs.length := by omega
      go_wp2_with fail
      go_ret
      exact ⟨rfl, Drawn.but hB⟩

end Go.Proofs.Ytdndpncbagjidaa
