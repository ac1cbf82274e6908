/- Two lists of ints, alike or not, held against each other. -/
import Derived.Test.YtdndpncbagjidaaInts
namespace Go.Proofs.Ytdndpncbagjidaa
open Go.RowKit

/-- Some bool is told, and nothing turns. -/
def SomeB (w : World) (e : Ending) (w' : World) : Prop := ∃ r, e = .returned (.bool r) ∧ But [] w w'

set_option maxHeartbeats 1000000 in
theorem ints_tot (a b : Option Addr) (c d : Nat) (xs ys : List Int) (w : World) (hn : xs.length ≤ 100000) (ha : IntsAt w a xs) (hb : IntsAt w b ys) :
    Calls Try.prog 32 #[.slice a xs.length c, .slice b ys.length d] w fun e w' => SomeB w e w' := by
  by_cases hl : xs.length = ys.length
  · have hl' : ((xs.length : Int) != (ys.length : Int)) = false := by simp; omega
    go_enter Try.func32, Try.ntmps32
    go_wp2_with fail
    clear hl'
    have HL := Hid.mk hl
    clear hl
    go_loopw [13, 5] (fun q _ wr => ∃ j : Nat, j ≤ xs.length ∧ q = .int .i64 j ∧ Drawn w wr) (fun q _ _ => 100000 - (intOf q).toNat)
    case atStart => exact ⟨0, by omega, rfl, Drawn.refl _⟩
    case round =>
      obtain ⟨j, hj, rfl, hB⟩ := hrel
      by_cases hlt : j < xs.length
      · have hlt2 : j < ys.length := by have := HL.out; omega
        obtain ⟨g1, o1, rfl, hc1⟩ := ha j (xs[j]) (by simp)
        obtain ⟨g2, o2, rfl, hc2⟩ := hb j (ys[j]) (by simp)
        generalize xs[j] = x at hc1
        generalize ys[j] = y at hc2
        replace hc1 := (Drawn.but (S := []) hB).cell hc1
        replace hc2 := (Drawn.but (S := []) hB).cell hc2
        have h1 : (j : Int) < (xs.length : Int) := by omega
        have h2 : (j : Int) < (ys.length : Int) := by omega
        have h0 : (0 : Int) ≤ (j : Int) := by omega
        by_cases hxy : x = y
        · subst hxy
          go_wp2_with fail
          go_quiet (fail)
          go_wp2_with fail
          go_roundw
          case rel => exact ⟨j + 1, by omega, by simp, hB.trans ⟨nq, rfl⟩⟩
          case measure =>
            simp [intOf]
            omega
        · have hxy' : (x != y) = true := by simp [hxy]
          clear hxy
          go_wp2_with fail
          go_quiet (fail)
          go_wp2_with fail
          go_ret
          exact ⟨_, rfl, Drawn.but (hB.trans ⟨nq, rfl⟩)⟩
      · have k1 : ¬ (j : Int) < (xs.length : Int) := by omega
        have k2 : ¬ (j : Int) < (ys.length : Int) := by have := HL.out; omega
        go_wp2_with fail
        go_ret
        exact ⟨_, rfl, Drawn.but hB⟩
  · have hl' : ((xs.length : Int) != (ys.length : Int)) = true := by simp; omega
    clear hl
    go_enter Try.func32, Try.ntmps32
    go_wp2_with fail
    go_ret
    exact ⟨_, rfl, But.refl _ _⟩

end Go.Proofs.Ytdndpncbagjidaa
