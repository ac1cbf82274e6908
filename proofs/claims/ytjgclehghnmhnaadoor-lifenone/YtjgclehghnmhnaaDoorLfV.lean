/- The document's example. -/
import Derived.Test.YtjgclehghnmhnaaDoorLfR
import Derived.Test.YtjgclehghnmhnaaDoorLfG
import Derived.Test.YtjgclehghnmhnaaDoorLfH
namespace Go.Proofs.YtjgclehghnmhnaaDoor
open Go Go.RowKit

def lf0 : Sta := ⟨List.replicate 4 0, List.replicate 4 false, []⟩
def lf1 : Sta := ⟨[1, 0, 0, 0], [true, false, false, false], [newA 65536 1]⟩
def lf2 : Sta := ⟨[1, 0, 0, 0], [true, false, false, false], [runF 2 (newA 65536 1)]⟩
def lf3 : Sta := ⟨[1, 0, 0, 0], [true, false, false, false], [lodF 7 (runF 2 (newA 65536 1))]⟩
def lf4 : Sta := ⟨[1, 0, 0, 0], [true, false, false, false], [blkF (lodF 7 (runF 2 (newA 65536 1)))]⟩
theorem lfm : mkI lf0 1 = 65536 ∧ mkE lf0 1 = 0 ∧ mkS lf0 1 = lf1 := ⟨by decide, by decide, rfl⟩
theorem lfr : opE 1 (runK lf1.xs 2) lf1.xs 65536 = 0 ∧ opS 1 (runK lf1.xs 2) (runF 2) lf1 65536 = lf2 := ⟨by decide, rfl⟩
theorem lfl : opE 2 (lodK 7) lf2.xs 65536 = 0 ∧ opS 2 (lodK 7) (lodF 7) lf2 65536 = lf3 := ⟨by decide, rfl⟩
theorem lfb : opE 4 blkK lf3.xs 65536 = 0 ∧ opS 4 blkK blkF lf3 65536 = lf4 := ⟨by decide, rfl⟩
theorem lfg : getV lf4.xs 65536 = blkF (lodF 7 (runF 2 (newA 65536 1))) ∧ getB lf4.xs 65536 = true := ⟨rfl, rfl⟩
theorem in65536 : In64 65536 := ⟨by decide, by decide⟩
theorem lfA : acA (blkF (lodF 7 (runF 2 (newA 65536 1)))) = #[.int .i64 65536, .int .i64 3, .int .i64 1, .int .i64 (-1), .int .i64 7, .int .i64 0, .int .i64 0, .int .i64 0, .int .i64 0, .int .i64 0, .int .i64 0, .int .i64 0, .int .i64 0, .int .i64 0, .int .i64 0, .int .i64 0] := rfl

theorem Env.step {w w' : World} {T : List Nat} (h : Env w) (hs : Step [] w T w') : Env w' := h.on hs.below
set_option maxHeartbeats 2000000 in
set_option maxRecDepth 100000 in
theorem lives_any (w : World) (hV : Env w) : Calls Tryd.prog 8 #[] w fun e w' => e = .returned (.bool true) ∧ Below w.heap.size w w' := by
  have hN := tnew_some 4 (by decide) (by decide) w
  have HM : ∀ W B T, TQ W B T 4 lf0 → Env W → Calls Tryd.prog 19 #[.pointer (some ⟨B, 0, none⟩), .int .i64 1] W fun e w' => e = .returned (.tuple #[.int .i64 65536, .int .i64 0]) ∧ ∃ T', TQ w' B T' 4 lf1 ∧ Step T W T' w' := fun W B T h hE => by
    have := make_any h hE 1
    rw [lfm.1, lfm.2.1, lfm.2.2] at this
    exact this
  have HR : ∀ W B T, TQ W B T 4 lf1 → Env W → Calls Tryd.prog 20 #[.pointer (some ⟨B, 0, none⟩), .int .i64 65536, .int .i64 2] W fun e w' => e = .returned (.int .i64 0) ∧ TQ w' B T 4 lf2 ∧ But T W w' := fun W B T h hE => by
    have := run_any h hE in65536 2
    rw [lfr.1, lfr.2] at this
    exact this
  have HL : ∀ W B T, TQ W B T 4 lf2 → Env W → Calls Tryd.prog 21 #[.pointer (some ⟨B, 0, none⟩), .int .i64 65536, .int .i64 7] W fun e w' => e = .returned (.int .i64 0) ∧ TQ w' B T 4 lf3 ∧ But T W w' := fun W B T h hE => by
    have := load_any h hE in65536 7
    rw [lfl.1, lfl.2] at this
    exact this
  have HB : ∀ W B T, TQ W B T 4 lf3 → Env W → Calls Tryd.prog 22 #[.pointer (some ⟨B, 0, none⟩), .int .i64 65536] W fun e w' => e = .returned (.int .i64 0) ∧ TQ w' B T 4 lf4 ∧ But T W w' := fun W B T h hE => by
    have := block_any h hE in65536
    rw [lfb.1, lfb.2] at this
    exact this
  have HG : ∀ W B T, TQ W B T 4 lf4 → Calls Tryd.prog 17 #[.pointer (some ⟨B, 0, none⟩), .int .i64 65536] W fun e w' => e = .returned (.tuple #[.agg #[.int .i64 65536, .int .i64 3, .int .i64 1, .int .i64 (-1), .int .i64 7, .int .i64 0, .int .i64 0, .int .i64 0, .int .i64 0, .int .i64 0, .int .i64 0, .int .i64 0, .int .i64 0, .int .i64 0, .int .i64 0, .int .i64 0], .bool true]) ∧ Below W.heap.size W w' := fun W B T h => by
    have := get_any h in65536
    rw [lfg.1, lfg.2, lfA] at this
    exact this
  have HS : Hid (∀ W T W' T', Step [] w T W → Step T W T' W' → Env W' ∧ Step [] w T' W') := fun W T W' T' h1 h2 => ⟨hV.step (h1.trans h2), h1.trans h2⟩
  have HQ : (⟨List.replicate 4 0, List.replicate 4 false, []⟩ : Sta) = lf0 := rfl
  rw [HQ] at hN
  have HV : Hid (Env w) := hV
  clear HQ hV
  generalize lf0 = l0 at *
  generalize lf1 = l1 at *
  generalize lf2 = l2 at *
  generalize lf3 = l3 at *
  generalize lf4 = l4 at *
  go_enter Tryd.func8, Tryd.ntmps8
  go_wp2_with (first
    | (go_at_call 9; refine hN.mono ?_; rintro e w1 ⟨B, T, rfl, h1, s1⟩; have e1 := HV.out.step s1)
    | (go_at_call 19; (with_reducible refine (HM w1 B T h1 e1).mono ?_); rintro e w2 ⟨rfl, T2, h2, s2⟩; obtain ⟨e2, t2⟩ := HS.out _ _ _ _ s1 s2)
    | (go_at_call 20; (with_reducible refine (HR w2 B T2 h2 e2).mono ?_); rintro e w3 ⟨rfl, h3, s3⟩; obtain ⟨e3, t3⟩ := HS.out _ _ _ _ t2 (Step.same s3))
    | (go_at_call 21; (with_reducible refine (HL w3 B T2 h3 e3).mono ?_); rintro e w4 ⟨rfl, h4, s4⟩; obtain ⟨e4, t4⟩ := HS.out _ _ _ _ t3 (Step.same s4))
    | (go_at_call 22; (with_reducible refine (HB w4 B T2 h4 e4).mono ?_); rintro e w5 ⟨rfl, h5, s5⟩; obtain ⟨e5, t5⟩ := HS.out _ _ _ _ t4 (Step.same s5))
    | (go_at_call 17; (with_reducible refine (HG w5 B T2 h5).mono ?_); rintro e w6 ⟨rfl, b6⟩))
  go_ret
  exact ⟨rfl, (t5.below.trans (b6.mono t5.below.size)).alloc (Nat.le_trans t5.below.size b6.size) _⟩
end Go.Proofs.YtjgclehghnmhnaaDoor
