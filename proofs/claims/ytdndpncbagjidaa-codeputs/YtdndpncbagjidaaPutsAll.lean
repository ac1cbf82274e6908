/- CodePuts at every input: what is too long is let go. -/
import Derived.Test.YtdndpncbagjidaaPutsWalk
namespace Go.Proofs.Ytdndpncbagjidaa
open Go.RowKit

set_option maxRecDepth 100000 in
set_option maxHeartbeats 2000000 in
theorem puts_all (a : Option Addr) (c : Nat) (bs : List UInt8) (w : World) (hy : Byts w w.heap.size a c bs) (x : Vl) (hx : x.ok) (hi : IntsAt w x.a x.l) :
    Calls Try.prog 3 #[.slice a bs.length c, .agg #[.int .i64 x.k, .int .u64 x.n, .int .i64 x.i, .string x.s, .slice x.a x.l.length x.c]] w fun e w' => e = .returned (.bool true) ∧ Below w.heap.size w w' := by
  obtain ⟨k, n, i, s, p, pc, l⟩ := x
  obtain ⟨hk, hn, hii, hl⟩ := hx
  simp only at hk hn hii hl hi ⊢
  obtain ⟨N, rfl⟩ : ∃ N : Nat, n = (N : Int) := ⟨n.toNat, by have := hn.1; omega⟩
  by_cases h1 : bs.length ≤ 300
  · by_cases h2 : s.size ≤ 300
    · by_cases h3 : l.length ≤ 100
      · exact puts_any a c bs w hy k N i s p pc l (by have := hn.2; omega) hii hl hi h1 h2 h3
      · have hV := ValAt.new w ⟨k, N, i, s, p, pc, l⟩
        obtain ⟨c0, c1, c2, c3, c4⟩ := hV
        simp only at c0 c1 c2 c3 c4
        have g1 : ¬ (300 : Int) < bs.length := by omega
        have g2 : ¬ (300 : Int) < s.size := by omega
        have g3 : (100 : Int) < l.length := by omega
        have hlv := lives_any (w.alloc (.cells #[.int .i64 k, .int .u64 (N : Int), .int .i64 i, .string s, .slice p l.length pc] 26))
        go_enter Try.func3, Try.ntmps3
        go_wp2_with (go_at_call 9; refine hlv.mono ?_; rintro e w3 ⟨rfl, hb3⟩)
        go_ret
        exact ⟨rfl, ((Below.refl _ w).alloc (Nat.le_refl _) _).trans (hb3.mono (by simp))⟩
    · have hV := ValAt.new w ⟨k, N, i, s, p, pc, l⟩
      obtain ⟨c0, c1, c2, c3, c4⟩ := hV
      simp only at c0 c1 c2 c3 c4
      have g1 : ¬ (300 : Int) < bs.length := by omega
      have g2 : (300 : Int) < s.size := by omega
      have hlv := lives_any (w.alloc (.cells #[.int .i64 k, .int .u64 (N : Int), .int .i64 i, .string s, .slice p l.length pc] 26))
      go_enter Try.func3, Try.ntmps3
      go_wp2_with (go_at_call 9; refine hlv.mono ?_; rintro e w3 ⟨rfl, hb3⟩)
      go_ret
      exact ⟨rfl, ((Below.refl _ w).alloc (Nat.le_refl _) _).trans (hb3.mono (by simp))⟩
  · have g1 : (300 : Int) < bs.length := by omega
    have hlv := lives_any (w.alloc (.cells #[.int .i64 k, .int .u64 (N : Int), .int .i64 i, .string s, .slice p l.length pc] 26))
    go_enter Try.func3, Try.ntmps3
    go_wp2_with (go_at_call 9; refine hlv.mono ?_; rintro e w3 ⟨rfl, hb3⟩)
    go_ret
    exact ⟨rfl, ((Below.refl _ w).alloc (Nat.le_refl _) _).trans (hb3.mono (by simp))⟩

end Go.Proofs.Ytdndpncbagjidaa
