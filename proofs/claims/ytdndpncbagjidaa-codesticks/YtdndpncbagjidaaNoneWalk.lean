/- CodeNone's walk. -/
import Derived.Test.YtdndpncbagjidaaSrc
import Derived.Test.YtdndpncbagjidaaPutL
namespace Go.Proofs.Ytdndpncbagjidaa
open Go.RowKit

/-- An ask in a block of its own. -/
def askC (k l m : Int) (n : Int) (c : Int) : Array Value := #[.int .i64 k, .int .i64 l, .int .i64 m, .int .u64 n, .int .i64 c]
structure AskAt (w : World) (A : Nat) (k l m n c : Int) : Prop where
  c0 : w.cell? ⟨A, 0, none⟩ = some (.int .i64 k)
  c1 : w.cell? ⟨A, 1, none⟩ = some (.int .i64 l)
  c2 : w.cell? ⟨A, 2, none⟩ = some (.int .i64 m)
  c3 : w.cell? ⟨A, 3, none⟩ = some (.int .u64 n)
  c4 : w.cell? ⟨A, 4, none⟩ = some (.int .i64 c)
theorem AskAt.but {S : List Nat} {w w' : World} {A : Nat} {k l m n c : Int} (h : AskAt w A k l m n c) (hb : But S w w') (hA : A ∉ S) : AskAt w' A k l m n c :=
  ⟨hb.cell' h.c0 hA, hb.cell' h.c1 hA, hb.cell' h.c2 hA, hb.cell' h.c3 hA, hb.cell' h.c4 hA⟩
theorem AskAt.new (w : World) (k l m n c : Int) : AskAt (w.alloc (.cells #[.int .i64 k, .int .i64 l, .int .i64 m, .int .u64 n, .int .i64 c] 40)) w.heap.size k l m n c := by
  constructor <;> simp [go_sem]

theorem idx0 (p q : Option Addr) (w : World) : (Instr.index 61 (.agg #[.pointer p, .pointer q]) (.int .i64 0)).run Try.prog w = .ok (.pointer p) w := by kernel_rfl
theorem idx1 (p q : Option Addr) (w : World) : (Instr.index 61 (.agg #[.pointer p, .pointer q]) (.int .i64 1)).run Try.prog w = .ok (.pointer q) w := by kernel_rfl

set_option maxRecDepth 100000 in
set_option maxHeartbeats 2000000 in
theorem none_any (k l m n c : Int) (w : World) (hn : 0 ≤ n) :
    Calls Try.prog 8 #[.agg #[.int .i64 k, .int .i64 l, .int .i64 m, .int .u64 n, .int .i64 c]] w fun e w' => e = .returned (.bool true) ∧ Below w.heap.size w w' := by
  have hA0 := AskAt.new w k l m n c
  have hbA : But [] w (w.alloc (.cells #[.int .i64 k, .int .i64 l, .int .i64 m, .int .u64 n, .int .i64 c] 40)) := (But.refl [] w).alloc _
  have hz0 : ((w.alloc (.cells #[.int .i64 k, .int .i64 l, .int .i64 m, .int .u64 n, .int .i64 c] 40)).alloc (.cells #[.bool false, .slice none 0 0, .int .i64 0] 60)).cell? ⟨w.heap.size + 1, 0, none⟩ = some (.bool false) := by simp [go_sem]
  have hA := hA0.but ((But.refl [] _).alloc (.cells #[.bool false, .slice none 0 0, .int .i64 0] 60)) (by simp)
  have hb0 : But [] w ((w.alloc (.cells #[.int .i64 k, .int .i64 l, .int .i64 m, .int .u64 n, .int .i64 c] 40)).alloc (.cells #[.bool false, .slice none 0 0, .int .i64 0] 60)) := hbA.alloc _
  go_enter Try.func8, Try.ntmps8
  go_wp2_with fail
  clear hA0 hbA
  generalize (w.alloc (.cells #[.int .i64 k, .int .i64 l, .int .i64 m, .int .u64 n, .int .i64 c] 40)).alloc (.cells #[.bool false, .slice none 0 0, .int .i64 0] 60) = W at *
  obtain ⟨N, rfl⟩ : ∃ N : Nat, n = N := ⟨n.toNat, by omega⟩
  have CA : ∀ w', But [] W w' → AskAt w' w.heap.size k l m N c := fun w' hb => hA.but hb (by simp)
  go_loopw [7, 5] (fun q _ wr => ∃ j : Nat, j ≤ 2 ∧ q = .int .i64 (j : Int) ∧ But [] W wr) (fun q _ _ => 2 - (intOf q).toNat)
  case atStart => exact ⟨0, Nat.zero_le _, rfl, But.refl _ _⟩
  case round =>
    obtain ⟨j, hj, rfl, hb⟩ := hrel
    by_cases hlt : j < 2
    · rcases (show j = 0 ∨ j = 1 by omega) with rfl | rfl
      · have C0 : ∀ w', But [] W w' → NoS w' (none : Option Addr) := fun w' _ => .inl rfl
        obtain ⟨a0, a1, a2, a3, a4⟩ := CA _ hb
        have i0 := idx0
        have i1 := idx1
        go_wp2_with (first
          | (go_at_call 28; refine (none28 none _ (C0 _ hb) N).mono ?_; rintro e w2 ⟨rfl, hb2⟩; replace hb := hb.trans hb2; clear a0 a1 a2 a3 a4; obtain ⟨a0, a1, a2, a3, a4⟩ := CA _ hb)
          | (go_at_call 29; refine (none29 none _ (C0 _ hb) l m).mono ?_; rintro e w2 ⟨rfl, hb2⟩; replace hb := hb.trans hb2; clear a0 a1 a2 a3 a4; obtain ⟨a0, a1, a2, a3, a4⟩ := CA _ hb)
          | (go_at_call 30; refine (none30 none _ (C0 _ hb) m).mono ?_; rintro e w2 ⟨rfl, hb2⟩; replace hb := hb.trans hb2; clear a0 a1 a2 a3 a4; obtain ⟨a0, a1, a2, a3, a4⟩ := CA _ hb)
          | (go_at_call 31; refine (none31 none _ (C0 _ hb)).mono ?_; rintro e w2 ⟨rfl, hb2⟩; replace hb := hb.trans hb2; clear a0 a1 a2 a3 a4; obtain ⟨a0, a1, a2, a3, a4⟩ := CA _ hb)
          | (go_at_call 33; refine (none33 none _ (C0 _ hb) c l m).mono ?_; rintro e w2 ⟨rfl, hb2⟩; replace hb := hb.trans hb2; clear a0 a1 a2 a3 a4; obtain ⟨a0, a1, a2, a3, a4⟩ := CA _ hb)
          | (go_at_call 34; refine (none34 none _ (C0 _ hb)).mono ?_; rintro e w2 ⟨rfl, hb2⟩; replace hb := hb.trans hb2; clear a0 a1 a2 a3 a4; obtain ⟨a0, a1, a2, a3, a4⟩ := CA _ hb)
          | (go_at_call 24; refine (left_none none _ (C0 _ hb)).mono ?_; rintro e w2 ⟨rfl, rfl⟩)
          | (go_at_call 23; refine (err_none none _ (C0 _ hb)).mono ?_; rintro e w2 ⟨rfl, rfl⟩)
          | (go_at_call 25; refine (end_none none _ (C0 _ hb)).mono ?_; rintro e w2 ⟨rfl, rfl⟩))
        go_roundw
        case rel => exact ⟨1, by omega, rfl, hb⟩
        case measure => simp [intOf]
      · have C0 : ∀ w', But [] W w' → NoS w' (some ⟨w.heap.size + 1, 0, none⟩) := fun w' hb => .inr ⟨_, rfl, hb.cell hz0⟩
        obtain ⟨a0, a1, a2, a3, a4⟩ := CA _ hb
        have i0 := idx0
        have i1 := idx1
        go_wp2_with (first
          | (go_at_call 28; refine (none28 (some ⟨w.heap.size + 1, 0, none⟩) _ (C0 _ hb) N).mono ?_; rintro e w2 ⟨rfl, hb2⟩; replace hb := hb.trans hb2; clear a0 a1 a2 a3 a4; obtain ⟨a0, a1, a2, a3, a4⟩ := CA _ hb)
          | (go_at_call 29; refine (none29 (some ⟨w.heap.size + 1, 0, none⟩) _ (C0 _ hb) l m).mono ?_; rintro e w2 ⟨rfl, hb2⟩; replace hb := hb.trans hb2; clear a0 a1 a2 a3 a4; obtain ⟨a0, a1, a2, a3, a4⟩ := CA _ hb)
          | (go_at_call 30; refine (none30 (some ⟨w.heap.size + 1, 0, none⟩) _ (C0 _ hb) m).mono ?_; rintro e w2 ⟨rfl, hb2⟩; replace hb := hb.trans hb2; clear a0 a1 a2 a3 a4; obtain ⟨a0, a1, a2, a3, a4⟩ := CA _ hb)
          | (go_at_call 31; refine (none31 (some ⟨w.heap.size + 1, 0, none⟩) _ (C0 _ hb)).mono ?_; rintro e w2 ⟨rfl, hb2⟩; replace hb := hb.trans hb2; clear a0 a1 a2 a3 a4; obtain ⟨a0, a1, a2, a3, a4⟩ := CA _ hb)
          | (go_at_call 33; refine (none33 (some ⟨w.heap.size + 1, 0, none⟩) _ (C0 _ hb) c l m).mono ?_; rintro e w2 ⟨rfl, hb2⟩; replace hb := hb.trans hb2; clear a0 a1 a2 a3 a4; obtain ⟨a0, a1, a2, a3, a4⟩ := CA _ hb)
          | (go_at_call 34; refine (none34 (some ⟨w.heap.size + 1, 0, none⟩) _ (C0 _ hb)).mono ?_; rintro e w2 ⟨rfl, hb2⟩; replace hb := hb.trans hb2; clear a0 a1 a2 a3 a4; obtain ⟨a0, a1, a2, a3, a4⟩ := CA _ hb)
          | (go_at_call 24; refine (left_none (some ⟨w.heap.size + 1, 0, none⟩) _ (C0 _ hb)).mono ?_; rintro e w2 ⟨rfl, rfl⟩)
          | (go_at_call 23; refine (err_none (some ⟨w.heap.size + 1, 0, none⟩) _ (C0 _ hb)).mono ?_; rintro e w2 ⟨rfl, rfl⟩)
          | (go_at_call 25; refine (end_none (some ⟨w.heap.size + 1, 0, none⟩) _ (C0 _ hb)).mono ?_; rintro e w2 ⟨rfl, rfl⟩))
        go_roundw
        case rel => exact ⟨2, by omega, rfl, hb⟩
        case measure => simp [intOf]
    · obtain rfl : j = 2 := by omega
      have hl := lives_any wr
      go_wp2_with (go_at_call 9; refine hl.mono ?_; rintro e w2 ⟨rfl, hb2⟩)
      go_ret
      exact ⟨rfl, (hb0.trans (hb.trans (But.of_below hb2))).to_below⟩

end Go.Proofs.Ytdndpncbagjidaa
