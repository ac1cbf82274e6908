/- CpuCounts returns true at every byte: its walk. -/
import Derived.Test.YtllnpkijojpccaaDoorCntM
namespace Go.Proofs.YtllnpkijojpccaaDoor
open Go Go.RowKit Go.Shelf

set_option maxRecDepth 100000 in
set_option maxHeartbeats 2000000 in
theorem counts_tail {n : Int} (h0 : 0 ≤ n) (h1 : n < 256) {w : World} (hT : Tab w) : Calls Tryd.prog 7 #[.int .u8 n] w fun e w' => e = .returned (.bool true) ∧ Below w.heap.size w w' := by
  have hp : PV (w.alloc (.cells #[.int .i64 1, .int .i64 0, .int .i64 (1 + n), .int .i64 0, .int .i64 1, .int .i64 1, .int .i64 1, .int .i64 0, .int .i64 2, .int .i64 2, .int .i64 1, .int .i64 0, .int .i64 8, .int .i64 0, .int .i64 2, .int .i64 0, .int .i64 11, .int .i64 2, .int .i64 0, .int .i64 0] 51)) (some ⟨w.heap.size, 0, none⟩) (cntP n) := by
    intro j hj
    refine ⟨_, _, rfl, ?_⟩
    match j, hj with
    | 0, _ => exact ⟨by simp [go_sem]; rfl, by simp [go_sem]; rfl, by simp [go_sem]; rfl, by simp [go_sem]; rfl⟩
    | 1, _ => exact ⟨by simp [go_sem]; rfl, by simp [go_sem]; rfl, by simp [go_sem]; rfl, by simp [go_sem]; rfl⟩
    | 2, _ => exact ⟨by simp [go_sem]; rfl, by simp [go_sem]; rfl, by simp [go_sem]; rfl, by simp [go_sem]; rfl⟩
    | 3, _ => exact ⟨by simp [go_sem]; rfl, by simp [go_sem]; rfl, by simp [go_sem]; rfl, by simp [go_sem]; rfl⟩
    | 4, _ => exact ⟨by simp [go_sem]; rfl, by simp [go_sem]; rfl, by simp [go_sem]; rfl, by simp [go_sem]; rfl⟩
  have hb : Below w.heap.size w (w.alloc (.cells #[.int .i64 1, .int .i64 0, .int .i64 (1 + n), .int .i64 0, .int .i64 1, .int .i64 1, .int .i64 1, .int .i64 0, .int .i64 2, .int .i64 2, .int .i64 1, .int .i64 0, .int .i64 8, .int .i64 0, .int .i64 2, .int .i64 0, .int .i64 11, .int .i64 2, .int .i64 0, .int .i64 0] 51)) := (Below.refl _ w).alloc (Nat.le_refl _) _
  have HF := fresh_any 0 0
  have HL : ∀ W, Below w.heap.size w W → Calls Tryd.prog 9 #[] W fun e w' => e = .returned (.bool true) ∧ Below W.heap.size W w' := fun W hb => lives_any (hT.on hb)
  have HL2 : ∀ W, Below w.heap.size w W → ∀ o1 o2 : Obj, Calls Tryd.prog 9 #[] ((W.alloc o1).alloc o2) fun e w' => e = .returned (.bool true) ∧ Below ((W.alloc o1).alloc o2).heap.size ((W.alloc o1).alloc o2) w' := fun W hb o1 o2 => HL _ ((hb.alloc hb.size _).alloc (by have := hb.size; simp; omega) _)
  have HR : ∀ W, Below w.heap.size w W → PV W (some ⟨w.heap.size, 0, none⟩) (cntP n) → ∃ d : Cx, Calls Tryd.prog 12 #[.slice (some ⟨w.heap.size, 0, none⟩) 5 5, .agg (cxA (freshC 0 0)), .int .i64 2000] W fun e w' => e = .returned (.tuple #[.agg (cxA d), .agg #[.int .i64 11, .int .i64 (1 + n), .int .i64 0, .int .i64 0], .int .i64 (3 + 2 * (1 + n))]) ∧ Below W.heap.size W w' := fun W hb hp => by
    have h := run_any (ps := cntP n) 5 (freshC 0 0) 2000 (by decide) hp (hT.on hb)
    have e := cnt_run h0 h1
    refine ⟨(runC (codeL (cntP n)) 2000 (freshC 0 0)).1, h.mono fun e' w' ⟨h1, h2⟩ => ⟨h1.trans ?_, h2⟩⟩
    rw [show (2000 : Int).toNat = 2000 from rfl, show (runC (codeL (cntP n)) 2000 (freshC 0 0)).2.1 = (11, 1 + n, 0, 0) by rw [e], show (runC (codeL (cntP n)) 2000 (freshC 0 0)).2.2 = 3 + 2 * (1 + n.toNat) by rw [e], show ((3 + 2 * (1 + n.toNat) : Nat) : Int) = 3 + 2 * (1 + n) by omega]
    rfl
  go_enter Tryd.func7, Tryd.ntmps7
  go_upto_region 2 with fail
  generalize w.alloc (.cells #[.int .i64 1, .int .i64 0, .int .i64 (1 + n), .int .i64 0, .int .i64 1, .int .i64 1, .int .i64 1, .int .i64 0, .int .i64 2, .int .i64 2, .int .i64 1, .int .i64 0, .int .i64 8, .int .i64 0, .int .i64 2, .int .i64 0, .int .i64 11, .int .i64 2, .int .i64 0, .int .i64 0] 51) = W at *
  go_wp2_with (first | (go_at_call 16; (refine (HF W).mono ?_); rintro e W1 ⟨rfl, hb1⟩; obtain ⟨d, HR1⟩ := HR W1 (hb.trans (hb1.mono hb.size)) (hp.below hb1)) | (go_at_call 12; (refine HR1.mono ?_); rintro e W2 ⟨rfl, hb2⟩; have hb4 := below_tri hb hb1 hb2; unfold cxA) | (go_at_call 9; (refine (HL2 W2 hb4 _ _).mono ?_); rintro e W3 ⟨rfl, hb3⟩))
  go_ret
  refine ⟨rfl, ?_⟩
  exact below_al2 hb4 hb3

end Go.Proofs.YtllnpkijojpccaaDoor
