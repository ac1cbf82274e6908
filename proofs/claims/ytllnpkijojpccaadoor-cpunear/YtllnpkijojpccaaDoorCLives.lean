/- Fresh; the statements' light and lives. -/
import Derived.Test.YtllnpkijojpccaaDoorRunC
import Derived.Test.YtllnpkijojpccaaDoorCEq
namespace Go.Proofs.YtllnpkijojpccaaDoor
open Go Go.RowKit Go.Shelf

theorem below_tri {n : Nat} {a b c d : World} (h1 : Below n a b) (h2 : Below b.heap.size b c) (h3 : Below c.heap.size c d) (hn : n ≤ a.heap.size := by exact Nat.le_refl _) : Below n a d := by
  have l1 := h1.trans (h2.mono (Nat.le_trans hn h1.size))
  exact l1.trans (h3.mono (Nat.le_trans hn l1.size))
theorem below_al2 {n : Nat} {a W d : World} {o1 o2 : Obj} (h : Below n a W) (h3 : Below ((W.alloc o1).alloc o2).heap.size ((W.alloc o1).alloc o2) d) (hn : n ≤ a.heap.size := by exact Nat.le_refl _) : Below n a d := by
  have l0 := Nat.le_trans hn h.size
  have l1 := (h.alloc l0 o1).alloc (by simp; omega) o2
  exact l1.trans (h3.mono (Nat.le_trans hn l1.size))

/-- The context of a thread that begins. -/
def freshC (p v : Int) : Cx := { pg := p, pc := 0, rs := fun j => if j = 0 then v else 0, dp := 0 }
theorem fresh_rg (p v : Int) : Rg (freshC p v) := ⟨(by decide : (-9223372036854775808 : Int) ≤ 0), (by decide : (0 : Int) ≤ 9223372036854775807)⟩
theorem fresh_any (p v : Int) (w : World) : Calls Tryd.prog 16 #[.int .i64 p, .int .i64 v] w fun e w' => e = .returned (.agg (cxA (freshC p v))) ∧ Below w.heap.size w w' := by
  go_enter Tryd.func16, Tryd.ntmps16
  go_wp2_with fail
  refine bodyPost_ret (results_cX rfl _ _ w.heap.size (freshC p v) rfl ?_) rfl ⟨rfl, ?_⟩
  · exact Cel.new w #[.int .i64 p, .int .i64 0, .int .i64 v, .int .i64 0, .int .i64 0, .int .i64 0, .int .i64 0, .int .i64 0, .int .i64 0, .int .i64 0, .int .i64 0] 26
  · exact (Below.refl _ w).alloc (Nat.le_refl _) _

theorem light_any {ps : List Ins} {a : Option Addr} (c : Nat) (w : World) :
    Calls Tryd.prog 8 #[.slice a ps.length c] w fun e w' => e = .returned (.bool (decide (ps.length ≤ 80))) ∧ w' = w := by
  by_cases h : ps.length ≤ 80
  · have h1 : (ps.length : Int) ≤ 80 := by omega
    simp only [h, decide_true]
    go_enter Tryd.func8, Tryd.ntmps8
    go_wp2_with fail
    go_ret
    exact ⟨rfl, rfl⟩
  · have h2 : decide ((ps.length : Int) ≤ 80) = false := by simp; omega
    simp only [h, decide_false]
    go_enter Tryd.func8, Tryd.ntmps8
    go_wp2_with fail
    go_ret
    exact ⟨rfl, rfl⟩

def liveP : List Ins := [(1, 0, 3, 0), (8, 0, 1, 0), (11, 0, 0, 0)]
theorem live_code : codeL liveP = liveP := by
  have h : wholeB liveP = true := by decide
  unfold codeL
  rw [h]
  rfl
theorem live_run : (runC (codeL liveP) 9 (freshC 0 0)).2 = ((11, 0, 0, 0), 5) := by
  rw [live_code]
  decide +kernel

set_option maxRecDepth 100000 in
set_option maxHeartbeats 2000000 in
theorem lives_any {w : World} (hT : Tab w) : Calls Tryd.prog 9 #[] w fun e w' => e = .returned (.bool true) ∧ Below w.heap.size w w' := by
  have hp : PV (w.alloc (.cells #[.int .i64 1, .int .i64 0, .int .i64 3, .int .i64 0, .int .i64 8, .int .i64 0, .int .i64 1, .int .i64 0, .int .i64 11, .int .i64 0, .int .i64 0, .int .i64 0] 51)) (some ⟨w.heap.size, 0, none⟩) liveP := by
    intro j hj
    refine ⟨_, _, rfl, ?_⟩
    match j, hj with
    | 0, _ => exact ⟨by simp [go_sem]; rfl, by simp [go_sem]; rfl, by simp [go_sem]; rfl, by simp [go_sem]; rfl⟩
    | 1, _ => exact ⟨by simp [go_sem]; rfl, by simp [go_sem]; rfl, by simp [go_sem]; rfl, by simp [go_sem]; rfl⟩
    | 2, _ => exact ⟨by simp [go_sem]; rfl, by simp [go_sem]; rfl, by simp [go_sem]; rfl, by simp [go_sem]; rfl⟩
  have hb : Below w.heap.size w (w.alloc (.cells #[.int .i64 1, .int .i64 0, .int .i64 3, .int .i64 0, .int .i64 8, .int .i64 0, .int .i64 1, .int .i64 0, .int .i64 11, .int .i64 0, .int .i64 0, .int .i64 0] 51)) := (Below.refl _ w).alloc (Nat.le_refl _) _
  have HF := fresh_any 0 0
  have HR : ∀ W, Below w.heap.size w W → PV W (some ⟨w.heap.size, 0, none⟩) liveP → ∃ d : Cx, Calls Tryd.prog 12 #[.slice (some ⟨w.heap.size, 0, none⟩) 3 3, .agg (cxA (freshC 0 0)), .int .i64 9] W fun e w' => e = .returned (.tuple #[.agg (cxA d), .agg #[.int .i64 11, .int .i64 0, .int .i64 0, .int .i64 0], .int .i64 5]) ∧ Below W.heap.size W w' := fun W hb hp => by
    have h := run_any (ps := liveP) 3 (freshC 0 0) 9 (by decide) hp (hT.on hb)
    have e := live_run
    refine ⟨(runC (codeL liveP) 9 (freshC 0 0)).1, h.mono fun e' w' ⟨h1, h2⟩ => ⟨h1.trans ?_, h2⟩⟩
    rw [show (9 : Int).toNat = 9 from rfl, show (runC (codeL liveP) 9 (freshC 0 0)).2.1 = (11, 0, 0, 0) by rw [e], show (runC (codeL liveP) 9 (freshC 0 0)).2.2 = 5 by rw [e]]
    rfl
  go_enter Tryd.func9, Tryd.ntmps9
  go_upto_region 2 with fail
  generalize w.alloc (.cells #[.int .i64 1, .int .i64 0, .int .i64 3, .int .i64 0, .int .i64 8, .int .i64 0, .int .i64 1, .int .i64 0, .int .i64 11, .int .i64 0, .int .i64 0, .int .i64 0] 51) = W at *
  go_wp2_with (first | (go_at_call 16; (refine (HF W).mono ?_); rintro e W1 ⟨rfl, hb1⟩; obtain ⟨d, HR1⟩ := HR W1 (hb.trans (hb1.mono hb.size)) (hp.below hb1)) | (go_at_call 12; (refine HR1.mono ?_); rintro e W2 ⟨rfl, hb2⟩; unfold cxA))
  go_ret
  refine ⟨rfl, ?_⟩
  have hb3 := hb.trans (hb1.mono hb.size)
  have hb4 := hb3.trans (hb2.mono hb3.size)
  exact (hb4.alloc hb4.size _).alloc (by have := hb4.size; simp; omega) _

end Go.Proofs.YtllnpkijojpccaaDoor
