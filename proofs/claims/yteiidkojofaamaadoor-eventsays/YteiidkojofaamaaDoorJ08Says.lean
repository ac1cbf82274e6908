/- Names of kinds: the program's and the reference's. -/
/- The tables in memory, and the library's Itoa. -/
import Derived.Test.YteiidkojofaamaaDoorJ07Says
import Derived.Test.YteiidkojofaamaaDoorJ01Says
import Derived.Lib.LaidTab
namespace Go.Proofs.YteiidkojofaamaaDoor
open Go Go.RowKit

set_option maxRecDepth 100000 in
set_option maxHeartbeats 1000000 in
theorem name_any (k : Int) (w : World) (hT : Tab w) : Calls Tryd.prog 41 #[.int .i64 k] w fun r w' => r = .returned (.string ⟨(nameL k).toArray⟩) ∧ w' = w := by
  have HK := iskind_any k
  unfold nameL
  cases hk : kindB k with
  | false =>
    rw [hk] at HK
    clear hk
    go_enter Tryd.func41, Tryd.ntmps41
    go_wp2_with (go_at_call 28; (with_reducible refine (HK _).mono ?_); rintro e w' ⟨rfl, rfl⟩)
    go_ret
    exact ⟨rfl, rfl⟩
  | true =>
    rw [hk] at HK
    obtain ⟨n, rfl, h1, h7⟩ := kind_nat hk
    have t0 : w.cell? ⟨0, n * 8, none⟩ = some (.string ⟨(nmK n).toArray⟩) := hT.row n (by omega) 0 _ rfl
    simp only [if_true, Int.toNat_natCast]
    generalize nmK n = nm at *
    have hlt : (n : Int) < 8 := by omega
    have hge : (0 : Int) ≤ (n : Int) := by omega
    clear hk
    go_enter Tryd.func41, Tryd.ntmps41
    go_wp2_with (go_at_call 28; (with_reducible refine (HK _).mono ?_); rintro e w' ⟨rfl, rfl⟩)
    go_ret
    exact ⟨rfl, rfl⟩
set_option maxRecDepth 100000 in
set_option maxHeartbeats 1000000 in
theorem rname_any (k : Int) (w : World) : Calls Tryd.prog 43 #[.int .i64 k] w fun r w' => r = .returned (.string ⟨(nameL k).toArray⟩) ∧ w' = w := by
  by_cases h0 : k < 0
  · have hk : nameL k = [] := by
      unfold nameL kindB
      rw [decide_eq_false (by omega)]
      rfl
    rw [hk]
    clear hk
    go_enter Tryd.func43, Tryd.ntmps43
    go_wp2_with fail
    go_ret
    exact ⟨rfl, rfl⟩
  · by_cases h7 : 7 < k
    · have hk : nameL k = [] := by
        unfold nameL kindB
        rw [decide_eq_false (p := k ≤ 7) (by omega), Bool.and_false]
        rfl
      rw [hk]
      clear hk
      go_enter Tryd.func43, Tryd.ntmps43
      go_wp2_with fail
      go_ret
      exact ⟨rfl, rfl⟩
    · rcases (show k = 0 ∨ k = 1 ∨ k = 2 ∨ k = 3 ∨ k = 4 ∨ k = 5 ∨ k = 6 ∨ k = 7 by omega) with rfl | rfl | rfl | rfl | rfl | rfl | rfl | rfl
      · clear h0 h7
        have HI : ∀ W : World, (Instr.index 86 (.agg #[.string ⟨#[]⟩, .string ⟨#[103, 114, 97, 110, 116]⟩, .string ⟨#[112, 114, 101, 101, 109, 112, 116, 101, 100]⟩, .string ⟨#[98, 108, 111, 99, 107, 101, 100]⟩, .string ⟨#[117, 110, 98, 108, 111, 99, 107, 101, 100]⟩, .string ⟨#[100, 101, 109, 97, 110, 100]⟩, .string ⟨#[105, 100, 108, 101]⟩, .string ⟨#[114, 101, 99, 121, 99, 108, 101]⟩]) (.int .i64 0)).run Tryd.prog W = .ok (.string ⟨#[]⟩) W := fun W => by kernel_rfl
        go_enter Tryd.func43, Tryd.ntmps43
        go_wp2_with fail
        go_ret
        exact ⟨rfl, rfl⟩
      · clear h0 h7
        have HI : ∀ W : World, (Instr.index 86 (.agg #[.string ⟨#[]⟩, .string ⟨#[103, 114, 97, 110, 116]⟩, .string ⟨#[112, 114, 101, 101, 109, 112, 116, 101, 100]⟩, .string ⟨#[98, 108, 111, 99, 107, 101, 100]⟩, .string ⟨#[117, 110, 98, 108, 111, 99, 107, 101, 100]⟩, .string ⟨#[100, 101, 109, 97, 110, 100]⟩, .string ⟨#[105, 100, 108, 101]⟩, .string ⟨#[114, 101, 99, 121, 99, 108, 101]⟩]) (.int .i64 1)).run Tryd.prog W = .ok (.string ⟨#[103, 114, 97, 110, 116]⟩) W := fun W => by kernel_rfl
        go_enter Tryd.func43, Tryd.ntmps43
        go_wp2_with fail
        go_ret
        exact ⟨rfl, rfl⟩
      · clear h0 h7
        have HI : ∀ W : World, (Instr.index 86 (.agg #[.string ⟨#[]⟩, .string ⟨#[103, 114, 97, 110, 116]⟩, .string ⟨#[112, 114, 101, 101, 109, 112, 116, 101, 100]⟩, .string ⟨#[98, 108, 111, 99, 107, 101, 100]⟩, .string ⟨#[117, 110, 98, 108, 111, 99, 107, 101, 100]⟩, .string ⟨#[100, 101, 109, 97, 110, 100]⟩, .string ⟨#[105, 100, 108, 101]⟩, .string ⟨#[114, 101, 99, 121, 99, 108, 101]⟩]) (.int .i64 2)).run Tryd.prog W = .ok (.string ⟨#[112, 114, 101, 101, 109, 112, 116, 101, 100]⟩) W := fun W => by kernel_rfl
        go_enter Tryd.func43, Tryd.ntmps43
        go_wp2_with fail
        go_ret
        exact ⟨rfl, rfl⟩
      · clear h0 h7
        have HI : ∀ W : World, (Instr.index 86 (.agg #[.string ⟨#[]⟩, .string ⟨#[103, 114, 97, 110, 116]⟩, .string ⟨#[112, 114, 101, 101, 109, 112, 116, 101, 100]⟩, .string ⟨#[98, 108, 111, 99, 107, 101, 100]⟩, .string ⟨#[117, 110, 98, 108, 111, 99, 107, 101, 100]⟩, .string ⟨#[100, 101, 109, 97, 110, 100]⟩, .string ⟨#[105, 100, 108, 101]⟩, .string ⟨#[114, 101, 99, 121, 99, 108, 101]⟩]) (.int .i64 3)).run Tryd.prog W = .ok (.string ⟨#[98, 108, 111, 99, 107, 101, 100]⟩) W := fun W => by kernel_rfl
        go_enter Tryd.func43, Tryd.ntmps43
        go_wp2_with fail
        go_ret
        exact ⟨rfl, rfl⟩
      · clear h0 h7
        have HI : ∀ W : World, (Instr.index 86 (.agg #[.string ⟨#[]⟩, .string ⟨#[103, 114, 97, 110, 116]⟩, .string ⟨#[112, 114, 101, 101, 109, 112, 116, 101, 100]⟩, .string ⟨#[98, 108, 111, 99, 107, 101, 100]⟩, .string ⟨#[117, 110, 98, 108, 111, 99, 107, 101, 100]⟩, .string ⟨#[100, 101, 109, 97, 110, 100]⟩, .string ⟨#[105, 100, 108, 101]⟩, .string ⟨#[114, 101, 99, 121, 99, 108, 101]⟩]) (.int .i64 4)).run Tryd.prog W = .ok (.string ⟨#[117, 110, 98, 108, 111, 99, 107, 101, 100]⟩) W := fun W => by kernel_rfl
        go_enter Tryd.func43, Tryd.ntmps43
        go_wp2_with fail
        go_ret
        exact ⟨rfl, rfl⟩
      · clear h0 h7
        have HI : ∀ W : World, (Instr.index 86 (.agg #[.string ⟨#[]⟩, .string ⟨#[103, 114, 97, 110, 116]⟩, .string ⟨#[112, 114, 101, 101, 109, 112, 116, 101, 100]⟩, .string ⟨#[98, 108, 111, 99, 107, 101, 100]⟩, .string ⟨#[117, 110, 98, 108, 111, 99, 107, 101, 100]⟩, .string ⟨#[100, 101, 109, 97, 110, 100]⟩, .string ⟨#[105, 100, 108, 101]⟩, .string ⟨#[114, 101, 99, 121, 99, 108, 101]⟩]) (.int .i64 5)).run Tryd.prog W = .ok (.string ⟨#[100, 101, 109, 97, 110, 100]⟩) W := fun W => by kernel_rfl
        go_enter Tryd.func43, Tryd.ntmps43
        go_wp2_with fail
        go_ret
        exact ⟨rfl, rfl⟩
      · clear h0 h7
        have HI : ∀ W : World, (Instr.index 86 (.agg #[.string ⟨#[]⟩, .string ⟨#[103, 114, 97, 110, 116]⟩, .string ⟨#[112, 114, 101, 101, 109, 112, 116, 101, 100]⟩, .string ⟨#[98, 108, 111, 99, 107, 101, 100]⟩, .string ⟨#[117, 110, 98, 108, 111, 99, 107, 101, 100]⟩, .string ⟨#[100, 101, 109, 97, 110, 100]⟩, .string ⟨#[105, 100, 108, 101]⟩, .string ⟨#[114, 101, 99, 121, 99, 108, 101]⟩]) (.int .i64 6)).run Tryd.prog W = .ok (.string ⟨#[105, 100, 108, 101]⟩) W := fun W => by kernel_rfl
        go_enter Tryd.func43, Tryd.ntmps43
        go_wp2_with fail
        go_ret
        exact ⟨rfl, rfl⟩
      · clear h0 h7
        have HI : ∀ W : World, (Instr.index 86 (.agg #[.string ⟨#[]⟩, .string ⟨#[103, 114, 97, 110, 116]⟩, .string ⟨#[112, 114, 101, 101, 109, 112, 116, 101, 100]⟩, .string ⟨#[98, 108, 111, 99, 107, 101, 100]⟩, .string ⟨#[117, 110, 98, 108, 111, 99, 107, 101, 100]⟩, .string ⟨#[100, 101, 109, 97, 110, 100]⟩, .string ⟨#[105, 100, 108, 101]⟩, .string ⟨#[114, 101, 99, 121, 99, 108, 101]⟩]) (.int .i64 7)).run Tryd.prog W = .ok (.string ⟨#[114, 101, 99, 121, 99, 108, 101]⟩) W := fun W => by kernel_rfl
        go_enter Tryd.func43, Tryd.ntmps43
        go_wp2_with fail
        go_ret
        exact ⟨rfl, rfl⟩
end Go.Proofs.YteiidkojofaamaaDoor
namespace Go.Proofs.YteiidkojofaamaaDoor
open Go Go.RowKit Go.Shelf

/-- The library's powers of ten lie in memory. -/
def Pw (w : World) : Prop := Lib.TabIs Tryd.prog w "internal/strconv.uint64pow10" .u64 Lib.pow10Tab
theorem pw_global : Tryd.prog.globalNamed "internal/strconv.uint64pow10" = some 1 := by kernel_rfl
theorem Pw.put {w w' : World} (h : Pw w) (e : w'.heap[1]? = w.heap[1]?) : Pw w' := by
  unfold Pw Lib.TabIs World.var? at h ⊢
  rw [pw_global] at h ⊢
  simp only [Option.bind_some] at h ⊢
  rw [e]
  exact h
theorem Pw.lt {w : World} (h : Pw w) : 1 < w.heap.size := by
  unfold Pw Lib.TabIs World.var? at h
  rw [pw_global] at h
  apply Nat.lt_of_not_le
  intro hle
  simp [Array.getElem?_eq_none hle] at h
theorem Pw.on {w w' : World} (h : Pw w) (hb : Below w.heap.size w w') : Pw w' := h.put (hb.block 1 h.lt)
theorem itoa_any {w : World} (v : Int) (h : -9223372036854775808 ≤ v ∧ v ≤ 9223372036854775807) (hP : Pw w) :
    Calls Tryd.prog 42 #[.int .i64 v] w fun e w' => e = .returned (.string ⟨(Lib.itoa v).toArray⟩) ∧ Below w.heap.size w w' := by
  refine (Tryd.strconv_Itoa v h.1 h.2 w hP).mono ?_
  rintro e w' ⟨rfl, k, os, rfl⟩
  refine ⟨rfl, rfl, rfl, rfl, ?_, fun i hi => ?_⟩
  · show w.heap.size ≤ (w.heap ++ os).size
    simp
  · show (w.heap ++ os)[i]? = w.heap[i]?
    rw [Array.getElem?_append_left hi]
end Go.Proofs.YteiidkojofaamaaDoor
