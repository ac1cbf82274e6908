/- What goes up is kept at the face: the deferred functions. -/
import Derived.Test.YteiidkojofaamaaDoorCTo
import Derived.Defers
import Derived.Recover
namespace Go.Proofs.YteiidkojofaamaaDoor
open Go.RowKit

theorem rep13 : Array.replicate 13 undef = #[undef, undef, undef, undef, undef, undef, undef, undef, undef, undef, undef, undef, undef] := rfl
theorem assert77 (x : Int) (w : World) : (Instr.typeAssert (.iface 98 (.int .i64 x)) 20 98 true).run Tryd.prog w = .ok (.tuple #[.int .i64 x, .bool true]) w := by kernel_rfl

set_option maxHeartbeats 400000 in
theorem idle65 (p : Addr) (w : World) :
    CallsD Tryd.prog 84 #[.pointer (some p)] .returning w fun e u' w' => e = .returned (.tuple #[]) ∧ u' = .returning ∧ w' = w := by
  refine callsD_of_wpS Tryd.func84 rfl fun c₀ cs hu => ?_
  apply wpS_seq
  apply wpS_region
  simp [wpOpsS, go_sem, recoverD, hu, Tryd.ntmps84, Exit.thenS, rep13]
  refine wpS_of_wp ?_
  go_wp2
  cases c₀
  simp_all [bodyPostS, results, Tryd.results84]

set_option maxHeartbeats 400000 in
theorem take65 (p : Addr) (B x : Nat) (u : Value) (w : World) (hp : w.cell? p = some (.pointer (some ⟨B, 0, none⟩))) (hc : w.cell? ⟨B, 2, none⟩ = some u) (hz : w.frozen? ⟨B, 2, none⟩ = false) :
    CallsD Tryd.prog 84 #[.pointer (some p)] (.panicking [flt x]) w fun e u' w' => e = .returned (.tuple #[]) ∧ u' = .panicking [{ v := .iface 98 (.int .i64 (x : Int)), recovered := true }] ∧ w' = w.setCell ⟨B, 2, none⟩ (.int .i64 (x : Int)) := by
  refine callsD_of_wpS Tryd.func84 rfl fun c₀ cs hu => ?_
  unfold flt at hu
  have hta := assert77
  apply wpS_seq
  apply wpS_region
  simp [wpOpsS, go_sem, recoverD, hu, Tryd.ntmps84, Exit.thenS, rep13]
  refine wpS_of_wp ?_
  go_wp2
  simp [bodyPostS, results, Tryd.results84]

set_option maxHeartbeats 400000 in
theorem idle67 (p : Addr) (w : World) :
    CallsD Tryd.prog 92 #[.pointer (some p)] .returning w fun e u' w' => e = .returned (.tuple #[]) ∧ u' = .returning ∧ w' = w := by
  refine callsD_of_wpS Tryd.func92 rfl fun c₀ cs hu => ?_
  apply wpS_seq
  apply wpS_region
  simp [wpOpsS, go_sem, recoverD, hu, Tryd.ntmps92, Exit.thenS, rep13]
  refine wpS_of_wp ?_
  go_wp2
  cases c₀
  simp_all [bodyPostS, results, Tryd.results92]

set_option maxHeartbeats 400000 in
theorem take67 (p : Addr) (B x : Nat) (u : Value) (w : World) (hp : w.cell? p = some (.pointer (some ⟨B, 0, none⟩))) (hc : w.cell? ⟨B, 2, none⟩ = some u) (hz : w.frozen? ⟨B, 2, none⟩ = false) :
    CallsD Tryd.prog 92 #[.pointer (some p)] (.panicking [flt x]) w fun e u' w' => e = .returned (.tuple #[]) ∧ u' = .panicking [{ v := .iface 98 (.int .i64 (x : Int)), recovered := true }] ∧ w' = w.setCell ⟨B, 2, none⟩ (.int .i64 (x : Int)) := by
  refine callsD_of_wpS Tryd.func92 rfl fun c₀ cs hu => ?_
  unfold flt at hu
  have hta := assert77
  apply wpS_seq
  apply wpS_region
  simp [wpOpsS, go_sem, recoverD, hu, Tryd.ntmps92, Exit.thenS, rep13]
  refine wpS_of_wp ?_
  go_wp2
  simp [bodyPostS, results, Tryd.results92]

set_option maxHeartbeats 400000 in
theorem idle71 (p : Addr) (w : World) :
    CallsD Tryd.prog 90 #[.pointer (some p)] .returning w fun e u' w' => e = .returned (.tuple #[]) ∧ u' = .returning ∧ w' = w := by
  refine callsD_of_wpS Tryd.func90 rfl fun c₀ cs hu => ?_
  apply wpS_seq
  apply wpS_region
  simp [wpOpsS, go_sem, recoverD, hu, Tryd.ntmps90, Exit.thenS, rep13]
  refine wpS_of_wp ?_
  go_wp2
  cases c₀
  simp_all [bodyPostS, results, Tryd.results90]

set_option maxHeartbeats 400000 in
theorem take71 (p : Addr) (B x : Nat) (u : Value) (w : World) (hp : w.cell? p = some (.pointer (some ⟨B, 0, none⟩))) (hc : w.cell? ⟨B, 2, none⟩ = some u) (hz : w.frozen? ⟨B, 2, none⟩ = false) :
    CallsD Tryd.prog 90 #[.pointer (some p)] (.panicking [flt x]) w fun e u' w' => e = .returned (.tuple #[]) ∧ u' = .panicking [{ v := .iface 98 (.int .i64 (x : Int)), recovered := true }] ∧ w' = w.setCell ⟨B, 2, none⟩ (.int .i64 (x : Int)) := by
  refine callsD_of_wpS Tryd.func90 rfl fun c₀ cs hu => ?_
  unfold flt at hu
  have hta := assert77
  apply wpS_seq
  apply wpS_region
  simp [wpOpsS, go_sem, recoverD, hu, Tryd.ntmps90, Exit.thenS, rep13]
  refine wpS_of_wp ?_
  go_wp2
  simp [bodyPostS, results, Tryd.results90]

end Go.Proofs.YteiidkojofaamaaDoor
