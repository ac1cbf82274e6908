/- What goes up is kept at the face: the deferred functions. -/
import Derived.Test.YtbcdjpafdmgbmaaDoorCTo
import Derived.Defers
import Derived.Recover
namespace Go.Proofs.YtbcdjpafdmgbmaaDoor
open Go.RowKit

theorem rep13 : Array.replicate 13 undef = #[undef, undef, undef, undef, undef, undef, undef, undef, undef, undef, undef, undef, undef] := rfl
theorem assert77 (x : Int) (w : World) : (Instr.typeAssert (.iface 121 (.int .i64 x)) 20 121 true).run Tryd.prog w = .ok (.tuple #[.int .i64 x, .bool true]) w := by kernel_rfl

set_option maxHeartbeats 400000 in
theorem idle65 (p : Addr) (w : World) :
    CallsD Tryd.prog 85 #[.pointer (some p)] .returning w fun e u' w' => e = .returned (.tuple #[]) ∧ u' = .returning ∧ w' = w := by
  refine callsD_of_wpS Tryd.func85 rfl fun c₀ cs hu => ?_
  apply wpS_seq
  apply wpS_region
  simp [wpOpsS, go_sem, recoverD, hu, Tryd.ntmps85, Exit.thenS, rep13]
  refine wpS_of_wp ?_
  go_wp2
  cases c₀
  simp_all [bodyPostS, results, Tryd.results85]

set_option maxHeartbeats 400000 in
theorem take65 (p : Addr) (B x : Nat) (u : Value) (w : World) (hp : w.cell? p = some (.pointer (some ⟨B, 0, none⟩))) (hc : w.cell? ⟨B, 2, none⟩ = some u) (hz : w.frozen? ⟨B, 2, none⟩ = false) :
    CallsD Tryd.prog 85 #[.pointer (some p)] (.panicking [flt x]) w fun e u' w' => e = .returned (.tuple #[]) ∧ u' = .panicking [{ v := .iface 121 (.int .i64 (x : Int)), recovered := true }] ∧ w' = w.setCell ⟨B, 2, none⟩ (.int .i64 (x : Int)) := by
  refine callsD_of_wpS Tryd.func85 rfl fun c₀ cs hu => ?_
  unfold flt at hu
  have hta := assert77
  apply wpS_seq
  apply wpS_region
  simp [wpOpsS, go_sem, recoverD, hu, Tryd.ntmps85, Exit.thenS, rep13]
  refine wpS_of_wp ?_
  go_wp2
  simp [bodyPostS, results, Tryd.results85]

set_option maxHeartbeats 400000 in
theorem idle67 (p : Addr) (w : World) :
    CallsD Tryd.prog 103 #[.pointer (some p)] .returning w fun e u' w' => e = .returned (.tuple #[]) ∧ u' = .returning ∧ w' = w := by
  refine callsD_of_wpS Tryd.func103 rfl fun c₀ cs hu => ?_
  apply wpS_seq
  apply wpS_region
  simp [wpOpsS, go_sem, recoverD, hu, Tryd.ntmps103, Exit.thenS, rep13]
  refine wpS_of_wp ?_
  go_wp2
  cases c₀
  simp_all [bodyPostS, results, Tryd.results103]

set_option maxHeartbeats 400000 in
theorem take67 (p : Addr) (B x : Nat) (u : Value) (w : World) (hp : w.cell? p = some (.pointer (some ⟨B, 0, none⟩))) (hc : w.cell? ⟨B, 2, none⟩ = some u) (hz : w.frozen? ⟨B, 2, none⟩ = false) :
    CallsD Tryd.prog 103 #[.pointer (some p)] (.panicking [flt x]) w fun e u' w' => e = .returned (.tuple #[]) ∧ u' = .panicking [{ v := .iface 121 (.int .i64 (x : Int)), recovered := true }] ∧ w' = w.setCell ⟨B, 2, none⟩ (.int .i64 (x : Int)) := by
  refine callsD_of_wpS Tryd.func103 rfl fun c₀ cs hu => ?_
  unfold flt at hu
  have hta := assert77
  apply wpS_seq
  apply wpS_region
  simp [wpOpsS, go_sem, recoverD, hu, Tryd.ntmps103, Exit.thenS, rep13]
  refine wpS_of_wp ?_
  go_wp2
  simp [bodyPostS, results, Tryd.results103]

set_option maxHeartbeats 400000 in
theorem idle71 (p : Addr) (w : World) :
    CallsD Tryd.prog 101 #[.pointer (some p)] .returning w fun e u' w' => e = .returned (.tuple #[]) ∧ u' = .returning ∧ w' = w := by
  refine callsD_of_wpS Tryd.func101 rfl fun c₀ cs hu => ?_
  apply wpS_seq
  apply wpS_region
  simp [wpOpsS, go_sem, recoverD, hu, Tryd.ntmps101, Exit.thenS, rep13]
  refine wpS_of_wp ?_
  go_wp2
  cases c₀
  simp_all [bodyPostS, results, Tryd.results101]

set_option maxHeartbeats 400000 in
theorem take71 (p : Addr) (B x : Nat) (u : Value) (w : World) (hp : w.cell? p = some (.pointer (some ⟨B, 0, none⟩))) (hc : w.cell? ⟨B, 2, none⟩ = some u) (hz : w.frozen? ⟨B, 2, none⟩ = false) :
    CallsD Tryd.prog 101 #[.pointer (some p)] (.panicking [flt x]) w fun e u' w' => e = .returned (.tuple #[]) ∧ u' = .panicking [{ v := .iface 121 (.int .i64 (x : Int)), recovered := true }] ∧ w' = w.setCell ⟨B, 2, none⟩ (.int .i64 (x : Int)) := by
  refine callsD_of_wpS Tryd.func101 rfl fun c₀ cs hu => ?_
  unfold flt at hu
  have hta := assert77
  apply wpS_seq
  apply wpS_region
  simp [wpOpsS, go_sem, recoverD, hu, Tryd.ntmps101, Exit.thenS, rep13]
  refine wpS_of_wp ?_
  go_wp2
  simp [bodyPostS, results, Tryd.results101]

end Go.Proofs.YtbcdjpafdmgbmaaDoor
