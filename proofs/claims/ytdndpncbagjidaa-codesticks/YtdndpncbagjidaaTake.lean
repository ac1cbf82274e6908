/- What goes up is kept at the face: the deferred functions. -/
import Derived.Test.YtdndpncbagjidaaTo
import Derived.Defers
import Derived.Recover
namespace Go.Proofs.Ytdndpncbagjidaa
open Go.RowKit

theorem rep13 : Array.replicate 13 undef = #[undef, undef, undef, undef, undef, undef, undef, undef, undef, undef, undef, undef, undef] := rfl
theorem assert77 (x : Int) (w : World) : (Instr.typeAssert (.iface 77 (.int .i64 x)) 20 77 true).run Try.prog w = .ok (.tuple #[.int .i64 x, .bool true]) w := by kernel_rfl

set_option maxHeartbeats 400000 in
theorem idle65 (p : Addr) (w : World) :
    CallsD Try.prog 65 #[.pointer (some p)] .returning w fun e u' w' => e = .returned (.tuple #[]) ∧ u' = .returning ∧ w' = w := by
  refine callsD_of_wpS Try.func65 rfl fun c₀ cs hu => ?_
  apply wpS_seq
  apply wpS_region
  simp [wpOpsS, go_sem, recoverD, hu, Try.ntmps65, Exit.thenS, rep13]
  refine wpS_of_wp ?_
  go_wp2
  cases c₀
  simp_all [bodyPostS, results, Try.results65]

set_option maxHeartbeats 400000 in
theorem take65 (p : Addr) (B x : Nat) (u : Value) (w : World) (hp : w.cell? p = some (.pointer (some ⟨B, 0, none⟩))) (hc : w.cell? ⟨B, 2, none⟩ = some u) (hz : w.frozen? ⟨B, 2, none⟩ = false) :
    CallsD Try.prog 65 #[.pointer (some p)] (.panicking [flt x]) w fun e u' w' => e = .returned (.tuple #[]) ∧ u' = .panicking [{ v := .iface 77 (.int .i64 (x : Int)), recovered := true }] ∧ w' = w.setCell ⟨B, 2, none⟩ (.int .i64 (x : Int)) := by
  refine callsD_of_wpS Try.func65 rfl fun c₀ cs hu => ?_
  unfold flt at hu
  have hta := assert77
  apply wpS_seq
  apply wpS_region
  simp [wpOpsS, go_sem, recoverD, hu, Try.ntmps65, Exit.thenS, rep13]
  refine wpS_of_wp ?_
  go_wp2
  simp [bodyPostS, results, Try.results65]

set_option maxHeartbeats 400000 in
theorem idle67 (p : Addr) (w : World) :
    CallsD Try.prog 67 #[.pointer (some p)] .returning w fun e u' w' => e = .returned (.tuple #[]) ∧ u' = .returning ∧ w' = w := by
  refine callsD_of_wpS Try.func67 rfl fun c₀ cs hu => ?_
  apply wpS_seq
  apply wpS_region
  simp [wpOpsS, go_sem, recoverD, hu, Try.ntmps67, Exit.thenS, rep13]
  refine wpS_of_wp ?_
  go_wp2
  cases c₀
  simp_all [bodyPostS, results, Try.results67]

set_option maxHeartbeats 400000 in
theorem take67 (p : Addr) (B x : Nat) (u : Value) (w : World) (hp : w.cell? p = some (.pointer (some ⟨B, 0, none⟩))) (hc : w.cell? ⟨B, 2, none⟩ = some u) (hz : w.frozen? ⟨B, 2, none⟩ = false) :
    CallsD Try.prog 67 #[.pointer (some p)] (.panicking [flt x]) w fun e u' w' => e = .returned (.tuple #[]) ∧ u' = .panicking [{ v := .iface 77 (.int .i64 (x : Int)), recovered := true }] ∧ w' = w.setCell ⟨B, 2, none⟩ (.int .i64 (x : Int)) := by
  refine callsD_of_wpS Try.func67 rfl fun c₀ cs hu => ?_
  unfold flt at hu
  have hta := assert77
  apply wpS_seq
  apply wpS_region
  simp [wpOpsS, go_sem, recoverD, hu, Try.ntmps67, Exit.thenS, rep13]
  refine wpS_of_wp ?_
  go_wp2
  simp [bodyPostS, results, Try.results67]

set_option maxHeartbeats 400000 in
theorem idle68 (p : Addr) (w : World) :
    CallsD Try.prog 68 #[.pointer (some p)] .returning w fun e u' w' => e = .returned (.tuple #[]) ∧ u' = .returning ∧ w' = w := by
  refine callsD_of_wpS Try.func68 rfl fun c₀ cs hu => ?_
  apply wpS_seq
  apply wpS_region
  simp [wpOpsS, go_sem, recoverD, hu, Try.ntmps68, Exit.thenS, rep13]
  refine wpS_of_wp ?_
  go_wp2
  cases c₀
  simp_all [bodyPostS, results, Try.results68]

set_option maxHeartbeats 400000 in
theorem take68 (p : Addr) (B x : Nat) (u : Value) (w : World) (hp : w.cell? p = some (.pointer (some ⟨B, 0, none⟩))) (hc : w.cell? ⟨B, 2, none⟩ = some u) (hz : w.frozen? ⟨B, 2, none⟩ = false) :
    CallsD Try.prog 68 #[.pointer (some p)] (.panicking [flt x]) w fun e u' w' => e = .returned (.tuple #[]) ∧ u' = .panicking [{ v := .iface 77 (.int .i64 (x : Int)), recovered := true }] ∧ w' = w.setCell ⟨B, 2, none⟩ (.int .i64 (x : Int)) := by
  refine callsD_of_wpS Try.func68 rfl fun c₀ cs hu => ?_
  unfold flt at hu
  have hta := assert77
  apply wpS_seq
  apply wpS_region
  simp [wpOpsS, go_sem, recoverD, hu, Try.ntmps68, Exit.thenS, rep13]
  refine wpS_of_wp ?_
  go_wp2
  simp [bodyPostS, results, Try.results68]

set_option maxHeartbeats 400000 in
theorem idle69 (p : Addr) (w : World) :
    CallsD Try.prog 69 #[.pointer (some p)] .returning w fun e u' w' => e = .returned (.tuple #[]) ∧ u' = .returning ∧ w' = w := by
  refine callsD_of_wpS Try.func69 rfl fun c₀ cs hu => ?_
  apply wpS_seq
  apply wpS_region
  simp [wpOpsS, go_sem, recoverD, hu, Try.ntmps69, Exit.thenS, rep13]
  refine wpS_of_wp ?_
  go_wp2
  cases c₀
  simp_all [bodyPostS, results, Try.results69]

set_option maxHeartbeats 400000 in
theorem take69 (p : Addr) (B x : Nat) (u : Value) (w : World) (hp : w.cell? p = some (.pointer (some ⟨B, 0, none⟩))) (hc : w.cell? ⟨B, 2, none⟩ = some u) (hz : w.frozen? ⟨B, 2, none⟩ = false) :
    CallsD Try.prog 69 #[.pointer (some p)] (.panicking [flt x]) w fun e u' w' => e = .returned (.tuple #[]) ∧ u' = .panicking [{ v := .iface 77 (.int .i64 (x : Int)), recovered := true }] ∧ w' = w.setCell ⟨B, 2, none⟩ (.int .i64 (x : Int)) := by
  refine callsD_of_wpS Try.func69 rfl fun c₀ cs hu => ?_
  unfold flt at hu
  have hta := assert77
  apply wpS_seq
  apply wpS_region
  simp [wpOpsS, go_sem, recoverD, hu, Try.ntmps69, Exit.thenS, rep13]
  refine wpS_of_wp ?_
  go_wp2
  simp [bodyPostS, results, Try.results69]

set_option maxHeartbeats 400000 in
theorem idle70 (p : Addr) (w : World) :
    CallsD Try.prog 70 #[.pointer (some p)] .returning w fun e u' w' => e = .returned (.tuple #[]) ∧ u' = .returning ∧ w' = w := by
  refine callsD_of_wpS Try.func70 rfl fun c₀ cs hu => ?_
  apply wpS_seq
  apply wpS_region
  simp [wpOpsS, go_sem, recoverD, hu, Try.ntmps70, Exit.thenS, rep13]
  refine wpS_of_wp ?_
  go_wp2
  cases c₀
  simp_all [bodyPostS, results, Try.results70]

set_option maxHeartbeats 400000 in
theorem take70 (p : Addr) (B x : Nat) (u : Value) (w : World) (hp : w.cell? p = some (.pointer (some ⟨B, 0, none⟩))) (hc : w.cell? ⟨B, 2, none⟩ = some u) (hz : w.frozen? ⟨B, 2, none⟩ = false) :
    CallsD Try.prog 70 #[.pointer (some p)] (.panicking [flt x]) w fun e u' w' => e = .returned (.tuple #[]) ∧ u' = .panicking [{ v := .iface 77 (.int .i64 (x : Int)), recovered := true }] ∧ w' = w.setCell ⟨B, 2, none⟩ (.int .i64 (x : Int)) := by
  refine callsD_of_wpS Try.func70 rfl fun c₀ cs hu => ?_
  unfold flt at hu
  have hta := assert77
  apply wpS_seq
  apply wpS_region
  simp [wpOpsS, go_sem, recoverD, hu, Try.ntmps70, Exit.thenS, rep13]
  refine wpS_of_wp ?_
  go_wp2
  simp [bodyPostS, results, Try.results70]

set_option maxHeartbeats 400000 in
theorem idle71 (p : Addr) (w : World) :
    CallsD Try.prog 71 #[.pointer (some p)] .returning w fun e u' w' => e = .returned (.tuple #[]) ∧ u' = .returning ∧ w' = w := by
  refine callsD_of_wpS Try.func71 rfl fun c₀ cs hu => ?_
  apply wpS_seq
  apply wpS_region
  simp [wpOpsS, go_sem, recoverD, hu, Try.ntmps71, Exit.thenS, rep13]
  refine wpS_of_wp ?_
  go_wp2
  cases c₀
  simp_all [bodyPostS, results, Try.results71]

set_option maxHeartbeats 400000 in
theorem take71 (p : Addr) (B x : Nat) (u : Value) (w : World) (hp : w.cell? p = some (.pointer (some ⟨B, 0, none⟩))) (hc : w.cell? ⟨B, 2, none⟩ = some u) (hz : w.frozen? ⟨B, 2, none⟩ = false) :
    CallsD Try.prog 71 #[.pointer (some p)] (.panicking [flt x]) w fun e u' w' => e = .returned (.tuple #[]) ∧ u' = .panicking [{ v := .iface 77 (.int .i64 (x : Int)), recovered := true }] ∧ w' = w.setCell ⟨B, 2, none⟩ (.int .i64 (x : Int)) := by
  refine callsD_of_wpS Try.func71 rfl fun c₀ cs hu => ?_
  unfold flt at hu
  have hta := assert77
  apply wpS_seq
  apply wpS_region
  simp [wpOpsS, go_sem, recoverD, hu, Try.ntmps71, Exit.thenS, rep13]
  refine wpS_of_wp ?_
  go_wp2
  simp [bodyPostS, results, Try.results71]

end Go.Proofs.Ytdndpncbagjidaa
