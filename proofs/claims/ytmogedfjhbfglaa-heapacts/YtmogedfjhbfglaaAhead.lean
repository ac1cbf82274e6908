/- Contracts of ahead, has, ask, under. -/
import Derived.Test.YtmogedfjhbfglaaFns
namespace Go.Proofs.Ytmogedfjhbfglaa
open Go.RowKit

theorem cells60 : Try.prog.cellsOf 60 = 2 := by kernel_rfl

section
variable {w : World} {B G k N : Nat} {v : Value} {xs : List Th} {pl : List Int}

/-- The cells that are read. -/
theorem cells_on {W W' : World} (hb : Below W.heap.size W W') {a0 a1 a2 a3 a4 : Addr} {v0 v1 v2 v3 v4 : Value} (h : W.cell? a0 = some v0 ∧ W.cell? a1 = some v1 ∧ W.cell? a2 = some v2 ∧ W.cell? a3 = some v3 ∧ W.cell? a4 = some v4) : W'.cell? a0 = some v0 ∧ W'.cell? a1 = some v1 ∧ W'.cell? a2 = some v2 ∧ W'.cell? a3 = some v3 ∧ W'.cell? a4 = some v4 :=
  ⟨cell_on hb h.1, cell_on hb h.2.1, cell_on hb h.2.2.1, cell_on hb h.2.2.2.1, cell_on hb h.2.2.2.2⟩

set_option maxHeartbeats 1000000 in
theorem ahead_any (h : HM w B G k N v xs pl) {i j : Nat} {a b : Th} (ha : xs[i]? = some a) (hb : xs[j]? = some b) :
    Calls Try.prog 32 #[.pointer (some ⟨B, 0, none⟩), .int .i64 i, .int .i64 j] w fun e w' => e = .returned (.bool (befB a b)) ∧ Below w.heap.size w w' := by
  have hi := (List.getElem?_eq_some_iff.1 ha).1
  have hj := (List.getElem?_eq_some_iff.1 hb).1
  obtain ⟨sa, c, rfl, hs, _⟩ := h.sl
  obtain ⟨H, rfl, _⟩ := hs (by omega)
  have hS : w.cell? ⟨B, 0, none⟩ = some (.slice (some ⟨H, 0, none⟩) xs.length c) ∧ w.cell? ⟨H, i * 2, none⟩ = some (.int .i64 (a.1 : Int)) ∧ w.cell? ⟨H, i * 2 + 1, none⟩ = some (.int .i64 a.2) ∧ w.cell? ⟨H, j * 2, none⟩ = some (.int .i64 (b.1 : Int)) ∧ w.cell? ⟨H, j * 2 + 1, none⟩ = some (.int .i64 b.2) := ⟨h.c0, h.t0 ha, h.t1 ha, h.t0 hb, h.t1 hb⟩
  have hSd := cells_on ((Below.refl _ w).drew) hS
  have BF := before_any a b
  have c60 := cells60
  have hi' : (i : Int) < (xs.length : Int) := by omega
  have hj' : (j : Int) < (xs.length : Int) := by omega
  have hi0 : (0 : Int) ≤ (i : Int) := by omega
  have hj0 : (0 : Int) ≤ (j : Int) := by omega
  generalize befB a b = y at *
  clear h
  go_enter Try.func32, Try.ntmps32
  go_wp2_with fail
  go_region_held3 (fun w' => w'.cell? ⟨B, 0, none⟩ = some (.slice (some ⟨H, 0, none⟩) xs.length c) ∧ w'.cell? ⟨H, i * 2, none⟩ = some (.int .i64 (a.1 : Int)) ∧ w'.cell? ⟨H, i * 2 + 1, none⟩ = some (.int .i64 a.2) ∧ w'.cell? ⟨H, j * 2, none⟩ = some (.int .i64 (b.1 : Int)) ∧ w'.cell? ⟨H, j * 2 + 1, none⟩ = some (.int .i64 b.2)) (first | with_reducible assumption | with_reducible exact hSd) (first
    | (go_at_call 45; refine (BF _).mono ?_; rintro e w1 ⟨rfl, b1⟩; have hS1 := cells_on b1 hSd))
  all_goals
    go_wp2_with fail
    go_ret
    exact ⟨rfl, (Below.refl _ w).drew.trans b1⟩

end

end Go.Proofs.Ytmogedfjhbfglaa
