/- The document's examples, over any queue that tells as it must. -/
import Derived.Test.YtlnfabjgcecebaaGreatRdX
namespace Go.Proofs.YtlnfabjgcecebaaGreat.Rd
open Go Go.RowKit Go.Proofs.YtlnfabjgcecebaaGreat.Str
open Go.Proofs.YtlnfabjgcecebaaGreat.Hp (Step Disj)

def v0 : Qs := ⟨0, List.replicate 4 z4⟩
def v1 : Qs := ⟨0, [(1, 1, 0, 0), z4, z4, z4]⟩
def v2 : Qs := ⟨0, [(1, 1, 0, 0), (1, 1, 0, 0), z4, z4]⟩
def v3 : Qs := ⟨0, [(2, 1, 1099511627776, 1), (1, 1, 0, 0), z4, z4]⟩
def v4 : Qs := ⟨0, [(2, 1, 1099511627776, 1), (2, 1, 1099511627776, 1), z4, z4]⟩
def v5 : Qs := ⟨0, [(1, 1, 1099511627776, 1), (2, 1, 1099511627776, 1), z4, z4]⟩
def v6 : Qs := ⟨0, [(1, 1, 1099511627776, 1), (1, 1, 1099511627776, 1), z4, z4]⟩
theorem e1 : joinS v0 0 1 = v1 := by kernel_rfl
theorem e2 : joinS v1 1 1 = v2 := by kernel_rfl
theorem e3 : pickS v2 = v3 := by kernel_rfl
theorem e4 : pickS v3 = v4 := by kernel_rfl
theorem e5 : turnS v4 0 2 1 true = v5 := by kernel_rfl
theorem e6 : turnS v5 1 2 1 true = v6 := by kernel_rfl
section
variable {PQ : World → Nat → List Nat → Nat → Qs → Prop}
set_option maxRecDepth 100000 in
set_option maxHeartbeats 4000000 in
theorem lives_any (S : Side PQ) (w : World) : Calls Tryz.prog 6 #[] w fun e w' => e = .returned (.bool true) ∧ Below w.heap.size w w' := by
  have f0 : Few 0 v0 := Few.new 4
  have f1 : Few 1 v1 := by have := f0.act (by omega) 0 0 1; exact e1 ▸ this
  have f2 : Few 2 v2 := by have := f1.act (by omega) 0 1 1; exact e2 ▸ this
  have f3 : Few 3 v3 := by have := f2.act (by omega) 1 0 0; exact e3 ▸ this
  have f4 : Few 4 v4 := by have := f3.act (by omega) 1 0 0; exact e4 ▸ this
  have f5 : Few 5 v5 := by have := f4.act (by omega) 3 0 0; exact e5 ▸ this
  have f6 : Few 6 v6 := by have := f5.act (by omega) 3 1 0; exact e6 ▸ this
  have C0 : Calls Tryz.prog 4 #[.int .i64 4] w fun e w' => ∃ B T, e = .returned (.pointer (some ⟨B, 0, none⟩)) ∧ PQ w' B T 4 v0 ∧ Step [] w T w' := S.made 4 w (by omega) (by omega)
  have C1 : ∀ {W B T}, PQ W B T 4 v0 → Calls Tryz.prog 12 #[.pointer (some ⟨B, 0, none⟩), .int .i64 0, .int .i64 1] W fun e w' => e = .returned (.int .i64 0) ∧ ∃ T', PQ w' B T' 4 v1 ∧ Step T W T' w' := fun h => by
    have := S.join h f0 (by omega) 0 1
    rw [e1, show joinE v0 0 1 = 0 by kernel_rfl] at this
    exact this
  have C2 : ∀ {W B T}, PQ W B T 4 v1 → Calls Tryz.prog 12 #[.pointer (some ⟨B, 0, none⟩), .int .i64 1, .int .i64 1] W fun e w' => e = .returned (.int .i64 0) ∧ ∃ T', PQ w' B T' 4 v2 ∧ Step T W T' w' := fun h => by
    have := S.join h f1 (by omega) 1 1
    rw [e2, show joinE v1 1 1 = 0 by kernel_rfl] at this
    exact this
  have C3 : ∀ {W B T}, PQ W B T 4 v2 → Calls Tryz.prog 13 #[.pointer (some ⟨B, 0, none⟩)] W fun e w' => e = .returned (.tuple #[.int .i64 0, .bool true]) ∧ ∃ T', PQ w' B T' 4 v3 ∧ Step T W T' w' := fun h => by
    have := S.pick h f2 (by omega)
    rw [e3, show pickI v2 = 0 by kernel_rfl, show pickB v2 = true by kernel_rfl] at this
    exact this
  have C4 : ∀ {W B T}, PQ W B T 4 v3 → Calls Tryz.prog 13 #[.pointer (some ⟨B, 0, none⟩)] W fun e w' => e = .returned (.tuple #[.int .i64 1, .bool true]) ∧ ∃ T', PQ w' B T' 4 v4 ∧ Step T W T' w' := fun h => by
    have := S.pick h f3 (by omega)
    rw [e4, show pickI v3 = 1 by kernel_rfl, show pickB v3 = true by kernel_rfl] at this
    exact this
  have C5 : ∀ {W B T}, PQ W B T 4 v4 → Calls Tryz.prog 14 #[.pointer (some ⟨B, 0, none⟩), .int .i64 0] W fun e w' => e = .returned (.int .i64 0) ∧ ∃ T', PQ w' B T' 4 v5 ∧ Step T W T' w' := fun h => by
    have := S.back h f4 (by omega) 0
    rw [e5, show turnE v4 0 2 = 0 by kernel_rfl] at this
    exact this
  have C6 : ∀ {W B T}, PQ W B T 4 v5 → Calls Tryz.prog 14 #[.pointer (some ⟨B, 0, none⟩), .int .i64 1] W fun e w' => e = .returned (.int .i64 0) ∧ ∃ T', PQ w' B T' 4 v6 ∧ Step T W T' w' := fun h => by
    have := S.back h f5 (by omega) 1
    rw [e6, show turnE v5 1 2 = 0 by kernel_rfl] at this
    exact this
  have C7 : ∀ {W B T}, PQ W B T 4 v6 → Calls Tryz.prog 13 #[.pointer (some ⟨B, 0, none⟩)] W fun e w' => e = .returned (.tuple #[.int .i64 0, .bool true]) ∧ ∃ T', PQ w' B T' 4 (pickS v6) ∧ Step T W T' w' := fun h => by
    have := S.pick h f6 (by omega)
    rw [show pickI v6 = 0 by kernel_rfl, show pickB v6 = true by kernel_rfl] at this
    exact this
  clear f0 f1 f2 f3 f4 f5 f6
  go_enter Tryz.func6, Tryz.ntmps6
  go_wp2_with (first
    | (go_at_call 4; (with_reducible refine C0.mono ?_); rintro e w0 ⟨B, T0, rfl, h0, s0⟩)
    | (go_at_call 12; first
        | (with_reducible refine (C1 h0).mono ?_); rintro e w1 ⟨rfl, T1, h1, s1⟩
        | (with_reducible refine (C2 h1).mono ?_); rintro e w2 ⟨rfl, T2, h2, s2⟩)
    | (go_at_call 13; first
        | (with_reducible refine (C3 h2).mono ?_); rintro e w3 ⟨rfl, T3, h3, s3⟩
        | (with_reducible refine (C4 h3).mono ?_); rintro e w4 ⟨rfl, T4, h4, s4⟩
        | (with_reducible refine (C7 h6).mono ?_); rintro e w7 ⟨rfl, T7, h7, s7⟩)
    | (go_at_call 14; first
        | (with_reducible refine (C5 h4).mono ?_); rintro e w5 ⟨rfl, T5, h5, s5⟩
        | (with_reducible refine (C6 h5).mono ?_); rintro e w6 ⟨rfl, T6, h6, s6⟩))
  go_ret
  exact ⟨rfl, (((((((s0.trans s1).trans s2).trans s3).trans s4).trans s5).trans s6).trans s7).below⟩
end
end Go.Proofs.YtlnfabjgcecebaaGreat.Rd
