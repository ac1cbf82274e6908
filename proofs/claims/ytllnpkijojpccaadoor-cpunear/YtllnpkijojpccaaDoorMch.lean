/- A machine in memory: registers got and put, branches. -/
import Derived.Test.YtllnpkijojpccaaDoorCpu
import Derived.Test.YtllnpkijojpccaaDoorWhole
import Derived.Test.YtllnpkijojpccaaDoorQuietT
namespace Go.Proofs.YtllnpkijojpccaaDoor
open Go Go.RowKit

/-- A context's cells; a machine's. -/
def cxA (c : Cx) : Array Value := #[.int .i64 c.pg, .int .i64 c.pc, .int .i64 (c.rs 0), .int .i64 (c.rs 1), .int .i64 (c.rs 2), .int .i64 (c.rs 3), .int .i64 (c.rs 4), .int .i64 (c.rs 5), .int .i64 (c.rs 6), .int .i64 (c.rs 7), .int .i64 c.dp]
def mcA (c : Cx) (v : Value) : Array Value := #[.int .i64 c.pg, .int .i64 c.pc, .int .i64 (c.rs 0), .int .i64 (c.rs 1), .int .i64 (c.rs 2), .int .i64 (c.rs 3), .int .i64 (c.rs 4), .int .i64 (c.rs 5), .int .i64 (c.rs 6), .int .i64 (c.rs 7), .int .i64 c.dp, v]
theorem lt8 {k : Nat} (h : k < 8) : k = 0 ∨ k = 1 ∨ k = 2 ∨ k = 3 ∨ k = 4 ∨ k = 5 ∨ k = 6 ∨ k = 7 := by omega
theorem mcA_get (c : Cx) (v : Value) {k : Nat} (h : k < 8) : (mcA c v)[2 + k]? = some (.int .i64 (c.rs k)) := by
  rcases lt8 h with rfl | rfl | rfl | rfl | rfl | rfl | rfl | rfl <;> rfl
theorem cxA_get (c : Cx) {k : Nat} (h : k < 8) : (cxA c)[2 + k]? = some (.int .i64 (c.rs k)) := by
  rcases lt8 h with rfl | rfl | rfl | rfl | rfl | rfl | rfl | rfl <;> rfl
theorem putR_nat (c : Cx) {k : Nat} (h : k < 8) (x : Int) : putR c (k : Int) x = { c with rs := fun j => if j = k then x else c.rs j } := by
  unfold putR
  rw [if_pos (by omega)]
  simp
theorem mcA_put (c : Cx) (v : Value) {k : Nat} (h : k < 8) (x : Int) : (mcA c v).setIfInBounds (2 + k) (.int .i64 x) = mcA (putR c (k : Int) x) v := by
  rw [putR_nat c h]
  rcases lt8 h with rfl | rfl | rfl | rfl | rfl | rfl | rfl | rfl <;> rfl
theorem cxA_put (c : Cx) {k : Nat} (h : k < 8) (x : Int) : (cxA c).setIfInBounds (2 + k) (.int .i64 x) = cxA (putR c (k : Int) x) := by
  rw [putR_nat c h]
  rcases lt8 h with rfl | rfl | rfl | rfl | rfl | rfl | rfl | rfl <;> rfl

/-- A machine in block B. -/
def MC (w : World) (B : Nat) (c : Cx) (v : Value) : Prop := Cel w B (mcA c v) 54
def regB (i : Int) : Bool := decide (0 ≤ i ∧ i ≤ 7)

theorem isreg_any (i : Int) (w : World) : Calls Tryd.prog 31 #[.int .i64 i] w fun e w' => e = .returned (.bool (regB i)) ∧ w' = w := by
  unfold regB
  by_cases h1 : 0 ≤ i
  · by_cases h2 : i < 8
    · have h3 : 0 ≤ i ∧ i ≤ 7 := ⟨h1, by omega⟩
      rw [decide_eq_true h3]
      clear h3
      go_enter Tryd.func31, Tryd.ntmps31
      go_wp2_with fail
      go_ret
      exact ⟨rfl, rfl⟩
    · have h3 : ¬ (0 ≤ i ∧ i ≤ 7) := fun h => h2 (by omega)
      rw [decide_eq_false h3]
      clear h3
      go_enter Tryd.func31, Tryd.ntmps31
      go_wp2_with fail
      go_ret
      exact ⟨rfl, rfl⟩
  · have h3 : ¬ (0 ≤ i ∧ i ≤ 7) := fun h => h1 h.1
    rw [decide_eq_false h3]
    clear h3
    go_enter Tryd.func31, Tryd.ntmps31
    go_wp2_with fail
    go_ret
    exact ⟨rfl, rfl⟩

theorem one_any (b : Bool) (w : World) : Calls Tryd.prog 36 #[.bool b] w fun e w' => e = .returned (.int .i64 (oneI b)) ∧ w' = w := by
  cases b
  · go_enter Tryd.func36, Tryd.ntmps36
    go_wp2_with fail
    go_ret
    exact ⟨rfl, rfl⟩
  · go_enter Tryd.func36, Tryd.ntmps36
    go_wp2_with fail
    go_ret
    exact ⟨rfl, rfl⟩

section
variable {B : Nat} {c : Cx} {v : Value} {w : World}
theorem get_any (hM : MC w B c v) (i : Int) : Calls Tryd.prog 35 #[.pointer (some ⟨B, 0, none⟩), .int .i64 i] w fun e w' => e = .returned (.int .i64 (getR c i)) ∧ w' = w := by
  have H := isreg_any i w
  by_cases h : 0 ≤ i ∧ i ≤ 7
  · obtain ⟨k, rfl⟩ : ∃ k : Nat, i = (k : Int) := ⟨i.toNat, by omega⟩
    have hk : k < 8 := by omega
    have hc := hM.cell (mcA_get c v hk)
    rw [show regB (k : Int) = true from decide_eq_true h] at H
    rw [getR_nat c hk]
    have h0 : (0 : Int) ≤ (k : Int) := by omega
    have h1 : (k : Int) < 8 := by omega
    clear h hM
    go_enter Tryd.func35, Tryd.ntmps35
    go_wp2_with (go_at_call 31; (with_reducible refine H.mono ?_); rintro e w' ⟨rfl, rfl⟩)
    go_ret
    exact ⟨rfl, rfl⟩
  · rw [show regB i = false from decide_eq_false h] at H
    rw [getR_out c h]
    clear h hM
    go_enter Tryd.func35, Tryd.ntmps35
    go_wp2_with (go_at_call 31; (with_reducible refine H.mono ?_); rintro e w' ⟨rfl, rfl⟩)
    go_ret
    exact ⟨rfl, rfl⟩

theorem put_any (hM : MC w B c v) (i x : Int) : Calls Tryd.prog 25 #[.pointer (some ⟨B, 0, none⟩), .int .i64 i, .int .i64 x] w fun e w' => e = .returned (.tuple #[]) ∧ MC w' B (putR c i x) v ∧ But [B] w w' := by
  have H := isreg_any i w
  by_cases h : 0 ≤ i ∧ i ≤ 7
  · obtain ⟨k, rfl⟩ : ∃ k : Nat, i = (k : Int) := ⟨i.toNat, by omega⟩
    have hk : k < 8 := by omega
    have hc := hM.cell (mcA_get c v hk)
    have hf := hM.fz (2 + k)
    rw [show regB (k : Int) = true from decide_eq_true h] at H
    have h0 : (0 : Int) ≤ (k : Int) := by omega
    have h1 : (k : Int) < 8 := by omega
    go_enter Tryd.func25, Tryd.ntmps25
    go_wp2_with (go_at_call 31; (with_reducible refine H.mono ?_); rintro e w' ⟨rfl, rfl⟩)
    go_end0
    refine ⟨rfl, ?_, (But.refl _ _).set (p := ⟨B, 2 + k, none⟩) (by simp) _⟩
    have := hM.set (j := 2 + k) (.int .i64 x)
    rw [mcA_put c v hk] at this
    exact this
  · rw [show regB i = false from decide_eq_false h] at H
    rw [putR_out c h]
    go_enter Tryd.func25, Tryd.ntmps25
    go_wp2_with (go_at_call 31; (with_reducible refine H.mono ?_); rintro e w' ⟨rfl, rfl⟩)
    go_end0
    exact ⟨rfl, hM, But.refl _ _⟩

theorem branch_any (hM : MC w B c v) (t : Int) (b : Bool) : Calls Tryd.prog 37 #[.pointer (some ⟨B, 0, none⟩), .int .i64 t, .bool b] w fun e w' => e = .returned (.tuple #[]) ∧ MC w' B (brC c t b) v ∧ But [B] w w' := by
  cases b
  · go_enter Tryd.func37, Tryd.ntmps37
    go_wp2_with fail
    go_end0
    exact ⟨rfl, hM, But.refl _ _⟩
  · have hc : w.cell? ⟨B, 1, none⟩ = some (.int .i64 c.pc) := hM.cell rfl
    have hf := hM.fz 1
    go_enter Tryd.func37, Tryd.ntmps37
    go_wp2_with fail
    go_end0
    exact ⟨rfl, hM.set (j := 1) (.int .i64 t), (But.refl _ _).set (p := ⟨B, 1, none⟩) (by simp) _⟩
end
end Go.Proofs.YtllnpkijojpccaaDoor
