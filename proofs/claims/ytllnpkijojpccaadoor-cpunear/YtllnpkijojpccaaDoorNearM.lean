/- A step is near, plain. -/
import Derived.Test.YtllnpkijojpccaaDoorCpu
namespace Go.Proofs.YtllnpkijojpccaaDoor
open Go Go.RowKit

/-- What a step leaves: all registers but one, the program; where to, and how deep. -/
structure Nrm (n : Int) (c d : Cx) (k : Ins) : Prop where
  pg : d.pg = c.pg
  rs : ∃ r : Nat, ∀ j, j ≠ r → d.rs j = c.rs j
  call : k.1 ≠ 0 → (∀ j, d.rs j = c.rs j) ∧ d.dp = c.dp
  zero : k.1 = 0 → k = z4
  lo : 0 ≤ d.pc
  hi : d.pc ≤ n
  dp : d.dp = c.dp ∨ (c.dp < 8 ∧ d.dp = c.dp + 1) ∨ (0 < c.dp ∧ d.dp = c.dp - 1)
theorem putR_near (c : Cx) (i v : Int) : ∃ r : Nat, ∀ j, j ≠ r → (putR c i v).rs j = c.rs j := by
  refine ⟨i.toNat, fun j hj => ?_⟩
  unfold putR
  split
  · simp [hj]
  · rfl
theorem brC_pg (c : Cx) (t : Int) (b : Bool) : (brC c t b).pg = c.pg := by cases b <;> rfl
theorem brC_rs (c : Cx) (t : Int) (b : Bool) : (brC c t b).rs = c.rs := by cases b <;> rfl
theorem brC_dp (c : Cx) (t : Int) (b : Bool) : (brC c t b).dp = c.dp := by cases b <;> rfl
theorem brC_pc (c : Cx) (t : Int) (b : Bool) : (brC c t b).pc = t ∨ (brC c t b).pc = c.pc := by
  cases b
  · exact .inr rfl
  · exact .inl rfl
/-- Where a good instruction may go to. -/
theorem good_to {n : Int} {x : Ins} (h : goodB n x = true) : (x.1 = 6 → 0 ≤ x.2.1 ∧ x.2.1 ≤ n) ∧ (x.1 = 7 ∨ x.1 = 8 → 0 ≤ x.2.2.1 ∧ x.2.2.1 ≤ n) := by
  obtain ⟨op, a, b, y⟩ := x
  unfold goodB at h
  simp only [Bool.and_eq_true] at h
  obtain ⟨_, h0, h1, _⟩ := h
  unfold mayB at h0 h1
  simp only [Bool.and_eq_true, decide_eq_true_eq] at h0 h1
  refine ⟨fun e => ?_, fun e => ?_⟩
  · simp only at e
    subst e
    rw [show sc 6 0 = 116 from rfl] at h0
    exact h0
  · simp only at e
    rcases e with rfl | rfl
    · rw [show sc 7 1 = 116 from rfl] at h1
      exact h1
    · rw [show sc 8 1 = 116 from rfl] at h1
      exact h1
theorem do_near {n : Int} {c : Cx} {x : Ins} (hg : goodB n x = true) (hr : Rg c) (h0 : 0 ≤ c.pc) (h1 : c.pc < n) : Nrm n c (doC x (toPC c (c.pc + 1))).1 (doC x (toPC c (c.pc + 1))).2 := by
  obtain ⟨g6, g78⟩ := good_to hg
  have hop := opB_iff.1 (by unfold goodB at hg; simp only [Bool.and_eq_true] at hg; exact hg.1)
  have P : ∀ i v, Nrm n c (putR (toPC c (c.pc + 1)) i v) z4 := fun i v => by
    obtain ⟨r, hn⟩ := putR_near (toPC c (c.pc + 1)) i v
    exact ⟨putR_pg _ _ _, ⟨r, hn⟩, fun h => absurd rfl h, fun _ => rfl, by rw [putR_pc]; exact (by omega : (0 : Int) ≤ c.pc + 1), by rw [putR_pc]; exact (by omega : c.pc + 1 ≤ n), .inl (putR_dp _ _ _)⟩
  rcases op_cases x.1 with e | e | e | e | e | e | e | e | e | e | e | e | e | e
  · rw [doC_0 _ e]; exact ⟨rfl, ⟨0, fun _ _ => rfl⟩, fun h => absurd rfl h, fun _ => rfl, (by omega : (0 : Int) ≤ c.pc + 1), (by omega : c.pc + 1 ≤ n), .inl rfl⟩
  · rw [doC_1 _ e]; exact P _ _
  · rw [doC_2 _ e]; exact P _ _
  · rw [doC_3 _ e]; exact P _ _
  · rw [doC_4 _ e]; exact P _ _
  · rw [doC_5 _ e]; exact P _ _
  · rw [doC_6 _ e]; exact ⟨rfl, ⟨0, fun _ _ => rfl⟩, fun h => absurd rfl h, fun _ => rfl, (g6 e).1, (g6 e).2, .inl rfl⟩
  · rw [doC_7 _ e]
    have g := g78 (.inl e)
    generalize (getR (toPC c (c.pc + 1)) x.2.1 == 0) = b
    refine ⟨brC_pg _ _ _, ⟨0, fun j _ => by rw [brC_rs]; rfl⟩, fun h => absurd rfl h, fun _ => rfl, ?_, ?_, .inl (brC_dp _ _ _)⟩
    · rcases brC_pc (toPC c (c.pc + 1)) x.2.2.1 b with h | h
      · rw [h]; exact g.1
      · rw [h]; exact (by omega : (0 : Int) ≤ c.pc + 1)
    · rcases brC_pc (toPC c (c.pc + 1)) x.2.2.1 b with h | h
      · rw [h]; exact g.2
      · rw [h]; exact (by omega : c.pc + 1 ≤ n)
  · rw [doC_8 _ e]
    have g := g78 (.inr e)
    have p := P x.2.1 (wrap64 (getR (toPC c (c.pc + 1)) x.2.1 - 1))
    dsimp only
    generalize putR (toPC c (c.pc + 1)) x.2.1 (wrap64 (getR (toPC c (c.pc + 1)) x.2.1 - 1)) = d at *
    generalize (getR d x.2.1 != 0) = b
    obtain ⟨r, hn⟩ := p.rs
    refine ⟨(brC_pg _ _ _).trans p.pg, ⟨r, fun j hj => by rw [brC_rs]; exact hn j hj⟩, fun h => absurd rfl h, fun _ => rfl, ?_, ?_, ?_⟩
    · rcases brC_pc d x.2.2.1 b with h | h
      · rw [h]; exact g.1
      · rw [h]; exact p.lo
    · rcases brC_pc d x.2.2.1 b with h | h
      · rw [h]; exact g.2
      · rw [h]; exact p.hi
    · rw [brC_dp]; exact p.dp
  · rw [doC_9 _ e]
    refine ⟨rfl, ⟨0, fun _ _ => rfl⟩, fun h => absurd rfl h, fun _ => rfl, (by omega : (0 : Int) ≤ c.pc + 1), (by omega : c.pc + 1 ≤ n), ?_⟩
    show deepI c.dp = c.dp ∨ _ ∧ deepI c.dp = _ ∨ _ ∧ deepI c.dp = _
    rw [deep_in hr]
    by_cases h : c.dp < 8
    · rw [if_pos h]; exact .inr (.inl ⟨h, rfl⟩)
    · rw [if_neg h]; exact .inl rfl
  · rw [doC_10 _ e]
    refine ⟨rfl, ⟨0, fun _ _ => rfl⟩, fun h => absurd rfl h, fun _ => rfl, (by omega : (0 : Int) ≤ c.pc + 1), (by omega : c.pc + 1 ≤ n), ?_⟩
    show leaveI c.dp = c.dp ∨ _ ∧ leaveI c.dp = _ ∨ _ ∧ leaveI c.dp = _
    rw [leave_in hr]
    by_cases h : 0 < c.dp
    · rw [if_pos h]; exact .inr (.inr ⟨h, rfl⟩)
    · rw [if_neg h]; exact .inl rfl
  · rw [doC_call _ (.inl e)]; exact ⟨rfl, ⟨0, fun _ _ => rfl⟩, fun _ => ⟨fun _ => rfl, rfl⟩, fun h => absurd (e.symm.trans h) (by decide), (by omega : (0 : Int) ≤ c.pc + 1), (by omega : c.pc + 1 ≤ n), .inl rfl⟩
  · rw [doC_call _ (.inr e)]; exact ⟨rfl, ⟨0, fun _ _ => rfl⟩, fun _ => ⟨fun _ => rfl, rfl⟩, fun h => absurd (e.symm.trans h) (by decide), (by omega : (0 : Int) ≤ c.pc + 1), (by omega : c.pc + 1 ≤ n), .inl rfl⟩
  · rw [doC_oth _ e]; exact ⟨rfl, ⟨0, fun _ _ => rfl⟩, fun _ => ⟨fun _ => rfl, rfl⟩, fun h => by unfold Oth at e; have h2 : x.1 = 0 := h; omega, (by omega : (0 : Int) ≤ c.pc + 1), (by omega : c.pc + 1 ≤ n), .inl rfl⟩
end Go.Proofs.YtllnpkijojpccaaDoor
