/- Semaphores of the program's as they lie in memory: how many, how many threads, an array of 64 values, links; and whether there is such a one. -/
import Derived.Test.YtdmnobkbgmomdaaSeX
namespace Go.Proofs.Ytdmnobkbgmomdaa.Sm
open Go Go.RowKit Go.Proofs.Ytdmnobkbgmomdaa.Bs Go.Proofs.Ytdmnobkbgmomdaa.Se
open Go.Proofs.Ytdmnobkbgmomdaa.Lk (LQ Pl iv ints inN inN_of inN_out wI wI_nat whI_cases whI_none where_any putE pushS popE popS popV remE remS push_any pop_any remove_any lsI lsI_nat)

/-- The 64 values. -/
def vs (σ : St) (n : Nat) : List Int := σ.val ++ List.replicate (64 - n) 0
/-- The cells of the box: how many, how many threads, values, where the links are. -/
def cs (σ : St) (n T : Nat) (P : Pl) : List Value := .int .i64 n :: .int .i64 T :: ((vs σ n).map (Value.int .i64) ++ [.pointer (some ⟨P.B, 0, none⟩)])
def bl (B : Nat) (P : Pl) : List Nat := [B, P.B, P.n, P.p, P.w, P.c]
structure PM (w : World) (B : Nat) (P : Pl) (n T : Nat) (σ : St) : Prop where
  r : Row w B 43 (cs σ n T P)
  q : LQ w P T n σ.ls
  nd : B ∉ [P.B, P.n, P.p, P.w, P.c]
  vlen : σ.val.length = n
  th : σ.th = T
  n2 : n ≤ 64
def PL (w : World) (B : Nat) (Q : List Nat) (n T : Nat) (σ : St) : Prop := ∃ P, Q = bl B P ∧ PM w B P n T σ

section
variable {w w' : World} {B n T : Nat} {P : Pl} {σ : St}
theorem PM.len (h : PM w B P n T σ) : (vs σ n).length = 64 := by
  have := h.vlen
  have := h.n2
  unfold vs
  simp
  omega
theorem PM.c0 (h : PM w B P n T σ) : w.cell? ⟨B, 0, none⟩ = some (.int .i64 n) := h.r.cell rfl
theorem PM.c1 (h : PM w B P n T σ) : w.cell? ⟨B, 1, none⟩ = some (.int .i64 T) := h.r.cell rfl
theorem PM.c66 (h : PM w B P n T σ) : w.cell? ⟨B, 66, none⟩ = some (.pointer (some ⟨P.B, 0, none⟩)) := h.r.cell (by
  show ((vs σ n).map (Value.int .i64) ++ [.pointer (some ⟨P.B, 0, none⟩)])[64]? = _
  rw [List.getElem?_append_right (by simp [h.len])]
  simp [h.len])
theorem PM.xv (h : PM w B P n T σ) {j : Nat} (hj : j < n) : w.cell? ⟨B, 2 + j, none⟩ = some (.int .i64 (vl σ j)) := h.r.cell (by
  have hl := h.vlen
  have := h.n2
  rw [Nat.add_comm 2 j]
  show ((vs σ n).map (Value.int .i64) ++ [.pointer (some ⟨P.B, 0, none⟩)])[j]? = _
  rw [List.getElem?_append_left (by simp [h.len]; omega), List.getElem?_map]
  unfold vs
  rw [List.getElem?_append_left (by omega), get_of (d := 0) (by omega)]
  rfl)
theorem PM.fv (h : PM w B P n T σ) (j : Nat) : w.frozen? ⟨B, j, none⟩ = false := h.r.fz j
theorem PM.lt (h : PM w B P n T σ) : ∀ x ∈ bl B P, x < w.heap.size := by
  intro x hx
  unfold bl at hx
  rcases List.mem_cons.1 hx with rfl | hx
  · exact h.r.lt
  · exact h.q.lt5 hx
theorem PM.but {S' : List Nat} (h : PM w B P n T σ) (hb : But S' w w') (hS : ∀ k ∈ bl B P, k ∉ S') : PM w' B P n T σ := by
  have hk : ∀ k ∈ bl B P, w'.heap[k]? = w.heap[k]? := fun k hk => hb.block k (h.lt k hk) (hS k hk)
  exact ⟨h.r.put (hk B (by simp [bl])), h.q.but hb (fun k hk => hS k (by unfold bl; exact List.mem_cons_of_mem _ hk)), h.nd, h.vlen, h.th, h.n2⟩
theorem PM.keep (h : PM w B P n T σ) (hb : But [] w w') : PM w' B P n T σ := h.but hb (by simp)
/-- A call of the links. -/
theorem PM.lists {ls : List (List Nat)} (h : PM w B P n T σ) (q : LQ w' P T n ls) (hb : But P.S w w') : PM w' B P n T ⟨σ.val, ls, σ.th⟩ :=
  ⟨h.r.put (hb.block B (h.lt B (by simp [bl])) (fun hm => h.nd (List.mem_cons_of_mem _ hm))), q, h.nd, h.vlen, h.th, h.n2⟩
theorem PM.setV (h : PM w B P n T σ) {j : Nat} (hj : j < n) (x : Int) : PM (w.setCell ⟨B, 2 + j, none⟩ (.int .i64 x)) B P n T ⟨σ.val.set j x, σ.ls, σ.th⟩ := by
  have hb : But [B] w (w.setCell ⟨B, 2 + j, none⟩ (.int .i64 x)) := (But.refl [B] w).set (by simp) _
  have hl := h.vlen
  refine ⟨?_, h.q.but hb (fun k hk hm => by simp at hm; subst hm; exact h.nd hk), h.nd, by simpa using h.vlen, h.th, h.n2⟩
  have e : cs ⟨σ.val.set j x, σ.ls, σ.th⟩ n T P = (cs σ n T P).set (2 + j) (.int .i64 x) := by
    unfold cs vs
    rw [Nat.add_comm 2 j, List.set_cons_succ, List.set_cons_succ, List.set_append_left _ _ (by simp; omega), ← List.map_set, List.set_append_left _ _ (by omega)]
  rw [e]
  exact h.r.set (2 + j) _
theorem sub_S (B : Nat) (P : Pl) : ∀ x ∈ P.S, x ∈ bl B P := fun x hx => by
  simp [Pl.S] at hx
  simp [bl]
  rcases hx with rfl | rfl | rfl | rfl <;> simp

theorem made_any (h : PM w B P n T σ) : Calls Try.prog 16 #[.pointer (some ⟨B, 0, none⟩)] w fun e w' => e = .returned (.bool true) ∧ w' = w := by
  have c66 := h.c66
  go_enter Try.func16, Try.ntmps16
  go_wp2_with fail
  go_ret
  exact ⟨rfl, rfl⟩
theorem obj_any (h : PM w B P n T σ) (i : Int) : Calls Try.prog 17 #[.pointer (some ⟨B, 0, none⟩), .int .i64 i] w fun e w' => e = .returned (.bool (inO σ i)) ∧ w' = w := by
  have c0 := h.c0
  have hM := made_any h
  unfold inO inN
  rw [h.vlen]
  by_cases h1 : 0 ≤ i
  · have e : decide (0 ≤ i ∧ i < (n : Int)) = decide (i < (n : Int)) := by simp [h1]
    rw [e]
    clear e
    go_enter Try.func17, Try.ntmps17
    go_wp2_with (first | (go_at_call 16; (with_reducible refine hM.mono ?_); rintro e w1 ⟨rfl, hw⟩; subst w1))
    go_ret
    exact ⟨rfl, rfl⟩
  · rw [decide_eq_false (fun h => h1 h.1)]
    go_enter Try.func17, Try.ntmps17
    go_wp2_with (first | (go_at_call 16; (with_reducible refine hM.mono ?_); rintro e w1 ⟨rfl, hw⟩; subst w1))
    go_ret
    exact ⟨rfl, rfl⟩
theorem thr_any (h : PM w B P n T σ) (i : Int) : Calls Try.prog 34 #[.pointer (some ⟨B, 0, none⟩), .int .i64 i] w fun e w' => e = .returned (.bool (inT σ i)) ∧ w' = w := by
  have c1 := h.c1
  have hM := made_any h
  unfold inT inN
  rw [h.th]
  by_cases h1 : 0 ≤ i
  · have e : decide (0 ≤ i ∧ i < (T : Int)) = decide (i < (T : Int)) := by simp [h1]
    rw [e]
    clear e
    go_enter Try.func34, Try.ntmps34
    go_wp2_with (first | (go_at_call 16; (with_reducible refine hM.mono ?_); rintro e w1 ⟨rfl, hw⟩; subst w1))
    go_ret
    exact ⟨rfl, rfl⟩
  · rw [decide_eq_false (fun h => h1 h.1)]
    go_enter Try.func34, Try.ntmps34
    go_wp2_with (first | (go_at_call 16; (with_reducible refine hM.mono ?_); rintro e w1 ⟨rfl, hw⟩; subst w1))
    go_ret
    exact ⟨rfl, rfl⟩
end
end Go.Proofs.Ytdmnobkbgmomdaa.Sm
