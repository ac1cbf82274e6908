/- How a wheel lies in memory; contracts of made, isID, waits, Now, When. -/
import Derived.Test.YtmjjghhlalaeiaaWhl
import Derived.Test.YtmjjghhlalaeiaaMemb
namespace Go.Proofs.Ytmjjghhlalaeiaa
open Go.RowKit

/-- Where a wheel lies: its own block, the times' block and room, the lists. -/
structure Wp where
  B : Nat
  G : Nat
  c : Nat
  P : Pl
def Wp.five (T : Wp) : List Nat := [T.P.B, T.P.n, T.P.p, T.P.w, T.P.c]
/-- All its blocks. -/
def Wp.S (T : Wp) : List Nat := [T.B, T.G, T.P.B, T.P.n, T.P.p, T.P.w, T.P.c]
theorem Wp.PS {T : Wp} : ∀ x ∈ T.P.S, x ∈ T.S := fun x hx => by simp [Pl.S] at hx; simp [Wp.S]; omega

def whV (n : Nat) (G N c PB : Nat) : List Value := .int .i64 n :: .slice (some ⟨G, 0, none⟩) N c :: ((List.range 64).map iv ++ [.pointer (some ⟨PB, 0, none⟩)])
theorem whV_row {n G N c PB i : Nat} (h : i < 64) : (whV n G N c PB)[2 + i]? = some (.int .i64 i) := by
  have e : 2 + i = (i + 1) + 1 := by omega
  unfold whV
  rw [e, List.getElem?_cons_succ, List.getElem?_cons_succ, List.getElem?_append_left (by simpa using h), List.getElem?_map, List.getElem?_range h]
  rfl
theorem whV_lists {n G N c PB : Nat} : (whV n G N c PB)[66]? = some (.pointer (some ⟨PB, 0, none⟩)) := by
  unfold whV
  rw [List.getElem?_cons_succ, List.getElem?_cons_succ, List.getElem?_append_right (by simp)]
  simp

/-- A wheel at n, the times us, the lists ls. -/
structure WM (w : World) (T : Wp) (N n : Nat) (us : List Int) (ls : List (List Nat)) : Prop where
  b : Row w T.B 57 (whV n T.G N T.c T.P.B)
  g : Row w T.G 3 (us.map (Value.int .i64))
  ul : us.length = N
  l : LQ w T.P N 64 ls
  nb : T.B ∉ T.five
  ng : T.G ∉ T.five
  bg : T.B ≠ T.G

section
variable {w w' : World} {T : Wp} {N n : Nat} {us : List Int} {ls : List (List Nat)}
theorem WM.c0 (h : WM w T N n us ls) : w.cell? ⟨T.B, 0, none⟩ = some (.int .i64 n) := h.b.cell rfl
theorem WM.c1 (h : WM w T N n us ls) : w.cell? ⟨T.B, 1, none⟩ = some (.slice (some ⟨T.G, 0, none⟩) N T.c) := h.b.cell rfl
theorem WM.cr (h : WM w T N n us ls) {i : Nat} (hi : i < 64) : w.cell? ⟨T.B, 2 + i, none⟩ = some (.int .i64 i) := h.b.cell (whV_row hi)
theorem WM.c66 (h : WM w T N n us ls) : w.cell? ⟨T.B, 66, none⟩ = some (.pointer (some ⟨T.P.B, 0, none⟩)) := h.b.cell whV_lists
theorem WM.xu (h : WM w T N n us ls) {j : Nat} {x : Int} (hx : us[j]? = some x) : w.cell? ⟨T.G, j, none⟩ = some (.int .i64 x) := h.g.cell (by rw [List.getElem?_map, hx]; rfl)
theorem WM.sizes (h : WM w T N n us ls) : 1 ≤ N ∧ N ≤ 4096 := ⟨h.l.sizes.1, h.l.sizes.2.1⟩
theorem WM.lt (h : WM w T N n us ls) {k : Nat} (hk : k ∈ T.S) : k < w.heap.size := by
  simp [Wp.S] at hk
  rcases hk with rfl | rfl | hk
  · exact h.b.lt
  · exact h.g.lt
  · exact h.l.lt5 (by simpa using hk)
theorem WM.but {S : List Nat} (h : WM w T N n us ls) (hb : But S w w') (hS : ∀ k ∈ T.S, k ∉ S) : WM w' T N n us ls :=
  ⟨h.b.put (hb.block _ h.b.lt (hS _ (by simp [Wp.S]))), h.g.put (hb.block _ h.g.lt (hS _ (by simp [Wp.S]))), h.ul, h.l.but hb (fun k hk => hS k (by simp [Wp.S]; simp at hk; omega)), h.nb, h.ng, h.bg⟩
theorem WM.keep (h : WM w T N n us ls) (hb : But [] w w') : WM w' T N n us ls := h.but hb (by simp)
theorem WM.below (h : WM w T N n us ls) (hb : Below w.heap.size w w') : WM w' T N n us ls := h.keep (.of_below hb)
theorem WM.drawn (h : WM w T N n us ls) (k : Drawn w w') : WM w' T N n us ls := h.keep k.but
/-- The lists turned by a call of theirs. -/
theorem WM.lists (h : WM w T N n us ls) {ls' : List (List Nat)} (hb : But T.P.S w w') (hl : LQ w' T.P N 64 ls') : WM w' T N n us ls' := by
  have nb := h.nb
  have ng := h.ng
  simp [Wp.five] at nb ng
  exact ⟨h.b.put (hb.block _ h.b.lt (by simp [Pl.S]; omega)), h.g.put (hb.block _ h.g.lt (by simp [Pl.S]; omega)), h.ul, hl, h.nb, h.ng, h.bg⟩
theorem WM.setN (h : WM w T N n us ls) (m : Nat) : WM (w.setCell ⟨T.B, 0, none⟩ (.int .i64 m)) T N m us ls := by
  have nb := h.nb
  refine ⟨?_, h.g.other (Ne.symm h.bg) _ _, h.ul, h.l.but (S := [T.B]) ((But.refl [T.B] w).set (p := ⟨T.B, 0, none⟩) (by simp) _) (fun k hk e => nb ?_), h.nb, h.ng, h.bg⟩
  · exact h.b.set 0 (.int .i64 m)
  · simp at e
    subst e
    exact hk
theorem WM.setU (h : WM w T N n us ls) (j : Nat) (x : Int) : WM (w.setCell ⟨T.G, j, none⟩ (.int .i64 x)) T N n (us.set j x) ls := by
  have ng := h.ng
  refine ⟨h.b.other h.bg _ _, ?_, by simpa using h.ul, h.l.but (S := [T.G]) ((But.refl [T.G] w).set (p := ⟨T.G, j, none⟩) (by simp) _) (fun k hk e => ng ?_), h.nb, h.ng, h.bg⟩
  · rw [List.map_set]
    exact h.g.set j _
  · simp at e
    subst e
    exact hk

theorem wmade_any (h : WM w T N n us ls) :
    Calls Try.prog 31 #[.pointer (some ⟨T.B, 0, none⟩)] w fun e w' => e = .returned (.bool true) ∧ w' = w := by
  have c1 := h.c1
  have hp : 0 < N := h.sizes.1
  go_enter Try.func31, Try.ntmps31
  go_wp2_with fail
  go_ret
  exact ⟨rfl, rfl⟩

theorem isID_any (h : WM w T N n us ls) (t : Int) :
    Calls Try.prog 39 #[.pointer (some ⟨T.B, 0, none⟩), .int .i64 t] w fun e w' => e = .returned (.bool (inN N t)) ∧ w' = w := by
  have c1 := h.c1
  unfold inN
  by_cases h0 : 0 ≤ t
  · have e : decide (0 ≤ t ∧ t < (N : Int)) = decide (t < (N : Int)) := by simp [h0]
    rw [e]
    clear e
    go_enter Try.func39, Try.ntmps39
    go_wp2_with (first
      | (go_at_call 31; refine (wmade_any h).mono ?_; rintro e w' ⟨rfl, hw⟩; subst w'))
    go_ret
    exact ⟨rfl, rfl⟩
  · have e : decide (0 ≤ t ∧ t < (N : Int)) = false := by simp [h0]
    rw [e]
    clear e
    have h1 : t < 0 := by omega
    go_enter Try.func39, Try.ntmps39
    go_wp2_with (first
      | (go_at_call 31; refine (wmade_any h).mono ?_; rintro e w' ⟨rfl, hw⟩; subst w'))
    go_ret
    exact ⟨rfl, rfl⟩

/-- Whether a thing stands in a list. -/
def inB (ls : List (List Nat)) (t : Int) : Bool := decide (0 ≤ wI ls t)
theorem waits_any (h : WM w T N n us ls) (t : Int) :
    Calls Try.prog 37 #[.pointer (some ⟨T.B, 0, none⟩), .int .i64 t] w fun e w' => e = .returned (.bool (inB ls t)) ∧ w' = w := by
  have c66 := h.c66
  have HI := isID_any h t
  have HW := where_any h.l t
  unfold inB
  cases hb : inN N t with
  | false =>
    rw [hb] at HI
    rw [wI_out h.l.ok hb] 
    go_enter Try.func37, Try.ntmps37
    go_wp2_with (first
      | (go_at_call 39; refine HI.mono ?_; rintro e w' ⟨rfl, hw⟩; subst w'))
    go_ret
    exact ⟨rfl, rfl⟩
  | true =>
    rw [hb] at HI
    clear hb
    generalize wI ls t = y at *
    go_enter Try.func37, Try.ntmps37
    go_wp2_with (first
      | (go_at_call 39; refine HI.mono ?_; rintro e w' ⟨rfl, hw⟩; subst w')
      | (go_at_call 56; refine HW.mono ?_; rintro e w' ⟨rfl, hw⟩; subst w'))
    go_ret
    exact ⟨rfl, rfl⟩

theorem now2_any (h : WM w T N n us ls) :
    Calls Try.prog 12 #[.pointer (some ⟨T.B, 0, none⟩)] w fun e w' => e = .returned (.int .i64 n) ∧ w' = w := by
  have c0 := h.c0
  go_enter Try.func12, Try.ntmps12
  go_wp2_with (first
    | (go_at_call 31; refine (wmade_any h).mono ?_; rintro e w' ⟨rfl, hw⟩; subst w'))
  go_ret
  exact ⟨rfl, rfl⟩

theorem when_any (h : WM w T N n us ls) (t : Int) :
    Calls Try.prog 17 #[.pointer (some ⟨T.B, 0, none⟩), .int .i64 t] w fun e w' => e = .returned (.tuple #[.int .i64 (if inB ls t then us.getD t.toNat 0 else 0), .bool (inB ls t)]) ∧ w' = w := by
  have HW := waits_any h t
  cases hb : inB ls t with
  | false =>
    rw [hb] at HW
    go_enter Try.func17, Try.ntmps17
    go_wp2_with (first
      | (go_at_call 37; refine HW.mono ?_; rintro e w' ⟨rfl, hw⟩; subst w'))
    go_ret2
    exact ⟨rfl, rfl⟩
  | true =>
    rw [hb] at HW
    have ht : inN N t = true := by
      cases hi : inN N t with
      | true => rfl
      | false => rw [inB, wI_out h.l.ok hi] at hb; simp at hb
    obtain ⟨k, rfl, hk⟩ := inN_out ht
    have hx : us[k]? = some (us.getD k 0) := by
      rw [List.getD_eq_getElem?_getD, List.getElem?_eq_getElem (by rw [h.ul]; exact hk)]
      rfl
    have cx := h.xu hx
    have c1 := h.c1
    have hk' : (k : Int) < (N : Int) := by omega
    have hk0 : (0 : Int) ≤ (k : Int) := by omega
    rw [Int.toNat_natCast]
    generalize us.getD k 0 = x at *
    clear hb ht hx
    go_enter Try.func17, Try.ntmps17
    go_wp2_with (first
      | (go_at_call 37; refine HW.mono ?_; rintro e w' ⟨rfl, hw⟩; subst w'))
    go_ret2
    exact ⟨rfl, rfl⟩
end

end Go.Proofs.Ytmjjghhlalaeiaa
