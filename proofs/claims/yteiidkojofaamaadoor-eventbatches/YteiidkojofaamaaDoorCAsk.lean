/- What is asked of a source: Err, Left, End. -/
import Derived.Test.YteiidkojofaamaaDoorCTake
namespace Go.Proofs.YteiidkojofaamaaDoor
open Go.RowKit

/-- A source that no call made. -/
def NoS (w : World) (p : Option Addr) : Prop := p = none ∨ ∃ B, p = some ⟨B, 0, none⟩ ∧ w.cell? ⟨B, 0, none⟩ = some (.bool false)
theorem NoS.keep {w w' : World} {p : Option Addr} (h : NoS w p) (hb : But [] w w') : NoS w' p := by
  rcases h with h | ⟨B, e, h⟩
  · exact .inl h
  · exact .inr ⟨B, e, hb.cell h⟩

section
variable {w : World} {B x : Nat} {bs : List UInt8}
theorem SR.c0 (h : SR w B x bs) : w.cell? ⟨B, 0, none⟩ = some (.bool true) := by
  obtain ⟨a, c, h, _⟩ := h
  simp [World.cell?, h]
theorem SR.c1 (h : SR w B x bs) : ∃ a c, w.cell? ⟨B, 1, none⟩ = some (.slice a bs.length c) ∧ Byts w B a c bs := by
  obtain ⟨a, c, h, k⟩ := h
  exact ⟨a, c, by simp [World.cell?, h], k⟩
theorem SR.c2 (h : SR w B x bs) : w.cell? ⟨B, 2, none⟩ = some (.int .i64 (x : Int)) := by
  obtain ⟨a, c, h, _⟩ := h
  simp [World.cell?, h]
theorem SR.fz (h : SR w B x bs) (j : Nat) : w.frozen? ⟨B, j, none⟩ = false := by
  obtain ⟨a, c, h, _⟩ := h
  simp [World.frozen?, h]
theorem SR.fail (h : SR w B x bs) (y : Nat) : SR (w.setCell ⟨B, 2, none⟩ (.int .i64 (y : Int))) B y bs := by
  obtain ⟨a, c, h, k⟩ := h
  refine ⟨a, c, heap_setCell_same w B 2 _ 88 _ h, k.but (S := [B]) ((But.refl [B] w).set (by simp) _) (by simp)⟩
end

set_option maxHeartbeats 400000 in
theorem err_any (B x : Nat) (bs : List UInt8) (w : World) (h : SR w B x bs) :
    Calls Tryd.prog 47 #[.pointer (some ⟨B, 0, none⟩)] w fun e w' => e = .returned (.int .i64 (x : Int)) ∧ w' = w := by
  have h0 := h.c0
  have h2 := h.c2
  go_enter Tryd.func47, Tryd.ntmps47
  go_wp2
  go_ret
  exact ⟨rfl, rfl⟩

set_option maxHeartbeats 400000 in
theorem err_none (p : Option Addr) (w : World) (h : NoS w p) :
    Calls Tryd.prog 47 #[.pointer p] w fun e w' => e = .returned (.int .i64 1) ∧ w' = w := by
  rcases h with rfl | ⟨B, rfl, h⟩
  all_goals
    go_enter Tryd.func47, Tryd.ntmps47
    go_wp2
    go_ret
    exact ⟨rfl, rfl⟩

set_option maxHeartbeats 400000 in
theorem left_any (B : Nat) (st : Nat × List UInt8) (w : World) (h : SQ w B st) :
    Calls Tryd.prog 48 #[.pointer (some ⟨B, 0, none⟩)] w fun e w' => e = .returned (.int .i64 (st.2.length : Int)) ∧ w' = w := by
  obtain ⟨x, t⟩ := st
  obtain ⟨bs, h, h1, h2⟩ := h
  have hc := err_any B _ _ w h
  by_cases h0 : x = 0
  · subst h0
    have e := h1 rfl
    subst e
    clear h1 h2
    obtain ⟨a, c, hc1, hy⟩ := h.c1
    go_enter Tryd.func48, Tryd.ntmps48
    go_wp2_with (go_at_call 47; refine hc.mono ?_; rintro e w' ⟨rfl, rfl⟩)
    go_ret
    exact ⟨rfl, rfl⟩
  · have e := h2 h0
    simp only at e
    subst e
    have k : ¬ (x : Int) = 0 := by omega
    clear h1 h2 h0
    go_enter Tryd.func48, Tryd.ntmps48
    go_wp2_with (go_at_call 47; refine hc.mono ?_; rintro e w' ⟨rfl, rfl⟩)
    go_ret
    exact ⟨rfl, rfl⟩

set_option maxHeartbeats 400000 in
theorem left_none (p : Option Addr) (w : World) (h : NoS w p) :
    Calls Tryd.prog 48 #[.pointer p] w fun e w' => e = .returned (.int .i64 0) ∧ w' = w := by
  have hc := err_none p w h
  go_enter Tryd.func48, Tryd.ntmps48
  go_wp2_with (go_at_call 47; refine hc.mono ?_; rintro e w' ⟨rfl, rfl⟩)
  go_ret
  exact ⟨rfl, rfl⟩

/-- What End tells. -/
def endN (st : Nat × List UInt8) : Nat := if st.1 = 0 ∧ st.2 ≠ [] then 10 else st.1

set_option maxHeartbeats 400000 in
theorem end_any (B : Nat) (st : Nat × List UInt8) (w : World) (h : SQ w B st) :
    Calls Tryd.prog 52 #[.pointer (some ⟨B, 0, none⟩)] w fun e w' => e = .returned (.int .i64 (endN st : Int)) ∧ w' = w := by
  have hl := left_any B st w h
  obtain ⟨x, t⟩ := st
  obtain ⟨bs, h, h1, h2⟩ := h
  have hc := err_any B _ _ w h
  simp only at h1 h2 hc hl
  by_cases h0 : 0 < t.length
  · have hx : x = 0 := Classical.byContradiction (fun e => by have := h2 e; simp [this] at h0)
    have e : endN (x, t) = 10 := by
      have : t ≠ [] := fun e => by simp [e] at h0
      simp [endN, hx, this]
    rw [e]
    have k : (0 : Int) < t.length := by omega
    clear h1 h2 h0 hx e
    go_enter Tryd.func52, Tryd.ntmps52
    go_wp2_with (first | (go_at_call 48; refine hl.mono ?_; rintro e w' ⟨rfl, rfl⟩) | (go_at_call 47; refine hc.mono ?_; rintro e w' ⟨rfl, rfl⟩))
    go_ret
    exact ⟨rfl, rfl⟩
  · have e0 : t = [] := List.eq_nil_of_length_eq_zero (by omega)
    subst e0
    have e : endN (x, []) = x := by simp [endN]
    rw [e]
    clear h1 h2 h0 e
    go_enter Tryd.func52, Tryd.ntmps52
    go_wp2_with (first | (go_at_call 48; refine hl.mono ?_; rintro e w' ⟨rfl, rfl⟩) | (go_at_call 47; refine hc.mono ?_; rintro e w' ⟨rfl, rfl⟩))
    go_ret
    exact ⟨rfl, rfl⟩

set_option maxHeartbeats 400000 in
theorem end_none (p : Option Addr) (w : World) (h : NoS w p) :
    Calls Tryd.prog 52 #[.pointer p] w fun e w' => e = .returned (.int .i64 1) ∧ w' = w := by
  have hc := err_none p w h
  have hl := left_none p w h
  go_enter Tryd.func52, Tryd.ntmps52
  go_wp2_with (first | (go_at_call 48; refine hl.mono ?_; rintro e w' ⟨rfl, rfl⟩) | (go_at_call 47; refine hc.mono ?_; rintro e w' ⟨rfl, rfl⟩))
  go_ret
  exact ⟨rfl, rfl⟩

end Go.Proofs.YteiidkojofaamaaDoor
