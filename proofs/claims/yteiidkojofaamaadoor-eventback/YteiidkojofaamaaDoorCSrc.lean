/- The calls of a source, of each kind. -/
import Derived.Test.YteiidkojofaamaaDoorCStepI
namespace Go.Proofs.YteiidkojofaamaaDoor
open Go.RowKit

theorem numT_err {most : Nat} {bs : List UInt8} (h : (numT most bs).1 ≠ 0) : (numT most bs).2 = (0, []) := by
  unfold numT at h ⊢
  simp only at h ⊢
  split
  · rename_i h0
    rw [if_pos h0] at h
    split
    · rfl
    · rename_i h1
      rw [if_neg h1] at h
      exact absurd h0 h
  · rename_i h0
    exact numG_err _ _ _ h0
theorem intT_err {least most : Int} {bs : List UInt8} (h : (intT least most bs).1 ≠ 0) : (intT least most bs).2 = (0, []) := by
  unfold intT at h ⊢
  simp only at h ⊢
  split
  · rename_i h0
    rw [if_pos h0] at h
    split
    · rfl
    · rename_i h1
      rw [if_neg h1] at h
      exact absurd rfl h
  · rfl
theorem textT_err {most : Int} {bs : List UInt8} (h : (textT most bs).1 ≠ 0) : (textT most bs).2 = ([], []) := by
  unfold textT at h ⊢
  simp only at h ⊢
  split
  · rename_i h0
    rw [if_pos h0] at h
    split
    · rfl
    · rename_i h1
      rw [if_neg h1] at h
      exact absurd rfl h
  · rfl
theorem flagT_err {bs : List UInt8} (h : (flagT bs).1 ≠ 0) : (flagT bs).2 = (false, []) := by
  cases bs with
  | nil => rfl
  | cons c t =>
    by_cases h1 : 1 < c.toNat
    · simp [flagT, h1]
    · simp [flagT, h1] at h
theorem byteT_err {bs : List UInt8} (h : (byteT bs).1 ≠ 0) : (byteT bs).2 = (0, []) := by
  cases bs with
  | nil => rfl
  | cons c t => exact absurd rfl h
theorem intsG_err {least most : Int} {n : Nat} {bs : List UInt8} (h : (intsG least most n bs).1 ≠ 0) : (intsG least most n bs).2 = ([], []) := by
  rw [← joinI_nil] at h ⊢
  unfold joinI at h ⊢
  split
  · rename_i h0
    rw [if_pos h0] at h
    exact absurd rfl h
  · rfl
theorem intsT_err {count least most : Int} {bs : List UInt8} (h : (intsT count least most bs).1 ≠ 0) : (intsT count least most bs).2 = ([], []) := by
  unfold intsT at h ⊢
  simp only at h ⊢
  split
  · rename_i h0
    rw [if_pos h0] at h
    exact intsG_err h
  · rfl

/-- What a call of a source tells. -/
def GotS {α : Type} (B : Nat) (w : World) (V : α → Value → World → Prop) (f : List UInt8 → Nat × α × List UInt8) (z : α) (st : Nat × List UInt8) (e : Ending) (w' : World) : Prop :=
  But [B] w w' ∧ SQ w' B (getS f z st).2 ∧ ∃ v, e = .returned v ∧ V (getS f z st).1 v w'
section
variable {α : Type} {B : Nat} {w w' : World} {V : α → Value → World → Prop} {f : List UInt8 → Nat × α × List UInt8} {z : α} {st : Nat × List UInt8} {v Z : Value}
theorem GotS.ok (h0 : st.1 = 0) (hb : But [B] w w') (hs : SQ w' B ((f st.2).1, if (f st.2).1 = 0 then (f st.2).2.2 else [])) (hv0 : (f st.2).1 = 0 → V (f st.2).2.1 v w') (hv1 : (f st.2).1 ≠ 0 → v = Z) (hZ : V z Z w') (hf : (f st.2).1 ≠ 0 → (f st.2).2 = (z, [])) : GotS B w V f z st (.returned v) w' := by
  have e : getS f z st = ((f st.2).2.1, (f st.2).1, (f st.2).2.2) := by unfold getS; rw [if_pos h0]
  refine ⟨hb, ?_, v, rfl, ?_⟩
  · rw [e]
    by_cases hx : (f st.2).1 = 0
    · rw [if_pos hx] at hs
      exact hs
    · rw [if_neg hx] at hs
      rw [hf hx]
      exact hs
  · rw [e]
    by_cases hx : (f st.2).1 = 0
    · exact hv0 hx
    · rw [hv1 hx, hf hx]
      exact hZ
theorem GotS.no (h0 : st.1 ≠ 0) (hb : But [] w w') (hs : SQ w B st) (hZ : V z Z w') : GotS B w V f z st (.returned Z) w' := by
  have e : getS f z st = (z, st) := by unfold getS; rw [if_neg h0]
  refine ⟨hb.wide, ?_, Z, rfl, ?_⟩
  · rw [e]
    exact hs.keep hb
  · rw [e]
    exact hZ
end

theorem ToldV.imp {B : Nat} {w w' : World} {e : Ending} {V U : Value → World → Prop} {x : Nat} {t : List UInt8} (h : ToldV B w w' e V x t) (hu : ∀ v w', V v w' → U v w') : ToldV B w w' e U x t :=
  ⟨h.1, h.2.imp (fun ⟨a, v, b, c, d⟩ => ⟨a, v, b, hu _ _ c, d⟩) id⟩

theorem byte_any (B : Nat) (bs : List UInt8) (w : World) (h : SR w B 0 bs) :
    Calls Tryd.prog 80 #[.pointer (some ⟨B, 0, none⟩)] w fun e w' => ToldV B w w' e (fun v _ => v = .int .u8 ((byteT bs).2.1.toNat : Int)) (byteT bs).1 (byteT bs).2.2 := by
  cases bs with
  | nil =>
    refine (next_short B w h).mono ?_
    rintro e w' ⟨rfl, rfl⟩
    exact ⟨But.refl _ _, .inr ⟨by simp [byteT], rfl, [], h⟩⟩
  | cons c t =>
    refine (next_ok B c t w h).mono ?_
    rintro e w' ⟨rfl, hb, hs⟩
    exact ⟨hb, .inl ⟨rfl, _, rfl, rfl, hs⟩⟩

/-- Texts, ints by their rows. -/
def strV (l : List UInt8) : Value := .string ⟨l.toArray⟩

section
variable {B : Nat}

set_option maxHeartbeats 1000000 in
theorem src28 (st : Nat × List UInt8) (w : World) (h : SQ w B st) (most : Nat) :
    Calls Tryd.prog 51 #[.pointer (some ⟨B, 0, none⟩), .int .u64 (most : Int)] w fun e w' => GotS B w (fun (n : Nat) v _ => v = .int .u64 (n : Int)) (numT most) 0 st e w' := by
  obtain ⟨bs, h, h1, h2⟩ := h
  have hmf : ∀ (fn : Fn) (first cap : Array Value) (w : World), (Instr.makeFunc fn first cap).run Tryd.prog w = .ok (.func fn first cap) w := fun _ _ _ _ => rfl
  have hb0 : But [] w ((w.alloc (.cells #[.pointer (some ⟨B, 0, none⟩)] 70)).alloc (.cells #[.int .u64 (most : Int)] 67)) := (((But.refl [] w).alloc _).alloc _)
  by_cases h0 : st.1 = 0
  · have e0 := h1 h0
    subst e0
    rw [h0] at h
    have h' := h.keep hb0
    have hB := h.lt
    have c0 : ((w.alloc (.cells #[.pointer (some ⟨B, 0, none⟩)] 70)).alloc (.cells #[.int .u64 (most : Int)] 67)).cell? ⟨w.heap.size, 0, none⟩ = some (.pointer (some ⟨B, 0, none⟩)) := by simp [go_sem]
    have c1 : ((w.alloc (.cells #[.pointer (some ⟨B, 0, none⟩)] 70)).alloc (.cells #[.int .u64 (most : Int)] 67)).cell? ⟨w.heap.size + 1, 0, none⟩ = some (.int .u64 (most : Int)) := by simp [go_sem]
    have hg := get46_any B st.2 _ h' w.heap.size (w.heap.size + 1) _ _ _ (fun w1 hb => step47 (h'.keep hb) most (hb.cell c0) (hb.cell c1))
    clear h1 h2
    go_enter Tryd.func51, Tryd.ntmps51
    go_wp2_with (go_at_call 71; refine hg.mono ?_; rintro e w' ⟨hb1, hs1, v, rfl, hv0, hv1⟩; have HG := Hid.mk hs1; have H0 := Hid.mk hv0; have H1 := Hid.mk hv1; clear hs1 hv0 hv1)
    go_ret
    exact GotS.ok h0 (hb0.wide.trans hb1) HG.out H0.out H1.out rfl numT_err
  · have hg := get46_err B st.1 bs _ (h.keep hb0) h0
    have hh : SQ w B st := ⟨bs, h, h1, h2⟩
    clear h1 h2
    go_enter Tryd.func51, Tryd.ntmps51
    go_wp2_with (go_at_call 71; refine (hg _).mono ?_; rintro e w' ⟨rfl, hb1⟩)
    go_ret
    exact GotS.no h0 (hb0.trans hb1) hh rfl

set_option maxHeartbeats 1000000 in
theorem none28 (p : Option Addr) (w : World) (h : NoS w p) (most : Nat) :
    Calls Tryd.prog 51 #[.pointer p, .int .u64 (most : Int)] w fun e w' => e = .returned (.int .u64 0) ∧ But [] w w' := by
  have hmf : ∀ (fn : Fn) (first cap : Array Value) (w : World), (Instr.makeFunc fn first cap).run Tryd.prog w = .ok (.func fn first cap) w := fun _ _ _ _ => rfl
  have hb0 : But [] w ((w.alloc (.cells #[.pointer p] 70)).alloc (.cells #[.int .u64 (most : Int)] 67)) := (((But.refl [] w).alloc _).alloc _)
  have hg := get46_none p _ (h.keep hb0)
  go_enter Tryd.func51, Tryd.ntmps51
  go_wp2_with (go_at_call 71; refine (hg _).mono ?_; rintro e w' ⟨rfl, hb1⟩)
  go_ret
  exact ⟨rfl, hb0.trans hb1⟩

set_option maxHeartbeats 1000000 in
theorem src29 (st : Nat × List UInt8) (w : World) (h : SQ w B st) (least : Int) (most : Int) :
    Calls Tryd.prog 68 #[.pointer (some ⟨B, 0, none⟩), .int .i64 least, .int .i64 most] w fun e w' => GotS B w (fun (n : Int) v _ => v = .int .i64 n) (intT least most) 0 st e w' := by
  obtain ⟨bs, h, h1, h2⟩ := h
  have hmf : ∀ (fn : Fn) (first cap : Array Value) (w : World), (Instr.makeFunc fn first cap).run Tryd.prog w = .ok (.func fn first cap) w := fun _ _ _ _ => rfl
  have hb0 : But [] w (((w.alloc (.cells #[.pointer (some ⟨B, 0, none⟩)] 70)).alloc (.cells #[.int .i64 least] 3)).alloc (.cells #[.int .i64 most] 3)) := ((((But.refl [] w).alloc _).alloc _).alloc _)
  by_cases h0 : st.1 = 0
  · have e0 := h1 h0
    subst e0
    rw [h0] at h
    have h' := h.keep hb0
    have hB := h.lt
    have c0 : (((w.alloc (.cells #[.pointer (some ⟨B, 0, none⟩)] 70)).alloc (.cells #[.int .i64 least] 3)).alloc (.cells #[.int .i64 most] 3)).cell? ⟨w.heap.size, 0, none⟩ = some (.pointer (some ⟨B, 0, none⟩)) := by simp [go_sem]
    have c1 : (((w.alloc (.cells #[.pointer (some ⟨B, 0, none⟩)] 70)).alloc (.cells #[.int .i64 least] 3)).alloc (.cells #[.int .i64 most] 3)).cell? ⟨w.heap.size + 1, 0, none⟩ = some (.int .i64 least) := by simp [go_sem]
    have c2 : (((w.alloc (.cells #[.pointer (some ⟨B, 0, none⟩)] 70)).alloc (.cells #[.int .i64 least] 3)).alloc (.cells #[.int .i64 most] 3)).cell? ⟨w.heap.size + 2, 0, none⟩ = some (.int .i64 most) := by simp [go_sem]
    have hg := get49_any B st.2 _ h' w.heap.size (w.heap.size + 1) (w.heap.size + 2) _ _ _ (fun w1 hb => step50 (h'.keep hb) least most (hb.cell c0) (hb.cell c1) (hb.cell c2))
    clear h1 h2
    go_enter Tryd.func68, Tryd.ntmps68
    go_wp2_with (go_at_call 81; refine hg.mono ?_; rintro e w' ⟨hb1, hs1, v, rfl, hv0, hv1⟩; have HG := Hid.mk hs1; have H0 := Hid.mk hv0; have H1 := Hid.mk hv1; clear hs1 hv0 hv1)
    go_ret
    exact GotS.ok h0 (hb0.wide.trans hb1) HG.out H0.out H1.out rfl intT_err
  · have hg := get49_err B st.1 bs _ (h.keep hb0) h0
    have hh : SQ w B st := ⟨bs, h, h1, h2⟩
    clear h1 h2
    go_enter Tryd.func68, Tryd.ntmps68
    go_wp2_with (go_at_call 81; refine (hg _).mono ?_; rintro e w' ⟨rfl, hb1⟩)
    go_ret
    exact GotS.no h0 (hb0.trans hb1) hh rfl

set_option maxHeartbeats 1000000 in
theorem none29 (p : Option Addr) (w : World) (h : NoS w p) (least : Int) (most : Int) :
    Calls Tryd.prog 68 #[.pointer p, .int .i64 least, .int .i64 most] w fun e w' => e = .returned (.int .i64 0) ∧ But [] w w' := by
  have hmf : ∀ (fn : Fn) (first cap : Array Value) (w : World), (Instr.makeFunc fn first cap).run Tryd.prog w = .ok (.func fn first cap) w := fun _ _ _ _ => rfl
  have hb0 : But [] w (((w.alloc (.cells #[.pointer p] 70)).alloc (.cells #[.int .i64 least] 3)).alloc (.cells #[.int .i64 most] 3)) := ((((But.refl [] w).alloc _).alloc _).alloc _)
  have hg := get49_none p _ (h.keep hb0)
  go_enter Tryd.func68, Tryd.ntmps68
  go_wp2_with (go_at_call 81; refine (hg _).mono ?_; rintro e w' ⟨rfl, hb1⟩)
  go_ret
  exact ⟨rfl, hb0.trans hb1⟩

set_option maxHeartbeats 1000000 in
theorem src34 (st : Nat × List UInt8) (w : World) (h : SQ w B st) :
    Calls Tryd.prog 65 #[.pointer (some ⟨B, 0, none⟩)] w fun e w' => GotS B w (fun (c : UInt8) v _ => v = .int .u8 (c.toNat : Int)) (byteT) 0 st e w' := by
  obtain ⟨bs, h, h1, h2⟩ := h
  have hmf : ∀ (fn : Fn) (first cap : Array Value) (w : World), (Instr.makeFunc fn first cap).run Tryd.prog w = .ok (.func fn first cap) w := fun _ _ _ _ => rfl
  have hb0 : But [] w w := (But.refl [] w)
  by_cases h0 : st.1 = 0
  · have e0 := h1 h0
    subst e0
    rw [h0] at h
    have h' := h.keep hb0
    have hg := get60_any B st.2 _ h' _ _ _ (fun w1 hb => byte_any B st.2 w1 (h'.keep hb))
    clear h1 h2
    go_enter Tryd.func65, Tryd.ntmps65
    go_wp2_with (go_at_call 79; refine hg.mono ?_; rintro e w' ⟨hb1, hs1, v, rfl, hv0, hv1⟩; have HG := Hid.mk hs1; have H0 := Hid.mk hv0; have H1 := Hid.mk hv1; clear hs1 hv0 hv1)
    go_ret
    exact GotS.ok h0 (hb0.wide.trans hb1) HG.out H0.out H1.out rfl byteT_err
  · have hg := get60_err B st.1 bs _ (h.keep hb0) h0
    have hh : SQ w B st := ⟨bs, h, h1, h2⟩
    clear h1 h2
    go_enter Tryd.func65, Tryd.ntmps65
    go_wp2_with (go_at_call 79; refine (hg _).mono ?_; rintro e w' ⟨rfl, hb1⟩)
    go_ret
    exact GotS.no h0 (hb0.trans hb1) hh rfl

set_option maxHeartbeats 1000000 in
theorem none34 (p : Option Addr) (w : World) (h : NoS w p) :
    Calls Tryd.prog 65 #[.pointer p] w fun e w' => e = .returned (.int .u8 0) ∧ But [] w w' := by
  have hmf : ∀ (fn : Fn) (first cap : Array Value) (w : World), (Instr.makeFunc fn first cap).run Tryd.prog w = .ok (.func fn first cap) w := fun _ _ _ _ => rfl
  have hb0 : But [] w w := (But.refl [] w)
  have hg := get60_none p _ (h.keep hb0)
  go_enter Tryd.func65, Tryd.ntmps65
  go_wp2_with (go_at_call 79; refine (hg _).mono ?_; rintro e w' ⟨rfl, hb1⟩)
  go_ret
  exact ⟨rfl, hb0.trans hb1⟩

end
end Go.Proofs.YteiidkojofaamaaDoor
