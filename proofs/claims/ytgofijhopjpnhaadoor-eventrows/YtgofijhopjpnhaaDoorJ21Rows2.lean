/- What is asked of a source: Err, Left, End. -/
/- The face: get, of each kind of value. -/
import Derived.Test.YtgofijhopjpnhaaDoorJ20Rows2
namespace Go.Proofs.YtgofijhopjpnhaaDoor
open Go.RowKit

/-- A source that no call made. -/
def NoS (w : World) (p : Option Addr) : Prop := p = none ∨ ∃ B, p = some ⟨B, 0, none⟩ ∧ w.cell? ⟨B, 0, none⟩ = some (.bool false)
theorem NoS.keep {w w' : World} {p : Option Addr} (h : NoS w p) (hb : But [] w w') : NoS w' p := by
  rcases h with h | ⟨B, e, h⟩
  · exact .inl h
  · exact .inr ⟨B, e, hb.cell h⟩

section
variable {w : World} {B x : Nat} {bs : List UInt8}
theorem SR.c0 (h : SR w B x bs) : w.cell? ⟨B, 0, none⟩ = some (.bool true) := by
  obtain ⟨a, c, h, _⟩ := h
  simp [World.cell?, h]
theorem SR.c1 (h : SR w B x bs) : ∃ a c, w.cell? ⟨B, 1, none⟩ = some (.slice a bs.length c) ∧ Byts w B a c bs := by
  obtain ⟨a, c, h, k⟩ := h
  exact ⟨a, c, by simp [World.cell?, h], k⟩
theorem SR.c2 (h : SR w B x bs) : w.cell? ⟨B, 2, none⟩ = some (.int .i64 (x : Int)) := by
  obtain ⟨a, c, h, _⟩ := h
  simp [World.cell?, h]
theorem SR.fz (h : SR w B x bs) (j : Nat) : w.frozen? ⟨B, j, none⟩ = false := by
  obtain ⟨a, c, h, _⟩ := h
  simp [World.frozen?, h]
theorem SR.fail (h : SR w B x bs) (y : Nat) : SR (w.setCell ⟨B, 2, none⟩ (.int .i64 (y : Int))) B y bs := by
  obtain ⟨a, c, h, k⟩ := h
  refine ⟨a, c, heap_setCell_same w B 2 _ 82 _ h, k.but (S := [B]) ((But.refl [B] w).set (by simp) _) (by simp)⟩
end

set_option maxHeartbeats 400000 in
theorem err_any (B x : Nat) (bs : List UInt8) (w : World) (h : SR w B x bs) :
    Calls Tryd.prog 22 #[.pointer (some ⟨B, 0, none⟩)] w fun e w' => e = .returned (.int .i64 (x : Int)) ∧ w' = w := by
  have h0 := h.c0
  have h2 := h.c2
  go_enter Tryd.func22, Tryd.ntmps22
  go_wp2
  go_ret
  exact ⟨rfl, rfl⟩

set_option maxHeartbeats 400000 in
theorem err_none (p : Option Addr) (w : World) (h : NoS w p) :
    Calls Tryd.prog 22 #[.pointer p] w fun e w' => e = .returned (.int .i64 1) ∧ w' = w := by
  rcases h with rfl | ⟨B, rfl, h⟩
  all_goals
    go_enter Tryd.func22, Tryd.ntmps22
    go_wp2
    go_ret
    exact ⟨rfl, rfl⟩

set_option maxHeartbeats 400000 in
theorem left_any (B : Nat) (st : Nat × List UInt8) (w : World) (h : SQ w B st) :
    Calls Tryd.prog 23 #[.pointer (some ⟨B, 0, none⟩)] w fun e w' => e = .returned (.int .i64 (st.2.length : Int)) ∧ w' = w := by
  obtain ⟨x, t⟩ := st
  obtain ⟨bs, h, h1, h2⟩ := h
  have hc := err_any B _ _ w h
  by_cases h0 : x = 0
  · subst h0
    have e := h1 rfl
    subst e
    clear h1 h2
    obtain ⟨a, c, hc1, hy⟩ := h.c1
    go_enter Tryd.func23, Tryd.ntmps23
    go_wp2_with (go_at_call 22; refine hc.mono ?_; rintro e w' ⟨rfl, rfl⟩)
    go_ret
    exact ⟨rfl, rfl⟩
  · have e := h2 h0
    simp only at e
    subst e
    have k : ¬ (x : Int) = 0 := by omega
    clear h1 h2 h0
    go_enter Tryd.func23, Tryd.ntmps23
    go_wp2_with (go_at_call 22; refine hc.mono ?_; rintro e w' ⟨rfl, rfl⟩)
    go_ret
    exact ⟨rfl, rfl⟩

set_option maxHeartbeats 400000 in
theorem left_none (p : Option Addr) (w : World) (h : NoS w p) :
    Calls Tryd.prog 23 #[.pointer p] w fun e w' => e = .returned (.int .i64 0) ∧ w' = w := by
  have hc := err_none p w h
  go_enter Tryd.func23, Tryd.ntmps23
  go_wp2_with (go_at_call 22; refine hc.mono ?_; rintro e w' ⟨rfl, rfl⟩)
  go_ret
  exact ⟨rfl, rfl⟩

/-- What End tells. -/
def endN (st : Nat × List UInt8) : Nat := if st.1 = 0 ∧ st.2 ≠ [] then 10 else st.1

set_option maxHeartbeats 400000 in
theorem end_any (B : Nat) (st : Nat × List UInt8) (w : World) (h : SQ w B st) :
    Calls Tryd.prog 28 #[.pointer (some ⟨B, 0, none⟩)] w fun e w' => e = .returned (.int .i64 (endN st : Int)) ∧ w' = w := by
  have hl := left_any B st w h
  obtain ⟨x, t⟩ := st
  obtain ⟨bs, h, h1, h2⟩ := h
  have hc := err_any B _ _ w h
  simp only at h1 h2 hc hl
  by_cases h0 : 0 < t.length
  · have hx : x = 0 := Classical.byContradiction (fun e => by have := h2 e; simp [this] at h0)
    have e : endN (x, t) = 10 := by
      have : t ≠ [] := fun e => by simp [e] at h0
      simp [endN, hx, this]
    rw [e]
    have k : (0 : Int) < t.length := by omega
    clear h1 h2 h0 hx e
    go_enter Tryd.func28, Tryd.ntmps28
    go_wp2_with (first | (go_at_call 23; refine hl.mono ?_; rintro e w' ⟨rfl, rfl⟩) | (go_at_call 22; refine hc.mono ?_; rintro e w' ⟨rfl, rfl⟩))
    go_ret
    exact ⟨rfl, rfl⟩
  · have e0 : t = [] := List.eq_nil_of_length_eq_zero (by omega)
    subst e0
    have e : endN (x, []) = x := by simp [endN]
    rw [e]
    clear h1 h2 h0 e
    go_enter Tryd.func28, Tryd.ntmps28
    go_wp2_with (first | (go_at_call 23; refine hl.mono ?_; rintro e w' ⟨rfl, rfl⟩) | (go_at_call 22; refine hc.mono ?_; rintro e w' ⟨rfl, rfl⟩))
    go_ret
    exact ⟨rfl, rfl⟩

set_option maxHeartbeats 400000 in
theorem end_none (p : Option Addr) (w : World) (h : NoS w p) :
    Calls Tryd.prog 28 #[.pointer p] w fun e w' => e = .returned (.int .i64 1) ∧ w' = w := by
  have hc := err_none p w h
  have hl := left_none p w h
  go_enter Tryd.func28, Tryd.ntmps28
  go_wp2_with (first | (go_at_call 23; refine hl.mono ?_; rintro e w' ⟨rfl, rfl⟩) | (go_at_call 22; refine hc.mono ?_; rintro e w' ⟨rfl, rfl⟩))
  go_ret
  exact ⟨rfl, rfl⟩

end Go.Proofs.YtgofijhopjpnhaaDoor
namespace Go.Proofs.YtgofijhopjpnhaaDoor
open Go.RowKit

/-- What a step tells, its value by what it must be. -/
def ToldV (B : Nat) (w w' : World) (e : Ending) (V : Value → World → Prop) (x : Nat) (t : List UInt8) : Prop :=
  But [B] w w' ∧ ((x = 0 ∧ ∃ v, e = .returned v ∧ V v w' ∧ SR w' B 0 t) ∨ (x ≠ 0 ∧ e = .panicked [flt x] ∧ ∃ t', SR w' B 0 t'))
theorem Told.v {B : Nat} {w w' : World} {e : Ending} {v : Value} {x : Nat} {t : List UInt8} (h : Told B w w' e v x t) : ToldV B w w' e (fun u _ => u = v) x t :=
  ⟨h.1, h.2.imp (fun ⟨a, b, c⟩ => ⟨a, v, b, rfl, c⟩) id⟩

/-- What the face tells. -/
def Got (B : Nat) (w : World) (V : Value → World → Prop) (Z : Value) (x : Nat) (t : List UInt8) (e : Ending) (w' : World) : Prop :=
  But [B] w w' ∧ SQ w' B (x, if x = 0 then t else []) ∧ ∃ v, e = .returned v ∧ (x = 0 → V v w') ∧ (x ≠ 0 → v = Z)
section
variable {B : Nat} {w w' : World} {V : Value → World → Prop} {Z v : Value} {x : Nat} {t t1 : List UInt8}
theorem Got.ok (hb : But [B] w w') (hx : x = 0) (hs : SR w' B 0 t) (hv : V v w') : Got B w V Z x t (.returned v) w' := by
  subst hx
  exact ⟨hb, ⟨t, hs, fun _ => rfl, fun e => absurd rfl e⟩, v, rfl, fun _ => hv, fun e => absurd rfl e⟩
theorem Got.no (hb : But [B] w w') (hx : x ≠ 0) (hs : SR w' B x t1) : Got B w V Z x t (.returned Z) w' :=
  ⟨hb, ⟨t1, hs, fun e => absurd e hx, fun _ => by simp [hx]⟩, Z, rfl, fun e => absurd e hx, fun _ => rfl⟩
end

set_option maxHeartbeats 1000000 in
theorem get46_any (B : Nat) (bs : List UInt8) (w : World) (h : SR w B 0 bs) (b0 b1 : Nat) (V : Value → World → Prop) (x : Nat) (t : List UInt8)
    (hcall : ∀ w1, But [] w w1 → Calls Tryd.prog 57 #[.pointer (some ⟨b0, 0, none⟩), .pointer (some ⟨b1, 0, none⟩)] w1 fun e w' => ToldV B w1 w' e V x t) :
    Calls Tryd.prog 56 #[.pointer (some ⟨B, 0, none⟩), .func (.func 57) #[] #[.pointer (some ⟨b0, 0, none⟩), .pointer (some ⟨b1, 0, none⟩)]] w fun e w' => Got B w V (.int .u64 0) x t e w' := by
  have hmf : ∀ (fn : Fn) (first cap : Array Value) (w : World), (Instr.makeFunc fn first cap).run Tryd.prog w = .ok (.func fn first cap) w := fun _ _ _ _ => rfl
  have hb0 : But [] w (w.alloc (.cells #[.pointer (some ⟨B, 0, none⟩)] 50)) := (But.refl [] w).alloc _
  have hc := hcall _ hb0
  have he := err_any B 0 bs _ (h.keep hb0)
  have hbox : (w.alloc (.cells #[.pointer (some ⟨B, 0, none⟩)] 50)).cell? ⟨w.heap.size, 0, none⟩ = some (.pointer (some ⟨B, 0, none⟩)) := by simp [go_sem]
  have hB := h.lt
  go_enter_defers Tryd.func56, Tryd.ntmps56
  go_wp2_with (first | (go_at_call 22; refine he.mono ?_; rintro e w' ⟨rfl, rfl⟩) | (go_at_call 57; refine hc.mono ?_; rintro e w' ⟨hb1, ⟨hx, v, rfl, hv, hs1⟩ | ⟨hx, rfl, t1, hs1⟩⟩))
  · refine leaves_cons (f := 70) (args := #[.pointer (some ⟨w.heap.size, 0, none⟩)]) (by simp) (by simp [go_sem]) ?_
    refine (idle65 ⟨w.heap.size, 0, none⟩ _).mono ?_
    rintro e u' w'' ⟨rfl, rfl, rfl⟩
    exact ⟨v, by simp [results, Tryd.results56, go_sem], Got.ok (hb0.wide.trans hb1) hx hs1 hv⟩
  · refine leaves_cons (f := 70) (args := #[.pointer (some ⟨w.heap.size, 0, none⟩)]) (by simp) (by simp [go_sem]) ?_
    refine (take65 ⟨w.heap.size, 0, none⟩ B x _ _ (hb1.cell' hbox (by simp; omega)) hs1.c2 (hs1.fz 2)).mono ?_
    rintro e u' w'' ⟨rfl, rfl, rfl⟩
    exact ⟨(.int .u64 0), by simp [results, Tryd.results56, go_sem], Got.no ((hb0.wide.trans hb1).set (by simp) _) hx (hs1.fail x)⟩

set_option maxHeartbeats 1000000 in
theorem get46_err (B x : Nat) (bs : List UInt8) (w : World) (h : SR w B x bs) (hx : x ≠ 0) (fv : Value) :
    Calls Tryd.prog 56 #[.pointer (some ⟨B, 0, none⟩), fv] w fun e w' => e = .returned (.int .u64 0) ∧ But [] w w' := by
  have hb0 : But [] w (w.alloc (.cells #[.pointer (some ⟨B, 0, none⟩)] 50)) := (But.refl [] w).alloc _
  have he := err_any B x bs _ (h.keep hb0)
  have k : ¬ (x : Int) = 0 := by omega
  go_enter_defers Tryd.func56, Tryd.ntmps56
  go_wp2_with (first | (go_at_call 22; refine he.mono ?_; rintro e w' ⟨rfl, rfl⟩))
  exact ⟨(.int .u64 0), by simp [results, Tryd.results56, go_sem], rfl, hb0⟩

set_option maxHeartbeats 1000000 in
theorem get46_none (p : Option Addr) (w : World) (h : NoS w p) (fv : Value) :
    Calls Tryd.prog 56 #[.pointer p, fv] w fun e w' => e = .returned (.int .u64 0) ∧ But [] w w' := by
  have hb0 : But [] w (w.alloc (.cells #[.pointer p] 50)) := (But.refl [] w).alloc _
  have he := err_none p _ (h.keep hb0)
  go_enter_defers Tryd.func56, Tryd.ntmps56
  go_wp2_with (first | (go_at_call 22; refine he.mono ?_; rintro e w' ⟨rfl, rfl⟩))
  exact ⟨(.int .u64 0), by simp [results, Tryd.results56, go_sem], rfl, hb0⟩

set_option maxHeartbeats 1000000 in
theorem get49_any (B : Nat) (bs : List UInt8) (w : World) (h : SR w B 0 bs) (b0 b1 b2 : Nat) (V : Value → World → Prop) (x : Nat) (t : List UInt8)
    (hcall : ∀ w1, But [] w w1 → Calls Tryd.prog 68 #[.pointer (some ⟨b0, 0, none⟩), .pointer (some ⟨b1, 0, none⟩), .pointer (some ⟨b2, 0, none⟩)] w1 fun e w' => ToldV B w1 w' e V x t) :
    Calls Tryd.prog 67 #[.pointer (some ⟨B, 0, none⟩), .func (.func 68) #[] #[.pointer (some ⟨b0, 0, none⟩), .pointer (some ⟨b1, 0, none⟩), .pointer (some ⟨b2, 0, none⟩)]] w fun e w' => Got B w V (.int .i64 0) x t e w' := by
  have hmf : ∀ (fn : Fn) (first cap : Array Value) (w : World), (Instr.makeFunc fn first cap).run Tryd.prog w = .ok (.func fn first cap) w := fun _ _ _ _ => rfl
  have hb0 : But [] w (w.alloc (.cells #[.pointer (some ⟨B, 0, none⟩)] 50)) := (But.refl [] w).alloc _
  have hc := hcall _ hb0
  have he := err_any B 0 bs _ (h.keep hb0)
  have hbox : (w.alloc (.cells #[.pointer (some ⟨B, 0, none⟩)] 50)).cell? ⟨w.heap.size, 0, none⟩ = some (.pointer (some ⟨B, 0, none⟩)) := by simp [go_sem]
  have hB := h.lt
  go_enter_defers Tryd.func67, Tryd.ntmps67
  go_wp2_with (first | (go_at_call 22; refine he.mono ?_; rintro e w' ⟨rfl, rfl⟩) | (go_at_call 68; refine hc.mono ?_; rintro e w' ⟨hb1, ⟨hx, v, rfl, hv, hs1⟩ | ⟨hx, rfl, t1, hs1⟩⟩))
  · refine leaves_cons (f := 76) (args := #[.pointer (some ⟨w.heap.size, 0, none⟩)]) (by simp) (by simp [go_sem]) ?_
    refine (idle67 ⟨w.heap.size, 0, none⟩ _).mono ?_
    rintro e u' w'' ⟨rfl, rfl, rfl⟩
    exact ⟨v, by simp [results, Tryd.results67, go_sem], Got.ok (hb0.wide.trans hb1) hx hs1 hv⟩
  · refine leaves_cons (f := 76) (args := #[.pointer (some ⟨w.heap.size, 0, none⟩)]) (by simp) (by simp [go_sem]) ?_
    refine (take67 ⟨w.heap.size, 0, none⟩ B x _ _ (hb1.cell' hbox (by simp; omega)) hs1.c2 (hs1.fz 2)).mono ?_
    rintro e u' w'' ⟨rfl, rfl, rfl⟩
    exact ⟨(.int .i64 0), by simp [results, Tryd.results67, go_sem], Got.no ((hb0.wide.trans hb1).set (by simp) _) hx (hs1.fail x)⟩

set_option maxHeartbeats 1000000 in
theorem get49_err (B x : Nat) (bs : List UInt8) (w : World) (h : SR w B x bs) (hx : x ≠ 0) (fv : Value) :
    Calls Tryd.prog 67 #[.pointer (some ⟨B, 0, none⟩), fv] w fun e w' => e = .returned (.int .i64 0) ∧ But [] w w' := by
  have hb0 : But [] w (w.alloc (.cells #[.pointer (some ⟨B, 0, none⟩)] 50)) := (But.refl [] w).alloc _
  have he := err_any B x bs _ (h.keep hb0)
  have k : ¬ (x : Int) = 0 := by omega
  go_enter_defers Tryd.func67, Tryd.ntmps67
  go_wp2_with (first | (go_at_call 22; refine he.mono ?_; rintro e w' ⟨rfl, rfl⟩))
  exact ⟨(.int .i64 0), by simp [results, Tryd.results67, go_sem], rfl, hb0⟩

set_option maxHeartbeats 1000000 in
theorem get49_none (p : Option Addr) (w : World) (h : NoS w p) (fv : Value) :
    Calls Tryd.prog 67 #[.pointer p, fv] w fun e w' => e = .returned (.int .i64 0) ∧ But [] w w' := by
  have hb0 : But [] w (w.alloc (.cells #[.pointer p] 50)) := (But.refl [] w).alloc _
  have he := err_none p _ (h.keep hb0)
  go_enter_defers Tryd.func67, Tryd.ntmps67
  go_wp2_with (first | (go_at_call 22; refine he.mono ?_; rintro e w' ⟨rfl, rfl⟩))
  exact ⟨(.int .i64 0), by simp [results, Tryd.results67, go_sem], rfl, hb0⟩

set_option maxHeartbeats 1000000 in
theorem get60_any (B : Nat) (bs : List UInt8) (w : World) (h : SR w B 0 bs) (V : Value → World → Prop) (x : Nat) (t : List UInt8)
    (hcall : ∀ w1, But [] w w1 → Calls Tryd.prog 66 #[.pointer (some ⟨B, 0, none⟩)] w1 fun e w' => ToldV B w1 w' e V x t) :
    Calls Tryd.prog 65 #[.pointer (some ⟨B, 0, none⟩), .func (.func 66) #[.pointer (some ⟨B, 0, none⟩)] #[]] w fun e w' => Got B w V (.int .u8 0) x t e w' := by
  have hmf : ∀ (fn : Fn) (first cap : Array Value) (w : World), (Instr.makeFunc fn first cap).run Tryd.prog w = .ok (.func fn first cap) w := fun _ _ _ _ => rfl
  have hb0 : But [] w (w.alloc (.cells #[.pointer (some ⟨B, 0, none⟩)] 50)) := (But.refl [] w).alloc _
  have hc := hcall _ hb0
  have he := err_any B 0 bs _ (h.keep hb0)
  have hbox : (w.alloc (.cells #[.pointer (some ⟨B, 0, none⟩)] 50)).cell? ⟨w.heap.size, 0, none⟩ = some (.pointer (some ⟨B, 0, none⟩)) := by simp [go_sem]
  have hB := h.lt
  go_enter_defers Tryd.func65, Tryd.ntmps65
  go_wp2_with (first | (go_at_call 22; refine he.mono ?_; rintro e w' ⟨rfl, rfl⟩) | (go_at_call 66; refine hc.mono ?_; rintro e w' ⟨hb1, ⟨hx, v, rfl, hv, hs1⟩ | ⟨hx, rfl, t1, hs1⟩⟩))
  · refine leaves_cons (f := 74) (args := #[.pointer (some ⟨w.heap.size, 0, none⟩)]) (by simp) (by simp [go_sem]) ?_
    refine (idle71 ⟨w.heap.size, 0, none⟩ _).mono ?_
    rintro e u' w'' ⟨rfl, rfl, rfl⟩
    exact ⟨v, by simp [results, Tryd.results65, go_sem], Got.ok (hb0.wide.trans hb1) hx hs1 hv⟩
  · refine leaves_cons (f := 74) (args := #[.pointer (some ⟨w.heap.size, 0, none⟩)]) (by simp) (by simp [go_sem]) ?_
    refine (take71 ⟨w.heap.size, 0, none⟩ B x _ _ (hb1.cell' hbox (by simp; omega)) hs1.c2 (hs1.fz 2)).mono ?_
    rintro e u' w'' ⟨rfl, rfl, rfl⟩
    exact ⟨(.int .u8 0), by simp [results, Tryd.results65, go_sem], Got.no ((hb0.wide.trans hb1).set (by simp) _) hx (hs1.fail x)⟩

set_option maxHeartbeats 1000000 in
theorem get60_err (B x : Nat) (bs : List UInt8) (w : World) (h : SR w B x bs) (hx : x ≠ 0) (fv : Value) :
    Calls Tryd.prog 65 #[.pointer (some ⟨B, 0, none⟩), fv] w fun e w' => e = .returned (.int .u8 0) ∧ But [] w w' := by
  have hb0 : But [] w (w.alloc (.cells #[.pointer (some ⟨B, 0, none⟩)] 50)) := (But.refl [] w).alloc _
  have he := err_any B x bs _ (h.keep hb0)
  have k : ¬ (x : Int) = 0 := by omega
  go_enter_defers Tryd.func65, Tryd.ntmps65
  go_wp2_with (first | (go_at_call 22; refine he.mono ?_; rintro e w' ⟨rfl, rfl⟩))
  exact ⟨(.int .u8 0), by simp [results, Tryd.results65, go_sem], rfl, hb0⟩

set_option maxHeartbeats 1000000 in
theorem get60_none (p : Option Addr) (w : World) (h : NoS w p) (fv : Value) :
    Calls Tryd.prog 65 #[.pointer p, fv] w fun e w' => e = .returned (.int .u8 0) ∧ But [] w w' := by
  have hb0 : But [] w (w.alloc (.cells #[.pointer p] 50)) := (But.refl [] w).alloc _
  have he := err_none p _ (h.keep hb0)
  go_enter_defers Tryd.func65, Tryd.ntmps65
  go_wp2_with (first | (go_at_call 22; refine he.mono ?_; rintro e w' ⟨rfl, rfl⟩))
  exact ⟨(.int .u8 0), by simp [results, Tryd.results65, go_sem], rfl, hb0⟩

end Go.Proofs.YtgofijhopjpnhaaDoor
