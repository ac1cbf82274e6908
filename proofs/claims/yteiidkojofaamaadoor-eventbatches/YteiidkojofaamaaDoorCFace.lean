/- The face: get, of each kind of value. -/
import Derived.Test.YteiidkojofaamaaDoorCAsk
namespace Go.Proofs.YteiidkojofaamaaDoor
open Go.RowKit

/-- What a step tells, its value by what it must be. -/
def ToldV (B : Nat) (w w' : World) (e : Ending) (V : Value → World → Prop) (x : Nat) (t : List UInt8) : Prop :=
  But [B] w w' ∧ ((x = 0 ∧ ∃ v, e = .returned v ∧ V v w' ∧ SR w' B 0 t) ∨ (x ≠ 0 ∧ e = .panicked [flt x] ∧ ∃ t', SR w' B 0 t'))
theorem Told.v {B : Nat} {w w' : World} {e : Ending} {v : Value} {x : Nat} {t : List UInt8} (h : Told B w w' e v x t) : ToldV B w w' e (fun u _ => u = v) x t :=
  ⟨h.1, h.2.imp (fun ⟨a, b, c⟩ => ⟨a, v, b, rfl, c⟩) id⟩

/-- What the face tells. -/
def Got (B : Nat) (w : World) (V : Value → World → Prop) (Z : Value) (x : Nat) (t : List UInt8) (e : Ending) (w' : World) : Prop :=
  But [B] w w' ∧ SQ w' B (x, if x = 0 then t else []) ∧ ∃ v, e = .returned v ∧ (x = 0 → V v w') ∧ (x ≠ 0 → v = Z)
section
variable {B : Nat} {w w' : World} {V : Value → World → Prop} {Z v : Value} {x : Nat} {t t1 : List UInt8}
theorem Got.ok (hb : But [B] w w') (hx : x = 0) (hs : SR w' B 0 t) (hv : V v w') : Got B w V Z x t (.returned v) w' := by
  subst hx
  exact ⟨hb, ⟨t, hs, fun _ => rfl, fun e => absurd rfl e⟩, v, rfl, fun _ => hv, fun e => absurd rfl e⟩
theorem Got.no (hb : But [B] w w') (hx : x ≠ 0) (hs : SR w' B x t1) : Got B w V Z x t (.returned Z) w' :=
  ⟨hb, ⟨t1, hs, fun e => absurd e hx, fun _ => by simp [hx]⟩, Z, rfl, fun e => absurd e hx, fun _ => rfl⟩
end

set_option maxHeartbeats 1000000 in
theorem get46_any (B : Nat) (bs : List UInt8) (w : World) (h : SR w B 0 bs) (b0 b1 : Nat) (V : Value → World → Prop) (x : Nat) (t : List UInt8)
    (hcall : ∀ w1, But [] w w1 → Calls Tryd.prog 72 #[.pointer (some ⟨b0, 0, none⟩), .pointer (some ⟨b1, 0, none⟩)] w1 fun e w' => ToldV B w1 w' e V x t) :
    Calls Tryd.prog 71 #[.pointer (some ⟨B, 0, none⟩), .func (.func 72) #[] #[.pointer (some ⟨b0, 0, none⟩), .pointer (some ⟨b1, 0, none⟩)]] w fun e w' => Got B w V (.int .u64 0) x t e w' := by
  have hmf : ∀ (fn : Fn) (first cap : Array Value) (w : World), (Instr.makeFunc fn first cap).run Tryd.prog w = .ok (.func fn first cap) w := fun _ _ _ _ => rfl
  have hb0 : But [] w (w.alloc (.cells #[.pointer (some ⟨B, 0, none⟩)] 70)) := (But.refl [] w).alloc _
  have hc := hcall _ hb0
  have he := err_any B 0 bs _ (h.keep hb0)
  have hbox : (w.alloc (.cells #[.pointer (some ⟨B, 0, none⟩)] 70)).cell? ⟨w.heap.size, 0, none⟩ = some (.pointer (some ⟨B, 0, none⟩)) := by simp [go_sem]
  have hB := h.lt
  go_enter_defers Tryd.func71, Tryd.ntmps71
  go_wp2_with (first | (go_at_call 47; refine he.mono ?_; rintro e w' ⟨rfl, rfl⟩) | (go_at_call 72; refine hc.mono ?_; rintro e w' ⟨hb1, ⟨hx, v, rfl, hv, hs1⟩ | ⟨hx, rfl, t1, hs1⟩⟩))
  · refine leaves_cons (f := 84) (args := #[.pointer (some ⟨w.heap.size, 0, none⟩)]) (by simp) (by simp [go_sem]) ?_
    refine (idle65 ⟨w.heap.size, 0, none⟩ _).mono ?_
    rintro e u' w'' ⟨rfl, rfl, rfl⟩
    exact ⟨v, by simp [results, Tryd.results71, go_sem], Got.ok (hb0.wide.trans hb1) hx hs1 hv⟩
  · refine leaves_cons (f := 84) (args := #[.pointer (some ⟨w.heap.size, 0, none⟩)]) (by simp) (by simp [go_sem]) ?_
    refine (take65 ⟨w.heap.size, 0, none⟩ B x _ _ (hb1.cell' hbox (by simp; omega)) hs1.c2 (hs1.fz 2)).mono ?_
    rintro e u' w'' ⟨rfl, rfl, rfl⟩
    exact ⟨(.int .u64 0), by simp [results, Tryd.results71, go_sem], Got.no ((hb0.wide.trans hb1).set (by simp) _) hx (hs1.fail x)⟩

set_option maxHeartbeats 1000000 in
theorem get46_err (B x : Nat) (bs : List UInt8) (w : World) (h : SR w B x bs) (hx : x ≠ 0) (fv : Value) :
    Calls Tryd.prog 71 #[.pointer (some ⟨B, 0, none⟩), fv] w fun e w' => e = .returned (.int .u64 0) ∧ But [] w w' := by
  have hb0 : But [] w (w.alloc (.cells #[.pointer (some ⟨B, 0, none⟩)] 70)) := (But.refl [] w).alloc _
  have he := err_any B x bs _ (h.keep hb0)
  have k : ¬ (x : Int) = 0 := by omega
  go_enter_defers Tryd.func71, Tryd.ntmps71
  go_wp2_with (first | (go_at_call 47; refine he.mono ?_; rintro e w' ⟨rfl, rfl⟩))
  exact ⟨(.int .u64 0), by simp [results, Tryd.results71, go_sem], rfl, hb0⟩

set_option maxHeartbeats 1000000 in
theorem get46_none (p : Option Addr) (w : World) (h : NoS w p) (fv : Value) :
    Calls Tryd.prog 71 #[.pointer p, fv] w fun e w' => e = .returned (.int .u64 0) ∧ But [] w w' := by
  have hb0 : But [] w (w.alloc (.cells #[.pointer p] 70)) := (But.refl [] w).alloc _
  have he := err_none p _ (h.keep hb0)
  go_enter_defers Tryd.func71, Tryd.ntmps71
  go_wp2_with (first | (go_at_call 47; refine he.mono ?_; rintro e w' ⟨rfl, rfl⟩))
  exact ⟨(.int .u64 0), by simp [results, Tryd.results71, go_sem], rfl, hb0⟩

set_option maxHeartbeats 1000000 in
theorem get49_any (B : Nat) (bs : List UInt8) (w : World) (h : SR w B 0 bs) (b0 b1 b2 : Nat) (V : Value → World → Prop) (x : Nat) (t : List UInt8)
    (hcall : ∀ w1, But [] w w1 → Calls Tryd.prog 82 #[.pointer (some ⟨b0, 0, none⟩), .pointer (some ⟨b1, 0, none⟩), .pointer (some ⟨b2, 0, none⟩)] w1 fun e w' => ToldV B w1 w' e V x t) :
    Calls Tryd.prog 81 #[.pointer (some ⟨B, 0, none⟩), .func (.func 82) #[] #[.pointer (some ⟨b0, 0, none⟩), .pointer (some ⟨b1, 0, none⟩), .pointer (some ⟨b2, 0, none⟩)]] w fun e w' => Got B w V (.int .i64 0) x t e w' := by
  have hmf : ∀ (fn : Fn) (first cap : Array Value) (w : World), (Instr.makeFunc fn first cap).run Tryd.prog w = .ok (.func fn first cap) w := fun _ _ _ _ => rfl
  have hb0 : But [] w (w.alloc (.cells #[.pointer (some ⟨B, 0, none⟩)] 70)) := (But.refl [] w).alloc _
  have hc := hcall _ hb0
  have he := err_any B 0 bs _ (h.keep hb0)
  have hbox : (w.alloc (.cells #[.pointer (some ⟨B, 0, none⟩)] 70)).cell? ⟨w.heap.size, 0, none⟩ = some (.pointer (some ⟨B, 0, none⟩)) := by simp [go_sem]
  have hB := h.lt
  go_enter_defers Tryd.func81, Tryd.ntmps81
  go_wp2_with (first | (go_at_call 47; refine he.mono ?_; rintro e w' ⟨rfl, rfl⟩) | (go_at_call 82; refine hc.mono ?_; rintro e w' ⟨hb1, ⟨hx, v, rfl, hv, hs1⟩ | ⟨hx, rfl, t1, hs1⟩⟩))
  · refine leaves_cons (f := 92) (args := #[.pointer (some ⟨w.heap.size, 0, none⟩)]) (by simp) (by simp [go_sem]) ?_
    refine (idle67 ⟨w.heap.size, 0, none⟩ _).mono ?_
    rintro e u' w'' ⟨rfl, rfl, rfl⟩
    exact ⟨v, by simp [results, Tryd.results81, go_sem], Got.ok (hb0.wide.trans hb1) hx hs1 hv⟩
  · refine leaves_cons (f := 92) (args := #[.pointer (some ⟨w.heap.size, 0, none⟩)]) (by simp) (by simp [go_sem]) ?_
    refine (take67 ⟨w.heap.size, 0, none⟩ B x _ _ (hb1.cell' hbox (by simp; omega)) hs1.c2 (hs1.fz 2)).mono ?_
    rintro e u' w'' ⟨rfl, rfl, rfl⟩
    exact ⟨(.int .i64 0), by simp [results, Tryd.results81, go_sem], Got.no ((hb0.wide.trans hb1).set (by simp) _) hx (hs1.fail x)⟩

set_option maxHeartbeats 1000000 in
theorem get49_err (B x : Nat) (bs : List UInt8) (w : World) (h : SR w B x bs) (hx : x ≠ 0) (fv : Value) :
    Calls Tryd.prog 81 #[.pointer (some ⟨B, 0, none⟩), fv] w fun e w' => e = .returned (.int .i64 0) ∧ But [] w w' := by
  have hb0 : But [] w (w.alloc (.cells #[.pointer (some ⟨B, 0, none⟩)] 70)) := (But.refl [] w).alloc _
  have he := err_any B x bs _ (h.keep hb0)
  have k : ¬ (x : Int) = 0 := by omega
  go_enter_defers Tryd.func81, Tryd.ntmps81
  go_wp2_with (first | (go_at_call 47; refine he.mono ?_; rintro e w' ⟨rfl, rfl⟩))
  exact ⟨(.int .i64 0), by simp [results, Tryd.results81, go_sem], rfl, hb0⟩

set_option maxHeartbeats 1000000 in
theorem get49_none (p : Option Addr) (w : World) (h : NoS w p) (fv : Value) :
    Calls Tryd.prog 81 #[.pointer p, fv] w fun e w' => e = .returned (.int .i64 0) ∧ But [] w w' := by
  have hb0 : But [] w (w.alloc (.cells #[.pointer p] 70)) := (But.refl [] w).alloc _
  have he := err_none p _ (h.keep hb0)
  go_enter_defers Tryd.func81, Tryd.ntmps81
  go_wp2_with (first | (go_at_call 47; refine he.mono ?_; rintro e w' ⟨rfl, rfl⟩))
  exact ⟨(.int .i64 0), by simp [results, Tryd.results81, go_sem], rfl, hb0⟩

set_option maxHeartbeats 1000000 in
theorem get60_any (B : Nat) (bs : List UInt8) (w : World) (h : SR w B 0 bs) (V : Value → World → Prop) (x : Nat) (t : List UInt8)
    (hcall : ∀ w1, But [] w w1 → Calls Tryd.prog 80 #[.pointer (some ⟨B, 0, none⟩)] w1 fun e w' => ToldV B w1 w' e V x t) :
    Calls Tryd.prog 79 #[.pointer (some ⟨B, 0, none⟩), .func (.func 80) #[.pointer (some ⟨B, 0, none⟩)] #[]] w fun e w' => Got B w V (.int .u8 0) x t e w' := by
  have hmf : ∀ (fn : Fn) (first cap : Array Value) (w : World), (Instr.makeFunc fn first cap).run Tryd.prog w = .ok (.func fn first cap) w := fun _ _ _ _ => rfl
  have hb0 : But [] w (w.alloc (.cells #[.pointer (some ⟨B, 0, none⟩)] 70)) := (But.refl [] w).alloc _
  have hc := hcall _ hb0
  have he := err_any B 0 bs _ (h.keep hb0)
  have hbox : (w.alloc (.cells #[.pointer (some ⟨B, 0, none⟩)] 70)).cell? ⟨w.heap.size, 0, none⟩ = some (.pointer (some ⟨B, 0, none⟩)) := by simp [go_sem]
  have hB := h.lt
  go_enter_defers Tryd.func79, Tryd.ntmps79
  go_wp2_with (first | (go_at_call 47; refine he.mono ?_; rintro e w' ⟨rfl, rfl⟩) | (go_at_call 80; refine hc.mono ?_; rintro e w' ⟨hb1, ⟨hx, v, rfl, hv, hs1⟩ | ⟨hx, rfl, t1, hs1⟩⟩))
  · refine leaves_cons (f := 90) (args := #[.pointer (some ⟨w.heap.size, 0, none⟩)]) (by simp) (by simp [go_sem]) ?_
    refine (idle71 ⟨w.heap.size, 0, none⟩ _).mono ?_
    rintro e u' w'' ⟨rfl, rfl, rfl⟩
    exact ⟨v, by simp [results, Tryd.results79, go_sem], Got.ok (hb0.wide.trans hb1) hx hs1 hv⟩
  · refine leaves_cons (f := 90) (args := #[.pointer (some ⟨w.heap.size, 0, none⟩)]) (by simp) (by simp [go_sem]) ?_
    refine (take71 ⟨w.heap.size, 0, none⟩ B x _ _ (hb1.cell' hbox (by simp; omega)) hs1.c2 (hs1.fz 2)).mono ?_
    rintro e u' w'' ⟨rfl, rfl, rfl⟩
    exact ⟨(.int .u8 0), by simp [results, Tryd.results79, go_sem], Got.no ((hb0.wide.trans hb1).set (by simp) _) hx (hs1.fail x)⟩

set_option maxHeartbeats 1000000 in
theorem get60_err (B x : Nat) (bs : List UInt8) (w : World) (h : SR w B x bs) (hx : x ≠ 0) (fv : Value) :
    Calls Tryd.prog 79 #[.pointer (some ⟨B, 0, none⟩), fv] w fun e w' => e = .returned (.int .u8 0) ∧ But [] w w' := by
  have hb0 : But [] w (w.alloc (.cells #[.pointer (some ⟨B, 0, none⟩)] 70)) := (But.refl [] w).alloc _
  have he := err_any B x bs _ (h.keep hb0)
  have k : ¬ (x : Int) = 0 := by omega
  go_enter_defers Tryd.func79, Tryd.ntmps79
  go_wp2_with (first | (go_at_call 47; refine he.mono ?_; rintro e w' ⟨rfl, rfl⟩))
  exact ⟨(.int .u8 0), by simp [results, Tryd.results79, go_sem], rfl, hb0⟩

set_option maxHeartbeats 1000000 in
theorem get60_none (p : Option Addr) (w : World) (h : NoS w p) (fv : Value) :
    Calls Tryd.prog 79 #[.pointer p, fv] w fun e w' => e = .returned (.int .u8 0) ∧ But [] w w' := by
  have hb0 : But [] w (w.alloc (.cells #[.pointer p] 70)) := (But.refl [] w).alloc _
  have he := err_none p _ (h.keep hb0)
  go_enter_defers Tryd.func79, Tryd.ntmps79
  go_wp2_with (first | (go_at_call 47; refine he.mono ?_; rintro e w' ⟨rfl, rfl⟩))
  exact ⟨(.int .u8 0), by simp [results, Tryd.results79, go_sem], rfl, hb0⟩

end Go.Proofs.YteiidkojofaamaaDoor
