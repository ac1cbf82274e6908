/- Events as they lie in memory; rows of them. -/
import Derived.Test.YtcffmdimfmpheaaDoorEvt
import Derived.Test.YtcffmdimfmpheaaDoorCell
import Derived.Deep.MidRow
namespace Go.Proofs.YtcffmdimfmpheaaDoor
open Go Go.RowKit

def c15 (e : Ev) : List Value := [.int .i64 e.kd, .int .i64 e.ac, .int .i64 e.th, .int .i64 e.va, .int .i64 e.pg, .int .i64 e.pc, .int .i64 (e.rs 0), .int .i64 (e.rs 1), .int .i64 (e.rs 2), .int .i64 (e.rs 3), .int .i64 (e.rs 4), .int .i64 (e.rs 5), .int .i64 (e.rs 6), .int .i64 (e.rs 7), .int .i64 e.dp]
def evA (e : Ev) : Array Value := #[.int .i64 e.kd, .int .i64 e.ac, .int .i64 e.th, .int .i64 e.va, .int .i64 e.pg, .int .i64 e.pc, .int .i64 (e.rs 0), .int .i64 (e.rs 1), .int .i64 (e.rs 2), .int .i64 (e.rs 3), .int .i64 (e.rs 4), .int .i64 (e.rs 5), .int .i64 (e.rs 6), .int .i64 (e.rs 7), .int .i64 e.dp]
theorem c15_len (e : Ev) : (c15 e).length = 15 := rfl
def flatE (xs : List Ev) : List Value := xs.flatMap c15
theorem flatE_cons (p : Ev) (xs : List Ev) : flatE (p :: xs) = c15 p ++ flatE xs := rfl
theorem flatE_app (xs ys : List Ev) : flatE (xs ++ ys) = flatE xs ++ flatE ys := by simp [flatE]
theorem flatE_len : ∀ xs : List Ev, (flatE xs).length = xs.length * 15
  | [] => rfl
  | p :: xs => by
    rw [flatE_cons, List.length_append, flatE_len xs, c15_len, List.length_cons]
    omega
theorem flatE_one (xs : List Ev) : ∀ u ∈ flatE xs, u.oneCell' = true := fun u hu => by
  unfold flatE at hu
  obtain ⟨x, _, hx⟩ := List.mem_flatMap.1 hu
  simp [c15] at hx
  rcases hx with rfl | rfl | rfl | rfl | rfl | rfl | rfl | rfl | rfl | rfl | rfl | rfl | rfl | rfl | rfl <;> rfl
theorem flatE_get : ∀ {xs : List Ev} {i k : Nat}, i < xs.length → k < 15 → (flatE xs)[i * 15 + k]? = (c15 (ev xs i))[k]?
  | q :: xs, 0, k, _, hk => by
    rw [flatE_cons, List.getElem?_append_left (by rw [c15_len]; omega)]
    simp [ev]
  | q :: xs, i + 1, k, h, hk => by
    have ih := flatE_get (xs := xs) (i := i) (k := k) (by simpa using h) hk
    rw [flatE_cons, List.getElem?_append_right (by rw [c15_len]; omega), c15_len, show (i + 1) * 15 + k - 15 = i * 15 + k by omega, ih]
    simp [ev]
  | [], i, k, h, _ => by simp at h

/-- Cells that are an event's. -/
def At15 (w : World) (b o : Nat) (e : Ev) : Prop := w.rangeAt b o (c15 e)
theorem At15.below {w w' : World} {b o : Nat} {e : Ev} (h : At15 w b o e) (hb : Below w.heap.size w w') : At15 w' b o e := fun j v hv => cell_on hb (h j v hv)
theorem At15.cells {w : World} {b o : Nat} {e : Ev} (h : At15 w b o e) : w.cell? ⟨b, o, none⟩ = some (.int .i64 e.kd) ∧ w.cell? ⟨b, o + 1, none⟩ = some (.int .i64 e.ac) ∧ w.cell? ⟨b, o + 2, none⟩ = some (.int .i64 e.th) ∧ w.cell? ⟨b, o + 3, none⟩ = some (.int .i64 e.va) ∧ w.cell? ⟨b, o + 4, none⟩ = some (.int .i64 e.pg) ∧ w.cell? ⟨b, o + 5, none⟩ = some (.int .i64 e.pc) ∧ w.cell? ⟨b, o + 6, none⟩ = some (.int .i64 (e.rs 0)) ∧ w.cell? ⟨b, o + 7, none⟩ = some (.int .i64 (e.rs 1)) ∧ w.cell? ⟨b, o + 8, none⟩ = some (.int .i64 (e.rs 2)) ∧ w.cell? ⟨b, o + 9, none⟩ = some (.int .i64 (e.rs 3)) ∧ w.cell? ⟨b, o + 10, none⟩ = some (.int .i64 (e.rs 4)) ∧ w.cell? ⟨b, o + 11, none⟩ = some (.int .i64 (e.rs 5)) ∧ w.cell? ⟨b, o + 12, none⟩ = some (.int .i64 (e.rs 6)) ∧ w.cell? ⟨b, o + 13, none⟩ = some (.int .i64 (e.rs 7)) ∧ w.cell? ⟨b, o + 14, none⟩ = some (.int .i64 e.dp) :=
  ⟨h 0 _ rfl, h 1 _ rfl, h 2 _ rfl, h 3 _ rfl, h 4 _ rfl, h 5 _ rfl, h 6 _ rfl, h 7 _ rfl, h 8 _ rfl, h 9 _ rfl, h 10 _ rfl, h 11 _ rfl, h 12 _ rfl, h 13 _ rfl, h 14 _ rfl⟩
/-- Events in memory. -/
def EV (w : World) (a : Option Addr) (xs : List Ev) : Prop := ∀ j, j < xs.length → ∃ b o, a = some ⟨b, o, none⟩ ∧ At15 w b (o + j * 15) (ev xs j)
theorem EV.below {w w' : World} {a : Option Addr} {xs : List Ev} (h : EV w a xs) (hb : Below w.heap.size w w') : EV w' a xs := fun j hj => by
  obtain ⟨b, o, e, h0⟩ := h j hj
  exact ⟨b, o, e, h0.below hb⟩
theorem EV.nil (w : World) (a : Option Addr) : EV w a [] := fun j hj => by simp at hj
theorem EV.rw_ {w : World} {a : Option Addr} {xs : List Ev} (h : EV w a xs) : Rw w a (flatE xs) := fun j v hv => by
  have hj := (List.getElem?_eq_some_iff.1 hv).1
  rw [flatE_len] at hj
  obtain ⟨b, o, e, h0⟩ := h (j / 15) (by omega)
  refine ⟨b, o, e, ?_⟩
  have e1 : j = j / 15 * 15 + j % 15 := by omega
  rw [e1, flatE_get (by omega) (by omega)] at hv
  have := h0 _ _ hv
  rw [e1, ← Nat.add_assoc]
  exact this
theorem Rw.ev_ {w : World} {a : Option Addr} {xs : List Ev} (h : Rw w a (flatE xs)) : EV w a xs := fun j hj => by
  obtain ⟨b, o, e, _⟩ := h (j * 15 + 0) _ (flatE_get hj (by omega))
  refine ⟨b, o, e, fun k v hv => ?_⟩
  have hk : k < 15 := (List.getElem?_eq_some_iff.1 hv).1
  obtain ⟨b1, o1, e1, c⟩ := h (j * 15 + k) v ((flatE_get hj hk).trans hv)
  rw [e] at e1
  cases e1
  rw [Nat.add_assoc]
  exact c
theorem EV.take {w : World} {a : Option Addr} {xs : List Ev} (h : EV w a xs) (k : Nat) : EV w a (xs.take k) := fun j hj => by
  rw [List.length_take] at hj
  rw [ev_take (by omega)]
  exact h j (by omega)
theorem EV.drop {w : World} {b o : Nat} {xs : List Ev} (h : EV w (some ⟨b, o, none⟩) xs) (k : Nat) : EV w (some ⟨b, o + k * 15, none⟩) (xs.drop k) := fun j hj => by
  rw [List.length_drop] at hj
  obtain ⟨b1, o1, e, h0⟩ := h (k + j) (by omega)
  cases e
  refine ⟨b, o + k * 15, rfl, ?_⟩
  rw [ev_drop, show o + k * 15 + j * 15 = o + (k + j) * 15 by omega]
  exact h0

/-- Rows of events of the call's own. -/
def OwE (w : World) (B : Nat) (v : Value) (xs : List Ev) : Prop := w.ownsRow B 33 15 v xs.length (flatE xs)
theorem OwE.nil (w : World) (B : Nat) : OwE w B (.slice none 0 0) [] := World.ownsRow_nil w B 33 15
theorem OwE.below {w w' : World} {B : Nat} {v : Value} {xs : List Ev} (h : OwE w B v xs) (hb : Below w.heap.size w w') : OwE w' B v xs := owns_below h hb
theorem OwE.lower {w : World} {B B' : Nat} {v : Value} {xs : List Ev} (h : OwE w B' v xs) (hb : B ≤ B') : OwE w B v xs :=
  ⟨h.1, h.2.imp id (fun ⟨g, cap, cur, h1, h2, h3⟩ => ⟨g, cap, cur, h1, by omega, h3⟩)⟩
theorem OwE.lt {w : World} {B : Nat} {v : Value} {xs : List Ev} (h : OwE w B v xs) {k : Nat} (hk : v.ownBlock = some k) : B ≤ k ∧ k < w.heap.size := World.ownsRow.lt h k hk
theorem OwE.sl {w : World} {B : Nat} {v : Value} {xs : List Ev} (h : OwE w B v xs) : ∃ a c, v = .slice a xs.length c ∧ xs.length ≤ c ∧ EV w a xs ∧ ((a = none ∧ xs.length = 0 ∧ c = 0) ∨ ∃ g, a = some ⟨g, 0, none⟩ ∧ B ≤ g ∧ g < w.heap.size) := by
  obtain ⟨a, c, e, h1, h2, h3⟩ := owns_rw h
  exact ⟨a, c, e, h1, h2.ev_, h3⟩
theorem infoE : (Tryd.prog.info? 33).map (fun i => (i.zero, i.size, i.bytes)) = some (some (.agg #[.int .i64 0, .int .i64 0, .int .i64 0, .int .i64 0, .int .i64 0, .int .i64 0, .int .i64 0, .int .i64 0, .int .i64 0, .int .i64 0, .int .i64 0, .int .i64 0, .int .i64 0, .int .i64 0, .int .i64 0]), 15, 120) := by kernel_rfl
theorem run_ownE {w : World} {ty : TypeId} {B : Nat} {v : Value} {xs news : List Ev} (hown : OwE w B v xs) {sp : Option Addr} {m c : Nat} (hl : news.length = m) (hr : EV w sp news) (hk : xs.length + m ≤ 100000) (hb : B ≤ w.heap.size) :
    ∃ v' w', (Builtin.append_ #[34, 34] ty #[v, .slice sp m c]).run Tryd.prog w = .ok v' w' ∧ OwE w' B v' (xs ++ news) ∧ w.grownBy w' v.ownBlock ∧ (v'.ownBlock = v.ownBlock ∨ v'.ownBlock = some w.heap.size) := by
  obtain ⟨v', w', hrun, r1, r2, r3⟩ := run_own (t := 34) (ty := ty) (c := c) (m := m) Tryd.underlying34 infoE rfl (by decide) hown hr.rw_ (by rw [flatE_len, hl]) (flatE_one _) (by unfold maxLen; omega) (by omega) hb
  refine ⟨v', w', hrun, ?_, r2, r3⟩
  unfold OwE
  rw [flatE_app, List.length_append, hl]
  exact r1
theorem wpList_appE {w : World} {ops : Array Oper} {rest : List Oper} {o : Oper} {a : Act} {Q : Exit → Act → World → Prop} (hg : o.guard = none) (s x : Operand) (hop : o.op = Op.call { callee := Callee.builtin Builtin.append, args := #[s, x], argTypes := #[34, 34] })
    (B : Nat) (v : Value) (xs : List Ev) (hs : a.eval s = v) (hown : OwE w B v xs) (sp : Option Addr) (m c : Nat) (news : List Ev) (hx : a.eval x = .slice sp m c) (hl : news.length = m) (hr : EV w sp news)
    (hk : xs.length + m ≤ 100000) (hb : B ≤ w.heap.size)
    (hK : ∀ v' w', OwE w' B v' (xs ++ news) → w.grownBy w' v.ownBlock → (v'.ownBlock = v.ownBlock ∨ v'.ownBlock = some w.heap.size) → wpList Tryd.prog ops Q rest (a.put o.dst v') w') :
    wpList Tryd.prog ops Q (o :: rest) a w := by
  refine wpList_plain hg fun K hK' => ?_
  obtain ⟨v', w', hrun, r1, r2, r3⟩ := run_ownE (ty := o.type) (c := c) hown hl hr hk hb
  unfold Oper.wp execOp
  simp only [hop, resolve, invoke, builtin, Sem.run_bind, Sem.run_pure, Result.andThen_ok, List.map_toArray, List.map_cons, List.map_nil, hs, hx, hrun]
  exact hK' _ _ (hK v' w' r1 r2 r3)
/-- A row made with nothing in it. -/
theorem owE_none (w : World) : OwE (w.alloc (.cells #[] 33)) w.heap.size (.slice (some ⟨w.heap.size, 0, none⟩) 0 0) [] :=
  World.ownsRow_lit (base := w.heap.size) (e := 33) (size := 15) w #[] 0 (Nat.le_refl _) (Nat.zero_le _) rfl
end Go.Proofs.YtcffmdimfmpheaaDoor
