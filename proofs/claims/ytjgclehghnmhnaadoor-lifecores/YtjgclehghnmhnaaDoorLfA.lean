/- Activations as they lie in memory; rows of them. -/
import Derived.Test.YtjgclehghnmhnaaDoorLfM
import Derived.Test.YtjgclehghnmhnaaDoorCell
import Derived.Deep.MidRow
import Derived.Deep.RegionLaw
namespace Go.Proofs.YtjgclehghnmhnaaDoor
open Go Go.RowKit

def c16 (e : Ac) : List Value := [.int .i64 e.id, .int .i64 e.st, .int .i64 e.sp, .int .i64 e.co, .int .i64 e.th, .int .i64 e.pg, .int .i64 e.pc, .int .i64 (e.rs 0), .int .i64 (e.rs 1), .int .i64 (e.rs 2), .int .i64 (e.rs 3), .int .i64 (e.rs 4), .int .i64 (e.rs 5), .int .i64 (e.rs 6), .int .i64 (e.rs 7), .int .i64 e.dp]
def acA (e : Ac) : Array Value := #[.int .i64 e.id, .int .i64 e.st, .int .i64 e.sp, .int .i64 e.co, .int .i64 e.th, .int .i64 e.pg, .int .i64 e.pc, .int .i64 (e.rs 0), .int .i64 (e.rs 1), .int .i64 (e.rs 2), .int .i64 (e.rs 3), .int .i64 (e.rs 4), .int .i64 (e.rs 5), .int .i64 (e.rs 6), .int .i64 (e.rs 7), .int .i64 e.dp]
theorem c16_len (e : Ac) : (c16 e).length = 16 := rfl
def flatA (xs : List Ac) : List Value := xs.flatMap c16
theorem flatA_cons (p : Ac) (xs : List Ac) : flatA (p :: xs) = c16 p ++ flatA xs := rfl
theorem flatA_app (xs ys : List Ac) : flatA (xs ++ ys) = flatA xs ++ flatA ys := by simp [flatA]
theorem flatA_len : ∀ xs : List Ac, (flatA xs).length = xs.length * 16
  | [] => rfl
  | p :: xs => by
    rw [flatA_cons, List.length_append, flatA_len xs, c16_len, List.length_cons]
    omega
theorem flatA_one (xs : List Ac) : ∀ u ∈ flatA xs, u.oneCell' = true := fun u hu => by
  unfold flatA at hu
  obtain ⟨x, _, hx⟩ := List.mem_flatMap.1 hu
  simp [c16] at hx
  rcases hx with rfl | rfl | rfl | rfl | rfl | rfl | rfl | rfl | rfl | rfl | rfl | rfl | rfl | rfl | rfl | rfl <;> rfl
theorem flatA_get : ∀ {xs : List Ac} {i k : Nat}, i < xs.length → k < 16 → (flatA xs)[i * 16 + k]? = (c16 (ac xs i))[k]?
  | q :: xs, 0, k, _, hk => by
    rw [flatA_cons, List.getElem?_append_left (by rw [c16_len]; omega)]
    simp [ac]
  | q :: xs, i + 1, k, h, hk => by
    have ih := flatA_get (xs := xs) (i := i) (k := k) (by simpa using h) hk
    rw [flatA_cons, List.getElem?_append_right (by rw [c16_len]; omega), c16_len, show (i + 1) * 16 + k - 16 = i * 16 + k by omega, ih]
    simp [ac]
  | [], i, k, h, _ => by simp at h

/-- Cells that are an activation's. -/
def At16 (w : World) (b o : Nat) (e : Ac) : Prop := w.rangeAt b o (c16 e)
theorem At16.below {w w' : World} {b o : Nat} {e : Ac} (h : At16 w b o e) (hb : Below w.heap.size w w') : At16 w' b o e := fun j v hv => cell_on hb (h j v hv)
theorem At16.cells {w : World} {b o : Nat} {e : Ac} (h : At16 w b o e) : w.cell? ⟨b, o, none⟩ = some (.int .i64 e.id) ∧ w.cell? ⟨b, o + 1, none⟩ = some (.int .i64 e.st) ∧ w.cell? ⟨b, o + 2, none⟩ = some (.int .i64 e.sp) ∧ w.cell? ⟨b, o + 3, none⟩ = some (.int .i64 e.co) ∧ w.cell? ⟨b, o + 4, none⟩ = some (.int .i64 e.th) ∧ w.cell? ⟨b, o + 5, none⟩ = some (.int .i64 e.pg) ∧ w.cell? ⟨b, o + 6, none⟩ = some (.int .i64 e.pc) ∧ w.cell? ⟨b, o + 7, none⟩ = some (.int .i64 (e.rs 0)) ∧ w.cell? ⟨b, o + 8, none⟩ = some (.int .i64 (e.rs 1)) ∧ w.cell? ⟨b, o + 9, none⟩ = some (.int .i64 (e.rs 2)) ∧ w.cell? ⟨b, o + 10, none⟩ = some (.int .i64 (e.rs 3)) ∧ w.cell? ⟨b, o + 11, none⟩ = some (.int .i64 (e.rs 4)) ∧ w.cell? ⟨b, o + 12, none⟩ = some (.int .i64 (e.rs 5)) ∧ w.cell? ⟨b, o + 13, none⟩ = some (.int .i64 (e.rs 6)) ∧ w.cell? ⟨b, o + 14, none⟩ = some (.int .i64 (e.rs 7)) ∧ w.cell? ⟨b, o + 15, none⟩ = some (.int .i64 e.dp) :=
  ⟨h 0 _ rfl, h 1 _ rfl, h 2 _ rfl, h 3 _ rfl, h 4 _ rfl, h 5 _ rfl, h 6 _ rfl, h 7 _ rfl, h 8 _ rfl, h 9 _ rfl, h 10 _ rfl, h 11 _ rfl, h 12 _ rfl, h 13 _ rfl, h 14 _ rfl, h 15 _ rfl⟩
/-- Activations in memory. -/
def AV (w : World) (a : Option Addr) (xs : List Ac) : Prop := ∀ j, j < xs.length → ∃ b o, a = some ⟨b, o, none⟩ ∧ At16 w b (o + j * 16) (ac xs j)
theorem AV.below {w w' : World} {a : Option Addr} {xs : List Ac} (h : AV w a xs) (hb : Below w.heap.size w w') : AV w' a xs := fun j hj => by
  obtain ⟨b, o, e, h0⟩ := h j hj
  exact ⟨b, o, e, h0.below hb⟩
theorem AV.nil (w : World) (a : Option Addr) : AV w a [] := fun j hj => by simp at hj
theorem AV.rw_ {w : World} {a : Option Addr} {xs : List Ac} (h : AV w a xs) : Rw w a (flatA xs) := fun j v hv => by
  have hj := (List.getElem?_eq_some_iff.1 hv).1
  rw [flatA_len] at hj
  obtain ⟨b, o, e, h0⟩ := h (j / 16) (by omega)
  refine ⟨b, o, e, ?_⟩
  have e1 : j = j / 16 * 16 + j % 16 := by omega
  rw [e1, flatA_get (by omega) (by omega)] at hv
  have := h0 _ _ hv
  rw [e1, ← Nat.add_assoc]
  exact this
theorem Rw.ac_ {w : World} {a : Option Addr} {xs : List Ac} (h : Rw w a (flatA xs)) : AV w a xs := fun j hj => by
  obtain ⟨b, o, e, _⟩ := h (j * 16 + 0) _ (flatA_get hj (by omega))
  refine ⟨b, o, e, fun k v hv => ?_⟩
  have hk : k < 16 := (List.getElem?_eq_some_iff.1 hv).1
  obtain ⟨b1, o1, e1, c⟩ := h (j * 16 + k) v ((flatA_get hj hk).trans hv)
  rw [e] at e1
  cases e1
  rw [Nat.add_assoc]
  exact c
/-- Rows of activations of the call's own. -/
def OwA (t : TypeId) (w : World) (B : Nat) (v : Value) (xs : List Ac) : Prop := w.ownsRow B t 16 v xs.length (flatA xs)
theorem OwA.nil {t : TypeId} (w : World) (B : Nat) : OwA t w B (.slice none 0 0) [] := World.ownsRow_nil w B t 16
theorem OwA.below {t : TypeId} {w w' : World} {B : Nat} {v : Value} {xs : List Ac} (h : OwA t w B v xs) (hb : Below w.heap.size w w') : OwA t w' B v xs := owns_below h hb
theorem OwA.lower {t : TypeId} {w : World} {B B' : Nat} {v : Value} {xs : List Ac} (h : OwA t w B' v xs) (hb : B ≤ B') : OwA t w B v xs :=
  ⟨h.1, h.2.imp id (fun ⟨g, cap, cur, h1, h2, h3⟩ => ⟨g, cap, cur, h1, by omega, h3⟩)⟩
theorem OwA.lt {t : TypeId} {w : World} {B : Nat} {v : Value} {xs : List Ac} (h : OwA t w B v xs) {k : Nat} (hk : v.ownBlock = some k) : B ≤ k ∧ k < w.heap.size := World.ownsRow.lt h k hk
theorem OwA.sl {t : TypeId} {w : World} {B : Nat} {v : Value} {xs : List Ac} (h : OwA t w B v xs) : ∃ a c, v = .slice a xs.length c ∧ xs.length ≤ c ∧ AV w a xs ∧ ((a = none ∧ xs.length = 0 ∧ c = 0) ∨ ∃ g, a = some ⟨g, 0, none⟩ ∧ B ≤ g ∧ g < w.heap.size) := by
  obtain ⟨a, c, e, h1, h2, h3⟩ := owns_rw h
  exact ⟨a, c, e, h1, h2.ac_, h3⟩
/-- The two types of activations. -/
structure Ty (t s : TypeId) : Prop where
  info : (Tryd.prog.info? t).map (fun i => (i.zero, i.size, i.bytes)) = some (some (.agg (acA zA)), 16, 128)
  sl : Tryd.prog.underlying s = some (.slice t)
theorem tyL : Ty 44 37 := ⟨by kernel_rfl, Tryd.underlying37⟩
theorem tyR : Ty 47 35 := ⟨by kernel_rfl, Tryd.underlying35⟩
theorem run_ownA {t s : TypeId} (hT : Ty t s) {w : World} {ty : TypeId} {B : Nat} {v : Value} {xs news : List Ac} (hown : OwA t w B v xs) {sp : Option Addr} {m c : Nat} (hl : news.length = m) (hr : AV w sp news) (hk : xs.length + m ≤ 100000) (hb : B ≤ w.heap.size) :
    ∃ v' w', (Builtin.append_ #[s, s] ty #[v, .slice sp m c]).run Tryd.prog w = .ok v' w' ∧ OwA t w' B v' (xs ++ news) ∧ w.grownBy w' v.ownBlock ∧ (v'.ownBlock = v.ownBlock ∨ v'.ownBlock = some w.heap.size) := by
  obtain ⟨v', w', hrun, r1, r2, r3⟩ := run_own (t := s) (ty := ty) (c := c) (m := m) hT.sl hT.info rfl (by decide) hown hr.rw_ (by rw [flatA_len, hl]) (flatA_one _) (by unfold maxLen; omega) (by omega) hb
  refine ⟨v', w', hrun, ?_, r2, r3⟩
  unfold OwA
  rw [flatA_app, List.length_append, hl]
  exact r1
theorem wpList_appA {t ts : TypeId} (hT : Ty t ts) {w : World} {ops : Array Oper} {rest : List Oper} {o : Oper} {a : Act} {Q : Exit → Act → World → Prop} (hg : o.guard = none) (s x : Operand) (hop : o.op = Op.call { callee := Callee.builtin Builtin.append, args := #[s, x], argTypes := #[ts, ts] })
    (B : Nat) (v : Value) (xs : List Ac) (hs : a.eval s = v) (hown : OwA t w B v xs) (sp : Option Addr) (m c : Nat) (news : List Ac) (hx : a.eval x = .slice sp m c) (hl : news.length = m) (hr : AV w sp news)
    (hk : xs.length + m ≤ 100000) (hb : B ≤ w.heap.size)
    (hK : ∀ v' w', OwA t w' B v' (xs ++ news) → w.grownBy w' v.ownBlock → (v'.ownBlock = v.ownBlock ∨ v'.ownBlock = some w.heap.size) → wpList Tryd.prog ops Q rest (a.put o.dst v') w') :
    wpList Tryd.prog ops Q (o :: rest) a w := by
  refine wpList_plain hg fun K hK' => ?_
  obtain ⟨v', w', hrun, r1, r2, r3⟩ := run_ownA hT (ty := o.type) (c := c) hown hl hr hk hb
  unfold Oper.wp execOp
  simp only [hop, resolve, invoke, builtin, Sem.run_bind, Sem.run_pure, Result.andThen_ok, List.map_toArray, List.map_cons, List.map_nil, hs, hx, hrun]
  exact hK' _ _ (hK v' w' r1 r2 r3)
/-- A row made with nothing in it. -/
theorem owA_none (t : TypeId) (w : World) : OwA t (w.alloc (.cells #[] t)) w.heap.size (.slice (some ⟨w.heap.size, 0, none⟩) 0 0) [] :=
  World.ownsRow_lit (base := w.heap.size) (e := t) (size := 16) w #[] 0 (Nat.le_refl _) (Nat.zero_le _) rfl
theorem OwA.put {t : TypeId} {w w' : World} {B : Nat} {v : Value} {xs : List Ac} (h : OwA t w B v xs) (hk : ∀ k, v.ownBlock = some k → w'.heap[k]? = w.heap[k]?) : OwA t w' B v xs := ownsRow_put h hk
theorem OwA.av_ {t : TypeId} {w : World} {B n c : Nat} {a : Option Addr} {xs : List Ac} (h : OwA t w B (.slice a n c) xs) : n = xs.length ∧ xs.length ≤ c ∧ AV w a xs := by
  obtain ⟨a', c', e, h1, h2, _⟩ := h.sl
  cases e
  exact ⟨rfl, h1, h2⟩
theorem AV.put {w w' : World} {a : Option Addr} {xs : List Ac} (h : AV w a xs) (hk : ∀ b o, a = some ⟨b, o, none⟩ → w'.heap[b]? = w.heap[b]?) : AV w' a xs := fun j hj => by
  obtain ⟨b, o, e, h0⟩ := h j hj
  refine ⟨b, o, e, fun i v hv => ?_⟩
  rw [World.cell?_of_block (hk b o e)]
  exact h0 i v hv
theorem But.own {a b : World} {row : Option Nat} (hg : a.grownBy b row) : But row.toList a b :=
  ⟨hg.os, hg.tape, hg.output, hg.size, fun k hk hs => hg.block k hk (fun e => hs (by simp [← e]))⟩
theorem At16.but {S : List Nat} {w w' : World} {b o : Nat} {e : Ac} (h : At16 w b o e) (hb : But S w w') (hS : b ∉ S) : At16 w' b o e := fun j v hv => hb.cell' (h j v hv) hS
/-- One activation, new. -/
theorem at16_new (w : World) (e : Ac) (t : TypeId) : At16 (w.alloc (.cells (acA e) t)) w.heap.size 0 e := fun j v hv => by
  rw [Nat.zero_add]
  exact (Cel.new w (acA e) t).cell (by simpa [acA, c16] using hv)
theorem av_one (w : World) (e : Ac) (t : TypeId) : AV (w.alloc (.cells (acA e) t)) (some ⟨w.heap.size, 0, none⟩) [e] := fun j hj => by
  obtain rfl : j = 0 := by simpa using hj
  exact ⟨_, _, rfl, at16_new w e t⟩
theorem range_but {S : List Nat} {w w' : World} {b o : Nat} {cs : List Value} (h : w.rangeAt b o cs) (hb : But S w w') (hS : b ∉ S) : w'.rangeAt b o cs := fun j v hv => hb.cell' (h j v hv) hS
theorem range_below {w w' : World} {b o : Nat} {cs : List Value} (h : w.rangeAt b o cs) (hb : Below w.heap.size w w') : w'.rangeAt b o cs := fun j v hv => cell_on hb (h j v hv)
theorem c16_arr (e : Ac) : (c16 e).toArray = acA e := rfl
theorem acA_size (e : Ac) : (acA e).size = 16 := rfl
theorem size16L : (Tryd.prog.info? 44).map (·.size) = some 16 := by kernel_rfl
theorem size16R : (Tryd.prog.info? 47).map (·.size) = some 16 := by kernel_rfl
end Go.Proofs.YtjgclehghnmhnaaDoor
