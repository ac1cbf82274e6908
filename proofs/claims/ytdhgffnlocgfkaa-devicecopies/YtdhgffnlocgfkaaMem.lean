/- Requests as they lie in memory; what is kept beside them; what append makes of rows of them. -/
import Derived.Test.YtdhgffnlocgfkaaDev
import Derived.ProofKit
import Derived.BigQuiet
import Derived.OwnWalk
import Derived.Below
import Derived.WalkSmall
import Derived.Deep.OwnRows
import Derived.Deep.Upon
import Derived.Maps.AppendAt
import Derived.Deep.RegionLaw
namespace Go.Proofs.Ytdhgffnlocgfkaa
open Go.RowKit

theorem Hid.mk {p : Prop} (h : p) : Hid p := h
/-- All blocks but those of S are as they were. -/
structure But (S : List Nat) (w w' : World) : Prop where
  os : w'.os = w.os
  tape : w'.tape = w.tape
  output : w'.output = w.output
  size : w.heap.size ≤ w'.heap.size
  block : ∀ k, k < w.heap.size → k ∉ S → w'.heap[k]? = w.heap[k]?

theorem But.refl (S : List Nat) (w : World) : But S w w := ⟨rfl, rfl, rfl, Nat.le_refl _, fun _ _ _ => rfl⟩
theorem But.trans {S : List Nat} {a b c : World} (h : But S a b) (k : But S b c) : But S a c :=
  ⟨k.os.trans h.os, k.tape.trans h.tape, k.output.trans h.output, Nat.le_trans h.size k.size, fun i hi hs => (k.block i (Nat.lt_of_lt_of_le hi h.size) hs).trans (h.block i hi hs)⟩
theorem But.mono {S T : List Nat} {a b : World} (h : But S a b) (hs : ∀ x ∈ S, x ∈ T) : But T a b :=
  ⟨h.os, h.tape, h.output, h.size, fun i hi ht => h.block i hi (fun e => ht (hs i e))⟩
theorem But.wide {S : List Nat} {a b : World} (h : But [] a b) : But S a b := h.mono (by simp)
theorem But.drew {S : List Nat} {a b : World} (h : But S a b) : But S a b.drew := h.trans ⟨rfl, rfl, rfl, Nat.le_refl _, fun _ _ _ => rfl⟩
theorem But.drewN {S : List Nat} {a b : World} (h : But S a b) (n : Nat) : But S a (b.drewN n) := h.trans ⟨rfl, rfl, rfl, Nat.le_refl _, fun _ _ _ => rfl⟩
theorem But.set {S : List Nat} {a b : World} (h : But S a b) {p : Addr} (hp : p.block ∈ S) (u : Value) : But S a (b.setCell p u) :=
  h.trans ⟨rfl, rfl, rfl, by simp [World.setCell], fun k _ hk => Below.heap_setCell _ _ _ _ (fun e => hk (e ▸ hp))⟩
theorem But.alloc {S : List Nat} {a b : World} (h : But S a b) (o : Obj) : But S a (b.alloc o) :=
  h.trans ⟨rfl, rfl, rfl, by simp, fun k hk _ => Below.heap_alloc _ _ _ hk⟩
/-- What is new, and turned, is no block of old. -/
theorem But.below {S : List Nat} {a b : World} (h : But S a b) {n : Nat} (hn : n ≤ a.heap.size) (hS : ∀ x ∈ S, n ≤ x) : Below n a b :=
  ⟨h.os, h.tape, h.output, h.size, fun k hk => h.block k (by omega) (fun e => by have := hS k e; omega)⟩
theorem But.of_below {S : List Nat} {a b : World} (h : Below a.heap.size a b) : But S a b := ⟨h.os, h.tape, h.output, h.size, fun k hk _ => h.block k hk⟩
theorem But.to_below {a b : World} (h : But [] a b) : Below a.heap.size a b := h.below (Nat.le_refl _) (by simp)
/-- Beyond what was there then, any block may turn. -/
theorem But.trans_new {S T : List Nat} {a b c : World} (h : But S a b) (k : But T b c) (hT : ∀ x ∈ T, x ∈ S ∨ a.heap.size ≤ x) : But S a c :=
  ⟨k.os.trans h.os, k.tape.trans h.tape, k.output.trans h.output, Nat.le_trans h.size k.size, fun i hi hs =>
    (k.block i (Nat.lt_of_lt_of_le hi h.size) (fun e => (hT i e).elim hs (fun l => by omega))).trans (h.block i hi hs)⟩
theorem But.cell {w w' : World} (h : But [] w w') {p : Addr} {v : Value} (hc : w.cell? p = some v) : w'.cell? p = some v :=
  (World.cell?_of_block (h.block p.block (World.block_lt_of_cell? w p hc) (by simp))).trans hc
theorem But.cell' {S : List Nat} {w w' : World} (h : But S w w') {p : Addr} {v : Value} (hc : w.cell? p = some v) (hp : p.block ∉ S) : w'.cell? p = some v :=
  (World.cell?_of_block (h.block p.block (World.block_lt_of_cell? w p hc) hp)).trans hc
theorem cell_on {w w' : World} (hb : Below w.heap.size w w') {p : Addr} {v : Value} (h : w.cell? p = some v) : w'.cell? p = some v :=
  (hb.cell (World.block_lt_of_cell? w p h)).trans h

/-- Nothing but a few draws lie between. -/
def Drawn (w w' : World) : Prop := ∃ k, w' = w.drewN k
theorem Drawn.trans {a b c : World} (h : Drawn a b) (k : ∃ k, c = b.drewN k) : Drawn a c := by
  obtain ⟨x, rfl⟩ := h
  obtain ⟨y, rfl⟩ := k
  exact ⟨x + y, by simp [World.drewN, Nat.add_assoc]⟩
theorem Drawn.refl (w : World) : Drawn w w := ⟨0, rfl⟩
theorem Drawn.drew {a b : World} (h : Drawn a b) : Drawn a b.drew := h.trans ⟨1, rfl⟩
theorem Drawn.but {S : List Nat} {a b : World} (h : Drawn a b) : But S a b := by
  obtain ⟨k, rfl⟩ := h
  exact (But.refl S a).drewN k

/-- Block G begins with these values. -/
def Row (w : World) (G : Nat) (t : TypeId) (vs : List Value) : Prop := ∃ cur : Array Value, w.heap[G]? = some (.cells cur t (0, 0)) ∧ ∀ (j : Nat) (v : Value), vs[j]? = some v → cur[j]? = some v

section
variable {w w' : World} {G : Nat} {t : TypeId} {vs : List Value}
theorem Row.lt (h : Row w G t vs) : G < w.heap.size := by
  obtain ⟨cur, h, _⟩ := h
  exact (Array.getElem?_eq_some_iff.1 h).1
theorem Row.cell (h : Row w G t vs) {j : Nat} {v : Value} (hv : vs[j]? = some v) : w.cell? ⟨G, j, none⟩ = some v := by
  obtain ⟨cur, h, k⟩ := h
  simp [World.cell?, h, k j v hv]
theorem Row.fz (h : Row w G t vs) (j : Nat) : w.frozen? ⟨G, j, none⟩ = false := by
  obtain ⟨cur, h, _⟩ := h
  simp [World.frozen?, h]
theorem Row.put (h : Row w G t vs) (e : w'.heap[G]? = w.heap[G]?) : Row w' G t vs := by
  obtain ⟨cur, h, k⟩ := h
  exact ⟨cur, e.trans h, k⟩
theorem Row.set (h : Row w G t vs) (j : Nat) (v : Value) : Row (w.setCell ⟨G, j, none⟩ v) G t (vs.set j v) := by
  obtain ⟨cur, h, k⟩ := h
  refine ⟨_, heap_setCell_same w G j _ t v h, fun i u hu => ?_⟩
  by_cases hij : j = i
  · subst hij
    rw [List.getElem?_set_self'] at hu
    cases hq : vs[j]? with
    | none => simp [hq] at hu
    | some q =>
      have hk := k j q hq
      have hlt := (Array.getElem?_eq_some_iff.1 hk).1
      simp [hq] at hu
      subst hu
      simp [hlt]
  · rw [List.getElem?_set_ne hij] at hu
    have hk := k i u hu
    simp [hij, hk]
theorem Row.other (h : Row w G t vs) {K : Nat} (hne : G ≠ K) (j : Nat) (v : Value) : Row (w.setCell ⟨K, j, none⟩ v) G t vs := h.put (Below.heap_setCell w ⟨K, j, none⟩ v G hne)
end


theorem below2 {B : Nat} {w W w1 : World} (k : Below B w W) (m : B ≤ W.heap.size) (hb : Below W.heap.size W w1) : Below B w w1 := k.trans (hb.mono m)
theorem below_drewN {B : Nat} {w W : World} (h : Below B w W) (k : Nat) : Below B w (W.drewN k) := h.trans ⟨rfl, rfl, rfl, Nat.le_refl _, fun _ _ => rfl⟩
theorem below_drew (w : World) : Below w.heap.size w w.drew := (Below.refl _ _).drew

/-- Values in memory, one behind the other. -/
def Rw (w : World) (a : Option Addr) (vs : List Value) : Prop := ∀ j v, vs[j]? = some v → ∃ b o, a = some ⟨b, o, none⟩ ∧ w.cell? ⟨b, o + j, none⟩ = some v
theorem ownsRow_put {w w' : World} {base : Nat} {e : TypeId} {size : Nat} {v : Value} {n : Nat} {xs : List Value} (h : w.ownsRow base e size v n xs) (hk : ∀ k, v.ownBlock = some k → w'.heap[k]? = w.heap[k]?) : w'.ownsRow base e size v n xs := by
  refine ⟨h.1, ?_⟩
  rcases h.2 with h | ⟨g, cap, cur, rfl, h2, h3, h4⟩
  · exact .inl h
  · exact .inr ⟨g, cap, cur, rfl, h2, (hk g rfl).trans h3, h4⟩
theorem owns_below {w w' : World} {base : Nat} {e : TypeId} {size : Nat} {v : Value} {n : Nat} {xs : List Value} (h : w.ownsRow base e size v n xs) (hb : Below w.heap.size w w') : w'.ownsRow base e size v n xs :=
  ownsRow_put h (fun k hk => hb.block k (World.ownsRow.lt h k hk).2)
theorem owns_rw {w : World} {B : Nat} {e : TypeId} {size : Nat} {v : Value} {n : Nat} {vs : List Value} (h : w.ownsRow B e size v n vs) : ∃ a c, v = .slice a n c ∧ n ≤ c ∧ Rw w a vs ∧ ((a = none ∧ n = 0 ∧ c = 0) ∨ ∃ g, a = some ⟨g, 0, none⟩ ∧ B ≤ g ∧ g < w.heap.size) := by
  have h' := h
  rcases h.2 with ⟨rfl, h0⟩ | ⟨g, cap, cur, rfl, hg, hb, hc, hm, _⟩
  · subst h0
    refine ⟨none, 0, rfl, Nat.le_refl _, fun j u hu => ?_, .inl ⟨rfl, rfl, rfl⟩⟩
    have := (List.getElem?_eq_some_iff.1 hu).1
    rw [h.1] at this
    omega
  · refine ⟨_, cap, rfl, hc, fun j u hu => ⟨g, 0, rfl, ?_⟩, .inr ⟨g, rfl, hg, (Array.getElem?_eq_some_iff.1 hb).1⟩⟩
    have := World.ownsRow.cells h' (g := g) rfl j u hu
    rw [WideShapes.add_plain] at this
    exact this

/-- Requests as cells. -/
def c5 (r : Rq) : List Value := [.int .i64 r.1, .int .i64 r.2.1, .int .i64 r.2.2.1, .int .i64 r.2.2.2.1, .int .i64 r.2.2.2.2]
def flat (xs : List Rq) : List Value := xs.flatMap c5
theorem flat_nil : flat [] = [] := rfl
theorem flat_cons (p : Rq) (xs : List Rq) : flat (p :: xs) = .int .i64 p.1 :: .int .i64 p.2.1 :: .int .i64 p.2.2.1 :: .int .i64 p.2.2.2.1 :: .int .i64 p.2.2.2.2 :: flat xs := rfl
theorem flat_app (xs ys : List Rq) : flat (xs ++ ys) = flat xs ++ flat ys := by simp [flat]
theorem flat_len : ∀ xs : List Rq, (flat xs).length = xs.length * 5
  | [] => rfl
  | p :: xs => by
    rw [flat_cons]
    simp only [List.length_cons]
    rw [flat_len xs]
    omega
theorem flat_one (xs : List Rq) : ∀ u ∈ flat xs, u.oneCell' = true := fun u hu => by
  unfold flat at hu
  obtain ⟨x, _, hx⟩ := List.mem_flatMap.1 hu
  simp [c5] at hx
  rcases hx with rfl | rfl | rfl | rfl | rfl <;> rfl
theorem flat_get : ∀ {xs : List Rq} {i : Nat} {p : Rq}, xs[i]? = some p → (flat xs)[i * 5]? = some (.int .i64 p.1) ∧ (flat xs)[i * 5 + 1]? = some (.int .i64 p.2.1) ∧ (flat xs)[i * 5 + 2]? = some (.int .i64 p.2.2.1) ∧ (flat xs)[i * 5 + 3]? = some (.int .i64 p.2.2.2.1) ∧ (flat xs)[i * 5 + 4]? = some (.int .i64 p.2.2.2.2)
  | q :: xs, 0, p, h => by
    simp at h
    subst h
    exact ⟨rfl, rfl, rfl, rfl, rfl⟩
  | q :: xs, i + 1, p, h => by
    have ih := flat_get (xs := xs) (i := i) (by simpa using h)
    rw [flat_cons, show (i + 1) * 5 = i * 5 + 5 by omega, show i * 5 + 5 + 1 = i * 5 + 1 + 5 by omega, show i * 5 + 5 + 2 = i * 5 + 2 + 5 by omega, show i * 5 + 5 + 3 = i * 5 + 3 + 5 by omega, show i * 5 + 5 + 4 = i * 5 + 4 + 5 by omega]
    exact ih
theorem flat_set {xs : List Rq} {i : Nat} {p : Rq} (r : Rq) (h : xs[i]? = some p) : flat (xs.set i r) = (((((flat xs).set (i * 5) (.int .i64 r.1)).set (i * 5 + 1) (.int .i64 r.2.1)).set (i * 5 + 2) (.int .i64 r.2.2.1)).set (i * 5 + 3) (.int .i64 r.2.2.2.1)).set (i * 5 + 4) (.int .i64 r.2.2.2.2) := by
  obtain ⟨u, v, e, hu, hs⟩ := mid_of h
  rw [hs, e, flat_app, flat_cons, flat_app, flat_cons]
  have hl : (flat u).length = i * 5 := by rw [flat_len, hu]
  rw [List.set_append_right _ _ (by omega), List.set_append_right _ _ (by omega), List.set_append_right _ _ (by omega), List.set_append_right _ _ (by omega), List.set_append_right _ _ (by omega), hl]
  simp
theorem flat_take (xs : List Rq) (i : Nat) : flat (xs.take i) = (flat xs).take (i * 5) := by
  by_cases h : i ≤ xs.length
  · have e := flat_app (xs.take i) (xs.drop i)
    rw [List.take_append_drop] at e
    have hl : (flat (xs.take i)).length = i * 5 := by rw [flat_len, List.length_take]; omega
    rw [e, ← hl, List.take_left]
  · rw [List.take_of_length_le (by omega), List.take_of_length_le (by rw [flat_len]; omega)]
theorem flat_drop (xs : List Rq) (i : Nat) : flat (xs.drop i) = (flat xs).drop (i * 5) := by
  by_cases h : i ≤ xs.length
  · have e := flat_app (xs.take i) (xs.drop i)
    rw [List.take_append_drop] at e
    have hl : (flat (xs.take i)).length = i * 5 := by rw [flat_len, List.length_take]; omega
    rw [e, ← hl, List.drop_left]
  · rw [List.drop_of_length_le (by omega), List.drop_of_length_le (by rw [flat_len]; omega)]
    rfl

/-- A request by its place. -/
def rq (xs : List Rq) (i : Nat) : Rq := xs.getD i z5
theorem rq_get {xs : List Rq} {i : Nat} (h : i < xs.length) : xs[i]? = some (rq xs i) := by
  unfold rq
  rw [List.getD_eq_getElem?_getD, List.getElem?_eq_getElem h, Option.getD_some]
/-- Five cells that are a request's. -/
def At5 (w : World) (b o : Nat) (r : Rq) : Prop := w.cell? ⟨b, o, none⟩ = some (.int .i64 r.1) ∧ w.cell? ⟨b, o + 1, none⟩ = some (.int .i64 r.2.1) ∧ w.cell? ⟨b, o + 2, none⟩ = some (.int .i64 r.2.2.1) ∧ w.cell? ⟨b, o + 3, none⟩ = some (.int .i64 r.2.2.2.1) ∧ w.cell? ⟨b, o + 4, none⟩ = some (.int .i64 r.2.2.2.2)
/-- Requests in memory. -/
def RV (w : World) (a : Option Addr) (xs : List Rq) : Prop := ∀ j, j < xs.length → ∃ b o, a = some ⟨b, o, none⟩ ∧ At5 w b (o + j * 5) (rq xs j)
theorem At5.below {w w' : World} {b o : Nat} {r : Rq} (h : At5 w b o r) (hb : Below w.heap.size w w') : At5 w' b o r := ⟨cell_on hb h.1, cell_on hb h.2.1, cell_on hb h.2.2.1, cell_on hb h.2.2.2.1, cell_on hb h.2.2.2.2⟩
theorem At5.but {S : List Nat} {w w' : World} {b o : Nat} {r : Rq} (h : At5 w b o r) (hb : But S w w') (hS : b ∉ S) : At5 w' b o r := ⟨hb.cell' h.1 hS, hb.cell' h.2.1 hS, hb.cell' h.2.2.1 hS, hb.cell' h.2.2.2.1 hS, hb.cell' h.2.2.2.2 hS⟩
theorem RV.below {w w' : World} {a : Option Addr} {xs : List Rq} (h : RV w a xs) (hb : Below w.heap.size w w') : RV w' a xs := fun j hj => by
  obtain ⟨b, o, e, h0⟩ := h j hj
  exact ⟨b, o, e, h0.below hb⟩
theorem RV.nil (w : World) (a : Option Addr) : RV w a [] := fun j hj => by simp at hj
theorem RV.rw_ {w : World} {a : Option Addr} {xs : List Rq} (h : RV w a xs) : Rw w a (flat xs) := fun j v hv => by
  have hj := (List.getElem?_eq_some_iff.1 hv).1
  rw [flat_len] at hj
  obtain ⟨b, o, e, c0, c1, c2, c3, c4⟩ := h (j / 5) (by omega)
  obtain ⟨f0, f1, f2, f3, f4⟩ := flat_get (rq_get (xs := xs) (i := j / 5) (by omega))
  refine ⟨b, o, e, ?_⟩
  rcases (show j % 5 = 0 ∨ j % 5 = 1 ∨ j % 5 = 2 ∨ j % 5 = 3 ∨ j % 5 = 4 by omega) with q | q | q | q | q
  · have e1 : j = j / 5 * 5 := by omega
    generalize j / 5 = i at *
    subst e1
    rw [f0] at hv; cases hv; exact c0
  · have e1 : j = j / 5 * 5 + 1 := by omega
    generalize j / 5 = i at *
    subst e1
    rw [f1] at hv; cases hv; exact c1
  · have e1 : j = j / 5 * 5 + 2 := by omega
    generalize j / 5 = i at *
    subst e1
    rw [f2] at hv; cases hv; exact c2
  · have e1 : j = j / 5 * 5 + 3 := by omega
    generalize j / 5 = i at *
    subst e1
    rw [f3] at hv; cases hv; exact c3
  · have e1 : j = j / 5 * 5 + 4 := by omega
    generalize j / 5 = i at *
    subst e1
    rw [f4] at hv; cases hv; exact c4
theorem Rw.rv_ {w : World} {a : Option Addr} {xs : List Rq} (h : Rw w a (flat xs)) : RV w a xs := fun j hj => by
  obtain ⟨f0, f1, f2, f3, f4⟩ := flat_get (rq_get hj)
  obtain ⟨b, o, e, c0⟩ := h _ _ f0
  obtain ⟨b1, o1, e1, c1⟩ := h _ _ f1
  obtain ⟨b2, o2, e2, c2⟩ := h _ _ f2
  obtain ⟨b3, o3, e3, c3⟩ := h _ _ f3
  obtain ⟨b4, o4, e4, c4⟩ := h _ _ f4
  rw [e] at e1 e2 e3 e4
  cases e1; cases e2; cases e3; cases e4
  exact ⟨b, o, e, c0, c1, c2, c3, c4⟩

/-- Rows of requests: of the program's type (29), of the reference's (60). -/
def Ow (w : World) (t : TypeId) (B : Nat) (v : Value) (xs : List Rq) : Prop := w.ownsRow B t 5 v xs.length (flat xs)
theorem Ow.nil (w : World) (t : TypeId) (B : Nat) : Ow w t B (.slice none 0 0) [] := World.ownsRow_nil w B t 5
theorem Ow.below {w w' : World} {t : TypeId} {B : Nat} {v : Value} {xs : List Rq} (h : Ow w t B v xs) (hb : Below w.heap.size w w') : Ow w' t B v xs := owns_below h hb
theorem Ow.put {w w' : World} {t : TypeId} {B : Nat} {v : Value} {xs : List Rq} (h : Ow w t B v xs) (hk : ∀ k, v.ownBlock = some k → w'.heap[k]? = w.heap[k]?) : Ow w' t B v xs := ownsRow_put h hk
theorem Ow.lower {w : World} {t : TypeId} {B B' : Nat} {v : Value} {xs : List Rq} (h : Ow w t B' v xs) (hb : B ≤ B') : Ow w t B v xs :=
  ⟨h.1, h.2.imp id (fun ⟨g, cap, cur, h1, h2, h3⟩ => ⟨g, cap, cur, h1, by omega, h3⟩)⟩
theorem Ow.lt {w : World} {t : TypeId} {B : Nat} {v : Value} {xs : List Rq} (h : Ow w t B v xs) {k : Nat} (hk : v.ownBlock = some k) : B ≤ k ∧ k < w.heap.size := World.ownsRow.lt h k hk
theorem Ow.sl {w : World} {t : TypeId} {B : Nat} {v : Value} {xs : List Rq} (h : Ow w t B v xs) : ∃ a c, v = .slice a xs.length c ∧ xs.length ≤ c ∧ RV w a xs ∧ ((a = none ∧ xs.length = 0 ∧ c = 0) ∨ ∃ g, a = some ⟨g, 0, none⟩ ∧ B ≤ g ∧ g < w.heap.size) := by
  obtain ⟨a, c, e, h1, h2, h3⟩ := owns_rw h
  exact ⟨a, c, e, h1, h2.rv_, h3⟩
theorem Ow.at_ {w : World} {t : TypeId} {B n : Nat} {v : Value} {xs : List Rq} (h : Ow w t B v xs) (hn : xs.length = n) : ∃ a c, v = .slice a n c := by
  obtain ⟨a, c, e, _⟩ := h.sl
  exact ⟨a, c, by rw [e, hn]⟩
theorem info29 : (Try.prog.info? 29).map (fun i => (i.zero, i.size, i.bytes)) = some (some (.agg #[.int .i64 0, .int .i64 0, .int .i64 0, .int .i64 0, .int .i64 0]), 5, 40) := by kernel_rfl
theorem info60 : (Try.prog.info? 60).map (fun i => (i.zero, i.size, i.bytes)) = some (some (.agg #[.int .i64 0, .int .i64 0, .int .i64 0, .int .i64 0, .int .i64 0]), 5, 40) := by kernel_rfl
theorem info3 : (Try.prog.info? 3).map (fun i => (i.zero, i.size, i.bytes)) = some (some (.int .i64 0), 1, 8) := by kernel_rfl
/-- What can be read from there, or nothing: as append takes it. -/
theorem src_of {w : World} {size : Nat} {tx e' : TypeId} (hk : Try.prog.underlying tx = some (.slice e')) {a : Option Addr} {m c : Nat} {vs : List Value} (hr : Rw w a vs) (hl : vs.length = m * size) (hs : 0 < size) (h1 : ∀ u ∈ vs, u.oneCell' = true) : Src Try.prog size tx (.slice a m c) m vs w := by
  cases a with
  | none =>
    have hv : vs = [] := by
      cases vs with
      | nil => rfl
      | cons v vs =>
        obtain ⟨b, o, e, _⟩ := hr 0 v rfl
        cases e
    subst hv
    obtain rfl : m = 0 := by
      rcases Nat.eq_zero_or_pos m with h | h
      · exact h
      · have := Nat.mul_le_mul h hs
        simp at hl
        omega
    exact Src.ofNil w hk c
  | some ad =>
    refine Src.ofSlice w hk ad m c vs hl (fun j u hu => ?_) h1
    obtain ⟨b, o, e, hc⟩ := hr j u hu
    cases e
    rw [WideShapes.add_plain]
    exact hc

theorem first_of {w : World} {size : Nat} {a : Option Addr} {n c : Nat} {vs : List Value} (hr : Rw w a vs) (hl : vs.length = n * size) : (Builtin.firstCells size n (.slice a n c)).run Try.prog w.drew = .ok vs.toArray w.drew := by
  cases a with
  | none =>
    have hv : vs = [] := by
      cases vs with
      | nil => rfl
      | cons v vs =>
        obtain ⟨b, o, e, _⟩ := hr 0 v rfl
        cases e
    subst hv
    exact run_firstCells_none w.drew size n n c
  | some ad =>
    refine run_firstCells_some w.drew size n ad n c vs hl (fun j u hu => ?_)
    obtain ⟨b, o, e, hc⟩ := hr j u hu
    cases e
    rw [WideShapes.add_plain]
    exact hc

/-- append to a row of the call's own. -/
theorem run_own {w : World} {t ty e : TypeId} {z : Value} {size bytes B n : Nat} {v : Value} {xs ys : List Value} (ht : Try.prog.underlying t = some (.slice e)) (hi : (Try.prog.info? e).map (fun i => (i.zero, i.size, i.bytes)) = some (some z, size, bytes)) (hzs : z.cells.size = size) (hsz : 0 < size)
    (hown : w.ownsRow B e size v n xs) {b : Option Addr} {m c : Nat} (hy : Rw w b ys) (hyl : ys.length = m * size) (h1 : ∀ u ∈ ys, u.oneCell' = true) (h63 : n + m ≤ maxLen) (hbytes : (n + m) * bytes ≤ 140737488355328) (hB : B ≤ w.heap.size) :
    ∃ v' w', (Builtin.append_ #[t, t] ty #[v, .slice b m c]).run Try.prog w = .ok v' w' ∧ w'.ownsRow B e size v' (n + m) (xs ++ ys) ∧ w.grownBy w' v.ownBlock ∧ (v'.ownBlock = v.ownBlock ∨ v'.ownBlock = some w.heap.size) := by
  obtain ⟨i, hinf, hz, hs, hb⟩ := info_parts hi
  subst hs
  subst hb
  have S := src_of (c := c) ht hy hyl hsz h1
  cases b with
  | none =>
    have hv : ys = [] := by
      cases ys with
      | nil => rfl
      | cons v vs =>
        obtain ⟨b, o, e, _⟩ := hy 0 v rfl
        cases e
    subst hv
    obtain rfl : m = 0 := by
      rcases Nat.eq_zero_or_pos m with h | h
      · exact h
      · have := Nat.mul_le_mul h hsz
        simp at hyl
        omega
    obtain ⟨a', c', rfl, hle, _⟩ := owns_rw hown
    refine ⟨_, _, run_append_nothing w t t ty e i ht hinf a' n c' hle _ S, by simpa using hown, ⟨rfl, rfl, rfl, Nat.le_refl _, fun _ _ _ => rfl⟩, .inl rfl⟩
  | some ad =>
    obtain ⟨v', w', h1, h2, h3, _, h5⟩ := run_append_own_at (P := Try.prog) w B t ty e i z i.size i.bytes ht hinf hz rfl rfl hzs hsz v n xs hown ad m c ys hyl (fun j u hu => by
      obtain ⟨b, o, e, hc⟩ := hy j u hu
      cases e
      rw [WideShapes.add_plain]
      exact hc) h1 h63 hbytes hB
    exact ⟨v', w', h1, h2, h3, h5⟩
theorem below_grown {B : Nat} {w W w1 : World} {v : Value} {e : TypeId} {size n : Nat} {xs : List Value} (h : Below B w W) (hg : W.grownBy w1 v.ownBlock) (ho : W.ownsRow B e size v n xs) (hB : B ≤ W.heap.size) : Below B w w1 :=
  h.trans ⟨hg.os, hg.tape, hg.output, hg.size, fun k hk => hg.block k (by omega) (fun e => by have := (World.ownsRow.lt ho k e.symm).1; omega)⟩

/-- From w to w' only the blocks of T turned, and those of T' are of T, or new. -/
structure Step (T : List Nat) (w : World) (T' : List Nat) (w' : World) : Prop where
  but : But T w w'
  new : ∀ x ∈ T', x ∈ T ∨ w.heap.size ≤ x
theorem Step.refl (T : List Nat) (w : World) : Step T w T w := ⟨But.refl T w, fun _ h => .inl h⟩
theorem Step.trans {T T' T'' : List Nat} {a b c : World} (h : Step T a T' b) (k : Step T' b T'' c) : Step T a T'' c :=
  ⟨h.but.trans_new k.but h.new, fun x hx => (k.new x hx).elim (h.new x) (fun l => .inr (Nat.le_trans h.but.size l))⟩
theorem Step.same {T : List Nat} {w w' : World} (h : But T w w') : Step T w T w' := ⟨h, fun _ h => .inl h⟩
theorem Step.keep {T : List Nat} {w w' : World} (h : But [] w w') : Step T w T w' := Step.same h.wide
theorem Step.below {T : List Nat} {a b : World} (h : Step [] a T b) : Below a.heap.size a b := h.but.to_below
/-- Beside other blocks. -/
theorem Step.left {T T' : List Nat} {a b : World} (S : List Nat) (h : Step T a T' b) : Step (T ++ S) a (T' ++ S) b :=
  ⟨h.but.mono (fun x hx => by simp [hx]), fun x hx => by
    rcases List.mem_append.1 hx with hx | hx
    · exact (h.new x hx).imp (fun h => by simp [h]) id
    · exact .inl (by simp [hx])⟩
theorem Step.right {T T' : List Nat} {a b : World} (S : List Nat) (h : Step T a T' b) : Step (S ++ T) a (S ++ T') b :=
  ⟨h.but.mono (fun x hx => by simp [hx]), fun x hx => by
    rcases List.mem_append.1 hx with hx | hx
    · exact .inl (by simp [hx])
    · exact (h.new x hx).imp (fun h => by simp [h]) id⟩
/-- No block is of both. -/
def Disj (T S : List Nat) : Prop := ∀ x ∈ T, x ∉ S
theorem Disj.symm {T S : List Nat} (h : Disj T S) : Disj S T := fun x hx hy => h x hy hx
theorem Disj.step {T T' S : List Nat} {a b : World} (h : Disj T S) (k : Step T a T' b) (hS : ∀ x ∈ S, x < a.heap.size) : Disj T' S := fun x hx hs => (k.new x hx).elim (fun hx => h x hx hs) (fun l => by have := hS x hs; omega)


/-- The walk's laws for rows of requests, of the program's and of the reference's. -/
theorem run_own29 {w : World} {ty : TypeId} {B : Nat} {v : Value} {xs news : List Rq} (hown : Ow w 29 B v xs) {sp : Option Addr} {m c : Nat} (hl : news.length = m) (hr : RV w sp news) (hk : xs.length + m ≤ 100000) (hb : B ≤ w.heap.size) :
    ∃ v' w', (Builtin.append_ #[39, 39] ty #[v, .slice sp m c]).run Try.prog w = .ok v' w' ∧ Ow w' 29 B v' (xs ++ news) ∧ w.grownBy w' v.ownBlock ∧ (v'.ownBlock = v.ownBlock ∨ v'.ownBlock = some w.heap.size) := by
  obtain ⟨v', w', hrun, r1, r2, r3⟩ := run_own (t := 39) (ty := ty) (c := c) (m := m) Try.underlying39 info29 rfl (by decide) hown hr.rw_ (by rw [flat_len, hl]) (flat_one _) (by unfold maxLen; omega) (by omega) hb
  refine ⟨v', w', hrun, ?_, r2, r3⟩
  unfold Ow
  rw [flat_app, List.length_append, hl]
  exact r1
theorem run_own60 {w : World} {ty : TypeId} {B : Nat} {v : Value} {xs news : List Rq} (hown : Ow w 60 B v xs) {sp : Option Addr} {m c : Nat} (hl : news.length = m) (hr : RV w sp news) (hk : xs.length + m ≤ 100000) (hb : B ≤ w.heap.size) :
    ∃ v' w', (Builtin.append_ #[34, 34] ty #[v, .slice sp m c]).run Try.prog w = .ok v' w' ∧ Ow w' 60 B v' (xs ++ news) ∧ w.grownBy w' v.ownBlock ∧ (v'.ownBlock = v.ownBlock ∨ v'.ownBlock = some w.heap.size) := by
  obtain ⟨v', w', hrun, r1, r2, r3⟩ := run_own (t := 34) (ty := ty) (c := c) (m := m) Try.underlying34 info60 rfl (by decide) hown hr.rw_ (by rw [flat_len, hl]) (flat_one _) (by unfold maxLen; omega) (by omega) hb
  refine ⟨v', w', hrun, ?_, r2, r3⟩
  unfold Ow
  rw [flat_app, List.length_append, hl]
  exact r1
theorem wpList_app29 {w : World} {ops : Array Oper} {rest : List Oper} {o : Oper} {a : Act} {Q : Exit → Act → World → Prop} (hg : o.guard = none) (s x : Operand) (hop : o.op = Op.call { callee := Callee.builtin Builtin.append, args := #[s, x], argTypes := #[39, 39] })
    (B : Nat) (v : Value) (xs : List Rq) (hs : a.eval s = v) (hown : Ow w 29 B v xs) (sp : Option Addr) (m c : Nat) (news : List Rq) (hx : a.eval x = .slice sp m c) (hl : news.length = m) (hr : RV w sp news)
    (hk : xs.length + m ≤ 100000) (hb : B ≤ w.heap.size)
    (hK : ∀ v' w', Ow w' 29 B v' (xs ++ news) → w.grownBy w' v.ownBlock → (v'.ownBlock = v.ownBlock ∨ v'.ownBlock = some w.heap.size) → wpList Try.prog ops Q rest (a.put o.dst v') w') :
    wpList Try.prog ops Q (o :: rest) a w := by
  refine wpList_plain hg fun K hK' => ?_
  obtain ⟨v', w', hrun, r1, r2, r3⟩ := run_own29 (ty := o.type) (c := c) hown hl hr hk hb
  unfold Oper.wp execOp
  simp only [hop, resolve, invoke, builtin, Sem.run_bind, Sem.run_pure, Result.andThen_ok, List.map_toArray, List.map_cons, List.map_nil, hs, hx, hrun]
  exact hK' _ _ (hK v' w' r1 r2 r3)
theorem wpList_app60 {w : World} {ops : Array Oper} {rest : List Oper} {o : Oper} {a : Act} {Q : Exit → Act → World → Prop} (hg : o.guard = none) (s x : Operand) (hop : o.op = Op.call { callee := Callee.builtin Builtin.append, args := #[s, x], argTypes := #[34, 34] })
    (B : Nat) (v : Value) (xs : List Rq) (hs : a.eval s = v) (hown : Ow w 60 B v xs) (sp : Option Addr) (m c : Nat) (news : List Rq) (hx : a.eval x = .slice sp m c) (hl : news.length = m) (hr : RV w sp news)
    (hk : xs.length + m ≤ 100000) (hb : B ≤ w.heap.size)
    (hK : ∀ v' w', Ow w' 60 B v' (xs ++ news) → w.grownBy w' v.ownBlock → (v'.ownBlock = v.ownBlock ∨ v'.ownBlock = some w.heap.size) → wpList Try.prog ops Q rest (a.put o.dst v') w') :
    wpList Try.prog ops Q (o :: rest) a w := by
  refine wpList_plain hg fun K hK' => ?_
  obtain ⟨v', w', hrun, r1, r2, r3⟩ := run_own60 (ty := o.type) (c := c) hown hl hr hk hb
  unfold Oper.wp execOp
  simp only [hop, resolve, invoke, builtin, Sem.run_bind, Sem.run_pure, Result.andThen_ok, List.map_toArray, List.map_cons, List.map_nil, hs, hx, hrun]
  exact hK' _ _ (hK v' w' r1 r2 r3)
theorem step_app29 {w : World} {ops : Array Oper} {o : Oper} {a : Act} {K : Act → World → Prop} {Q : Exit → Act → World → Prop} {E : Prop} (hg : o.guard = none) (s x : Operand) (hop : o.op = Op.call { callee := Callee.builtin Builtin.append, args := #[s, x], argTypes := #[39, 39] })
    (B : Nat) (v : Value) (xs : List Rq) (hs : a.eval s = v) (hown : Ow w 29 B v xs) (sp : Option Addr) (m c : Nat) (news : List Rq) (hx : a.eval x = .slice sp m c) (hl : news.length = m) (hr : RV w sp news)
    (hk : xs.length + m ≤ 100000) (hb : B ≤ w.heap.size)
    (hK : ∀ v' w', Ow w' 29 B v' (xs ++ news) → w.grownBy w' v.ownBlock → (v'.ownBlock = v.ownBlock ∨ v'.ownBlock = some w.heap.size) → K (a.put o.dst v') w') :
    if Region.wanted o (yielded ops a.tmps) = true then Oper.wp Try.prog o a w K Q else E := by
  have hw : Region.wanted o (yielded ops a.tmps) = true := by simp [Region.wanted, hg]
  rw [if_pos hw]
  obtain ⟨v', w', hrun, r1, r2, r3⟩ := run_own29 (ty := o.type) (c := c) hown hl hr hk hb
  unfold Oper.wp execOp
  simp only [hop, resolve, invoke, builtin, Sem.run_bind, Sem.run_pure, Result.andThen_ok, List.map_toArray, List.map_cons, List.map_nil, hs, hx, hrun]
  exact hK v' w' r1 r2 r3
theorem step_app60 {w : World} {ops : Array Oper} {o : Oper} {a : Act} {K : Act → World → Prop} {Q : Exit → Act → World → Prop} {E : Prop} (hg : o.guard = none) (s x : Operand) (hop : o.op = Op.call { callee := Callee.builtin Builtin.append, args := #[s, x], argTypes := #[34, 34] })
    (B : Nat) (v : Value) (xs : List Rq) (hs : a.eval s = v) (hown : Ow w 60 B v xs) (sp : Option Addr) (m c : Nat) (news : List Rq) (hx : a.eval x = .slice sp m c) (hl : news.length = m) (hr : RV w sp news)
    (hk : xs.length + m ≤ 100000) (hb : B ≤ w.heap.size)
    (hK : ∀ v' w', Ow w' 60 B v' (xs ++ news) → w.grownBy w' v.ownBlock → (v'.ownBlock = v.ownBlock ∨ v'.ownBlock = some w.heap.size) → K (a.put o.dst v') w') :
    if Region.wanted o (yielded ops a.tmps) = true then Oper.wp Try.prog o a w K Q else E := by
  have hw : Region.wanted o (yielded ops a.tmps) = true := by simp [Region.wanted, hg]
  rw [if_pos hw]
  obtain ⟨v', w', hrun, r1, r2, r3⟩ := run_own60 (ty := o.type) (c := c) hown hl hr hk hb
  unfold Oper.wp execOp
  simp only [hop, resolve, invoke, builtin, Sem.run_bind, Sem.run_pure, Result.andThen_ok, List.map_toArray, List.map_cons, List.map_nil, hs, hx, hrun]
  exact hK v' w' r1 r2 r3
/-- One request, new. -/
theorem at5_new (w : World) (p q r s t : Int) (e : TypeId) : At5 (w.alloc (.cells #[.int .i64 p, .int .i64 q, .int .i64 r, .int .i64 s, .int .i64 t] e)) w.heap.size 0 (p, q, r, s, t) := ⟨by simp [go_sem], by simp [go_sem], by simp [go_sem], by simp [go_sem], by simp [go_sem]⟩
theorem rv_one (w : World) (p q r s t : Int) (e : TypeId) : RV (w.alloc (.cells #[.int .i64 p, .int .i64 q, .int .i64 r, .int .i64 s, .int .i64 t] e)) (some ⟨w.heap.size, 0, none⟩) [(p, q, r, s, t)] := fun j hj => by
  obtain rfl : j = 0 := by simpa using hj
  exact ⟨_, _, rfl, at5_new w p q r s t e⟩
theorem ow_none (w : World) (t : TypeId) : Ow (w.alloc (.cells #[] t)) t w.heap.size (.slice (some ⟨w.heap.size, 0, none⟩) 0 0) [] :=
  World.ownsRow_lit (base := w.heap.size) (e := t) (size := 5) w #[] 0 (Nat.le_refl _) (Nat.zero_le _) rfl
theorem But.grown {S : List Nat} {a b c : World} {row : Option Nat} (h : But S a b) (hg : b.grownBy c row) (hr : ∀ k, row = some k → k ∈ S ∨ a.heap.size ≤ k) : But S a c :=
  ⟨hg.os.trans h.os, hg.tape.trans h.tape, hg.output.trans h.output, Nat.le_trans h.size hg.size, fun k hk hs =>
    (hg.block k (Nat.lt_of_lt_of_le hk h.size) (fun e => (hr k e.symm).elim hs (fun _ => by omega))).trans (h.block k hk hs)⟩
end Go.Proofs.Ytdhgffnlocgfkaa
