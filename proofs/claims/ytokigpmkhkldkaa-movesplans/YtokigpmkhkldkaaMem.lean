/- Ints and moves as they lie in memory; rows of the call's own; what append makes of them. -/
import Derived.Test.YtokigpmkhkldkaaMov
import Derived.Test.YtokigpmkhkldkaaChecked
import Derived.ProofKit
import Derived.BigQuiet
import Derived.OwnWalk
import Derived.Below
import Derived.WalkSmall
import Derived.Deep.OwnRows
import Derived.Deep.Upon
import Derived.Deep.RegionHeld3
import Derived.Maps.AppendAt
import Derived.Deep.RegionLaw
namespace Go.Proofs.Ytokigpmkhkldkaa
open Go.RowKit

theorem Hid.mk {p : Prop} (h : p) : Hid p := h
theorem cell_on {w w' : World} (hb : Below w.heap.size w w') {p : Addr} {v : Value} (h : w.cell? p = some v) : w'.cell? p = some v :=
  (hb.cell (World.block_lt_of_cell? w p h)).trans h
theorem below2 {B : Nat} {w W w1 : World} (k : Below B w W) (m : B ≤ W.heap.size) (hb : Below W.heap.size W w1) : Below B w w1 := k.trans (hb.mono m)
theorem below_drewN {B : Nat} {w W : World} (h : Below B w W) (k : Nat) : Below B w (W.drewN k) := h.trans ⟨rfl, rfl, rfl, Nat.le_refl _, fun _ _ => rfl⟩
theorem below_drew (w : World) : Below w.heap.size w w.drew := (Below.refl _ _).drew

/-- A number that is an int. -/
def I64 (x : Int) : Prop := -9223372036854775808 ≤ x ∧ x ≤ 9223372036854775807
def OkX (xs : List Int) : Prop := ∀ i, i < xs.length → I64 (ix xs i)
/-- A move by its place. -/
def mc (ms : List (Int × Int × Int)) (i : Nat) : Int × Int × Int := ms.getD i (0, 0, 0)
theorem mc_get {ms : List (Int × Int × Int)} {i : Nat} (h : i < ms.length) : ms[i]? = some (mc ms i) := by
  unfold mc
  rw [List.getD_eq_getElem?_getD, List.getElem?_eq_getElem h, Option.getD_some]
theorem mc_mem {ms : List (Int × Int × Int)} {i : Nat} (h : i < ms.length) : mc ms i ∈ ms := List.mem_of_getElem? (mc_get h)
def OkM (ms : List (Int × Int × Int)) : Prop := ∀ i, i < ms.length → I64 (mc ms i).1 ∧ I64 (mc ms i).2.1 ∧ I64 (mc ms i).2.2

/-- Ints in memory; moves in memory. -/
def IX (w : World) (a : Option Addr) (xs : List Int) : Prop := ∀ j, j < xs.length → ∃ b o, a = some ⟨b, o, none⟩ ∧ w.cell? ⟨b, o + j, none⟩ = some (.int .i64 (ix xs j))
def MV (w : World) (a : Option Addr) (ms : List (Int × Int × Int)) : Prop := ∀ j, j < ms.length → ∃ b o, a = some ⟨b, o, none⟩ ∧ w.cell? ⟨b, o + j * 3, none⟩ = some (.int .i64 (mc ms j).1) ∧ w.cell? ⟨b, o + j * 3 + 1, none⟩ = some (.int .i64 (mc ms j).2.1) ∧ w.cell? ⟨b, o + j * 3 + 2, none⟩ = some (.int .i64 (mc ms j).2.2)
theorem IX.below {w w' : World} {a : Option Addr} {xs : List Int} (h : IX w a xs) (hb : Below w.heap.size w w') : IX w' a xs := fun j hj => by
  obtain ⟨b, o, e, h0⟩ := h j hj
  exact ⟨b, o, e, cell_on hb h0⟩
theorem MV.below {w w' : World} {a : Option Addr} {ms : List (Int × Int × Int)} (h : MV w a ms) (hb : Below w.heap.size w w') : MV w' a ms := fun j hj => by
  obtain ⟨b, o, e, h0, h1, h2⟩ := h j hj
  exact ⟨b, o, e, cell_on hb h0, cell_on hb h1, cell_on hb h2⟩
theorem IX.alloc {w : World} {a : Option Addr} {xs : List Int} (h : IX w a xs) (o : Obj) : IX (w.alloc o) a xs := h.below ((Below.refl _ _).alloc (Nat.le_refl _) _)
theorem MV.alloc {w : World} {a : Option Addr} {ms : List (Int × Int × Int)} (h : MV w a ms) (o : Obj) : MV (w.alloc o) a ms := h.below ((Below.refl _ _).alloc (Nat.le_refl _) _)
theorem IX.nil (w : World) (a : Option Addr) : IX w a [] := fun j hj => by simp at hj
theorem MV.nil (w : World) (a : Option Addr) : MV w a [] := fun j hj => by simp at hj

/-- Values in memory, one behind the other. -/
def Rw (w : World) (a : Option Addr) (vs : List Value) : Prop := ∀ j v, vs[j]? = some v → ∃ b o, a = some ⟨b, o, none⟩ ∧ w.cell? ⟨b, o + j, none⟩ = some v
def ints (xs : List Int) : List Value := xs.map (Value.int .i64)
def flat3 (ms : List (Int × Int × Int)) : List Value := ms.flatMap (fun m => [.int .i64 m.1, .int .i64 m.2.1, .int .i64 m.2.2])
theorem ints_app (xs ys : List Int) : ints (xs ++ ys) = ints xs ++ ints ys := by simp [ints]
theorem ints_len (xs : List Int) : (ints xs).length = xs.length := by simp [ints]
theorem ints_one (xs : List Int) : ∀ u ∈ ints xs, u.oneCell' = true := fun u hu => by
  obtain ⟨x, _, rfl⟩ := List.mem_map.1 hu
  rfl
theorem ints_get {xs : List Int} {j : Nat} (h : j < xs.length) : (ints xs)[j]? = some (.int .i64 (ix xs j)) := by
  rw [ints, List.getElem?_map, ix_get h]; rfl
theorem flat3_cons (p : Int × Int × Int) (xs : List (Int × Int × Int)) : flat3 (p :: xs) = .int .i64 p.1 :: .int .i64 p.2.1 :: .int .i64 p.2.2 :: flat3 xs := rfl
theorem flat3_app (xs ys : List (Int × Int × Int)) : flat3 (xs ++ ys) = flat3 xs ++ flat3 ys := by simp [flat3]
theorem flat3_len : ∀ xs : List (Int × Int × Int), (flat3 xs).length = xs.length * 3
  | [] => rfl
  | p :: xs => by
    rw [flat3_cons, List.length_cons, List.length_cons, List.length_cons, flat3_len xs, List.length_cons]
    omega
theorem flat3_one (xs : List (Int × Int × Int)) : ∀ u ∈ flat3 xs, u.oneCell' = true := fun u hu => by
  unfold flat3 at hu
  obtain ⟨x, _, hx⟩ := List.mem_flatMap.1 hu
  simp at hx
  rcases hx with rfl | rfl | rfl <;> rfl
theorem flat3_get : ∀ {xs : List (Int × Int × Int)} {i : Nat} {p : Int × Int × Int}, xs[i]? = some p → (flat3 xs)[i * 3]? = some (.int .i64 p.1) ∧ (flat3 xs)[i * 3 + 1]? = some (.int .i64 p.2.1) ∧ (flat3 xs)[i * 3 + 2]? = some (.int .i64 p.2.2)
  | q :: xs, 0, p, h => by
    simp at h
    subst h
    exact ⟨rfl, rfl, rfl⟩
  | q :: xs, i + 1, p, h => by
    have ih := flat3_get (xs := xs) (i := i) (by simpa using h)
    rw [flat3_cons, show (i + 1) * 3 = i * 3 + 3 by omega, show i * 3 + 3 + 1 = i * 3 + 1 + 3 by omega, show i * 3 + 3 + 2 = i * 3 + 2 + 3 by omega]
    exact ih
theorem IX.rw_ {w : World} {a : Option Addr} {xs : List Int} (h : IX w a xs) : Rw w a (ints xs) := fun j v hv => by
  have hj : j < xs.length := by have := (List.getElem?_eq_some_iff.1 hv).1; rw [ints_len] at this; exact this
  rw [ints_get hj] at hv
  cases hv
  exact h j hj
theorem Rw.ix_ {w : World} {a : Option Addr} {xs : List Int} (h : Rw w a (ints xs)) : IX w a xs := fun j hj => h j _ (ints_get hj)
theorem MV.rw_ {w : World} {a : Option Addr} {ms : List (Int × Int × Int)} (h : MV w a ms) : Rw w a (flat3 ms) := fun j v hv => by
  have hj := (List.getElem?_eq_some_iff.1 hv).1
  rw [flat3_len] at hj
  obtain ⟨b, o, e, c0, c1, c2⟩ := h (j / 3) (by omega)
  obtain ⟨f0, f1, f2⟩ := flat3_get (mc_get (ms := ms) (i := j / 3) (by omega))
  refine ⟨b, o, e, ?_⟩
  rcases (show j % 3 = 0 ∨ j % 3 = 1 ∨ j % 3 = 2 by omega) with q | q | q
  · have e1 : j = j / 3 * 3 := by omega
    generalize j / 3 = i at *
    subst e1
    rw [f0] at hv; cases hv; exact c0
  · have e1 : j = j / 3 * 3 + 1 := by omega
    generalize j / 3 = i at *
    subst e1
    rw [f1] at hv; cases hv; exact c1
  · have e1 : j = j / 3 * 3 + 2 := by omega
    generalize j / 3 = i at *
    subst e1
    rw [f2] at hv; cases hv; exact c2
theorem Rw.mv_ {w : World} {a : Option Addr} {ms : List (Int × Int × Int)} (h : Rw w a (flat3 ms)) : MV w a ms := fun j hj => by
  obtain ⟨f0, f1, f2⟩ := flat3_get (mc_get hj)
  obtain ⟨b, o, e, c0⟩ := h _ _ f0
  obtain ⟨b', o', e', c1⟩ := h _ _ f1
  obtain ⟨b'', o'', e'', c2⟩ := h _ _ f2
  rw [e] at e' e''
  cases e'; cases e''
  exact ⟨b, o, e, c0, c1, c2⟩

/-- Rows that the call made. -/
def OI (w : World) (B : Nat) (v : Value) (xs : List Int) : Prop := w.ownsRow B 3 1 v xs.length (ints xs)
def OM (w : World) (B : Nat) (v : Value) (ms : List (Int × Int × Int)) : Prop := w.ownsRow B 44 3 v ms.length (flat3 ms)
theorem ownsRow_put {w w' : World} {base : Nat} {e : TypeId} {size : Nat} {v : Value} {n : Nat} {xs : List Value} (h : w.ownsRow base e size v n xs) (hk : ∀ k, v.ownBlock = some k → w'.heap[k]? = w.heap[k]?) : w'.ownsRow base e size v n xs := by
  refine ⟨h.1, ?_⟩
  rcases h.2 with h | ⟨g, cap, cur, rfl, h2, h3, h4⟩
  · exact .inl h
  · exact .inr ⟨g, cap, cur, rfl, h2, (hk g rfl).trans h3, h4⟩
theorem owns_below {w w' : World} {base : Nat} {e : TypeId} {size : Nat} {v : Value} {n : Nat} {xs : List Value} (h : w.ownsRow base e size v n xs) (hb : Below w.heap.size w w') : w'.ownsRow base e size v n xs :=
  ownsRow_put h (fun k hk => hb.block k (World.ownsRow.lt h k hk).2)
theorem owns_rw {w : World} {B : Nat} {e : TypeId} {size : Nat} {v : Value} {n : Nat} {vs : List Value} (h : w.ownsRow B e size v n vs) : ∃ a c, v = .slice a n c ∧ n ≤ c ∧ Rw w a vs ∧ ((a = none ∧ n = 0 ∧ c = 0) ∨ ∃ g, a = some ⟨g, 0, none⟩ ∧ B ≤ g ∧ g < w.heap.size) := by
  have h' := h
  rcases h.2 with ⟨rfl, h0⟩ | ⟨g, cap, cur, rfl, hg, hb, hc, hm, _⟩
  · subst h0
    refine ⟨none, 0, rfl, Nat.le_refl _, fun j u hu => ?_, .inl ⟨rfl, rfl, rfl⟩⟩
    have := (List.getElem?_eq_some_iff.1 hu).1
    rw [h.1] at this
    omega
  · refine ⟨_, cap, rfl, hc, fun j u hu => ⟨g, 0, rfl, ?_⟩, .inr ⟨g, rfl, hg, (Array.getElem?_eq_some_iff.1 hb).1⟩⟩
    have := World.ownsRow.cells h' (g := g) rfl j u hu
    rw [WideShapes.add_plain] at this
    exact this
theorem info3 : (Try.prog.info? 3).map (fun i => (i.zero, i.size, i.bytes)) = some (some (.int .i64 0), 1, 8) := by kernel_rfl
theorem info40 : (Try.prog.info? 40).map (fun i => (i.zero, i.size, i.bytes)) = some (some (.agg #[.int .i64 0, .int .i64 0, .int .i64 0]), 3, 24) := by kernel_rfl
theorem info44 : (Try.prog.info? 44).map (fun i => (i.zero, i.size, i.bytes)) = some (some (.agg #[.int .i64 0, .int .i64 0, .int .i64 0]), 3, 24) := by kernel_rfl

/-- What can be read from there, or nothing: as append takes it. -/
theorem src_of {w : World} {size : Nat} {tx e' : TypeId} (hk : Try.prog.underlying tx = some (.slice e')) {a : Option Addr} {m c : Nat} {vs : List Value} (hr : Rw w a vs) (hl : vs.length = m * size) (hs : 0 < size) (h1 : ∀ u ∈ vs, u.oneCell' = true) : Src Try.prog size tx (.slice a m c) m vs w := by
  cases a with
  | none =>
    have hv : vs = [] := by
      cases vs with
      | nil => rfl
      | cons v vs =>
        obtain ⟨b, o, e, _⟩ := hr 0 v rfl
        cases e
    subst hv
    obtain rfl : m = 0 := by
      rcases Nat.eq_zero_or_pos m with h | h
      · exact h
      · have := Nat.mul_le_mul h hs
        simp at hl
        omega
    exact Src.ofNil w hk c
  | some ad =>
    refine Src.ofSlice w hk ad m c vs hl (fun j u hu => ?_) h1
    obtain ⟨b, o, e, hc⟩ := hr j u hu
    cases e
    rw [WideShapes.add_plain]
    exact hc

theorem first_of {w : World} {size : Nat} {a : Option Addr} {n c : Nat} {vs : List Value} (hr : Rw w a vs) (hl : vs.length = n * size) : (Builtin.firstCells size n (.slice a n c)).run Try.prog w.drew = .ok vs.toArray w.drew := by
  cases a with
  | none =>
    have hv : vs = [] := by
      cases vs with
      | nil => rfl
      | cons v vs =>
        obtain ⟨b, o, e, _⟩ := hr 0 v rfl
        cases e
    subst hv
    exact run_firstCells_none w.drew size n n c
  | some ad =>
    refine run_firstCells_some w.drew size n ad n c vs hl (fun j u hu => ?_)
    obtain ⟨b, o, e, hc⟩ := hr j u hu
    cases e
    rw [WideShapes.add_plain]
    exact hc

/-- A slice that is cut at its end grows: nothing, or a new row. -/
theorem run_cut {w : World} {t ty e : TypeId} {z : Value} {size bytes : Nat} (ht : Try.prog.underlying t = some (.slice e)) (hi : (Try.prog.info? e).map (fun i => (i.zero, i.size, i.bytes)) = some (some z, size, bytes)) (hzs : z.cells.size = size) (hsz : 0 < size)
    {a b : Option Addr} {n m c : Nat} {xs ys : List Value} (hx : Rw w a xs) (hxl : xs.length = n * size) (hy : Rw w b ys) (hyl : ys.length = m * size) (h1 : ∀ u ∈ ys, u.oneCell' = true) (h63 : n + m ≤ maxLen) (hbytes : (n + m) * bytes ≤ 140737488355328) :
    ∃ v' w', (Builtin.append_ #[t, t] ty #[.slice a n n, .slice b m c]).run Try.prog w = .ok v' w' ∧ ((m = 0 ∧ v' = .slice a n n ∧ w' = w) ∨ (0 < m ∧ w'.ownsRow w.heap.size e size v' (n + m) (xs ++ ys) ∧ Below w.heap.size w w')) := by
  obtain ⟨i, hinf, hz, hs, hb⟩ := info_parts hi
  subst hs
  subst hb
  have S := src_of (c := c) ht hy hyl hsz h1
  rcases Nat.eq_zero_or_pos m with rfl | hm
  · have : ys = [] := List.eq_nil_of_length_eq_zero (by simpa using hyl)
    subst this
    exact ⟨_, _, run_append_nothing w t t ty e i ht hinf a n n (Nat.le_refl _) _ S, .inl ⟨rfl, rfl, rfl⟩⟩
  · have hsmall : n + m ≤ 9223372036854775807 := by simp only [maxLen] at h63; omega
    have hr := run_append_grow_src w t t ty e i z ht hinf hz a n n xs (first_of hx hxl) _ m ys S (by omega) (by omega) (growslice_fits (by omega) hbytes)
    refine ⟨_, _, hr, .inr ⟨hm, ?_, ?_⟩⟩
    · have hge := grownCap_ge w (n + m) n e
      have hcm : grownCap w (n + m) n e ≤ maxLen := grownCap_le_maxLen w (n + m) n e h63
      have hlen : (xs ++ ys).length = (n + m) * i.size := by rw [List.length_append, hxl, hyl, Nat.add_mul]
      refine ⟨hlen, .inr ⟨w.heap.size, _, _, rfl, Nat.le_refl _, heap_alloc_new w.drew _, hge, hcm, ?_, ?_⟩⟩
      · rw [Array.size_append, List.size_toArray, size_zeroCells, hzs, hlen, ← Nat.add_mul]
        congr 1
        omega
      · rw [Array.toList_append, ← hlen]
        exact List.take_left
    · exact (Below.refl _ _).drew.alloc (Nat.le_refl _) _

/-- append to a row of the call's own. -/
theorem run_own {w : World} {t ty e : TypeId} {z : Value} {size bytes B n : Nat} {v : Value} {xs ys : List Value} (ht : Try.prog.underlying t = some (.slice e)) (hi : (Try.prog.info? e).map (fun i => (i.zero, i.size, i.bytes)) = some (some z, size, bytes)) (hzs : z.cells.size = size) (hsz : 0 < size)
    (hown : w.ownsRow B e size v n xs) {b : Option Addr} {m c : Nat} (hy : Rw w b ys) (hyl : ys.length = m * size) (h1 : ∀ u ∈ ys, u.oneCell' = true) (h63 : n + m ≤ maxLen) (hbytes : (n + m) * bytes ≤ 140737488355328) (hB : B ≤ w.heap.size) :
    ∃ v' w', (Builtin.append_ #[t, t] ty #[v, .slice b m c]).run Try.prog w = .ok v' w' ∧ w'.ownsRow B e size v' (n + m) (xs ++ ys) ∧ w.grownBy w' v.ownBlock ∧ (v'.ownBlock = v.ownBlock ∨ v'.ownBlock = some w.heap.size) := by
  obtain ⟨i, hinf, hz, hs, hb⟩ := info_parts hi
  subst hs
  subst hb
  have S := src_of (c := c) ht hy hyl hsz h1
  cases b with
  | none =>
    have hv : ys = [] := by
      cases ys with
      | nil => rfl
      | cons v vs =>
        obtain ⟨b, o, e, _⟩ := hy 0 v rfl
        cases e
    subst hv
    obtain rfl : m = 0 := by
      rcases Nat.eq_zero_or_pos m with h | h
      · exact h
      · have := Nat.mul_le_mul h hsz
        simp at hyl
        omega
    obtain ⟨a', c', rfl, hle, _⟩ := owns_rw hown
    refine ⟨_, _, run_append_nothing w t t ty e i ht hinf a' n c' hle _ S, by simpa using hown, ⟨rfl, rfl, rfl, Nat.le_refl _, fun _ _ _ => rfl⟩, .inl rfl⟩
  | some ad =>
    obtain ⟨v', w', h1, h2, h3, _, h5⟩ := run_append_own_at (P := Try.prog) w B t ty e i z i.size i.bytes ht hinf hz rfl rfl hzs hsz v n xs hown ad m c ys hyl (fun j u hu => by
      obtain ⟨b, o, e, hc⟩ := hy j u hu
      cases e
      rw [WideShapes.add_plain]
      exact hc) h1 h63 hbytes hB
    exact ⟨v', w', h1, h2, h3, h5⟩
theorem below_grown {B : Nat} {w W w1 : World} {v : Value} {e : TypeId} {size n : Nat} {xs : List Value} (h : Below B w W) (hg : W.grownBy w1 v.ownBlock) (ho : W.ownsRow B e size v n xs) (hB : B ≤ W.heap.size) : Below B w w1 :=
  h.trans ⟨hg.os, hg.tape, hg.output, hg.size, fun k hk => hg.block k (by omega) (fun e => by have := (World.ownsRow.lt ho k e.symm).1; omega)⟩

/-- The walk's law for ints, and for moves of the reference. -/
theorem wpList_appI {w : World} {ops : Array Oper} {rest : List Oper} {o : Oper} {a : Act} {Q : Exit → Act → World → Prop} (hg : o.guard = none) (s x : Operand) (hop : o.op = Op.call { callee := Callee.builtin Builtin.append, args := #[s, x], argTypes := #[22, 22] })
    (B : Nat) (v : Value) (xs : List Int) (hs : a.eval s = v) (hown : OI w B v xs) (sp : Option Addr) (m c : Nat) (news : List Int) (hx : a.eval x = .slice sp m c) (hl : news.length = m) (hr : IX w sp news)
    (hk : xs.length + m ≤ 100000) (hb : B ≤ w.heap.size)
    (hK : ∀ v' w', OI w' B v' (xs ++ news) → w.grownBy w' v.ownBlock → (v'.ownBlock = v.ownBlock ∨ v'.ownBlock = some w.heap.size) → wpList Try.prog ops Q rest (a.put o.dst v') w') :
    wpList Try.prog ops Q (o :: rest) a w := by
  refine wpList_plain hg fun K hK' => ?_
  obtain ⟨v', w', hrun, r1, r2, r3⟩ := run_own (t := 22) (ty := o.type) (c := c) (m := m) Try.underlying22 info3 rfl (by decide) hown hr.rw_ (by rw [ints_len, hl, Nat.mul_one]) (ints_one _) (by unfold maxLen; omega) (by omega) hb
  unfold Oper.wp execOp
  simp only [hop, resolve, invoke, builtin, Sem.run_bind, Sem.run_pure, Result.andThen_ok, List.map_toArray, List.map_cons, List.map_nil, hs, hx, hrun]
  refine hK' _ _ (hK v' w' ?_ r2 r3)
  unfold OI
  rw [ints_app, List.length_append, hl]
  exact r1
theorem wpList_appM {w : World} {ops : Array Oper} {rest : List Oper} {o : Oper} {a : Act} {Q : Exit → Act → World → Prop} (hg : o.guard = none) (s x : Operand) (hop : o.op = Op.call { callee := Callee.builtin Builtin.append, args := #[s, x], argTypes := #[26, 26] })
    (B : Nat) (v : Value) (xs : List (Int × Int × Int)) (hs : a.eval s = v) (hown : OM w B v xs) (sp : Option Addr) (m c : Nat) (news : List (Int × Int × Int)) (hx : a.eval x = .slice sp m c) (hl : news.length = m) (hr : MV w sp news)
    (hk : xs.length + m ≤ 100000) (hb : B ≤ w.heap.size)
    (hK : ∀ v' w', OM w' B v' (xs ++ news) → w.grownBy w' v.ownBlock → (v'.ownBlock = v.ownBlock ∨ v'.ownBlock = some w.heap.size) → wpList Try.prog ops Q rest (a.put o.dst v') w') :
    wpList Try.prog ops Q (o :: rest) a w := by
  refine wpList_plain hg fun K hK' => ?_
  obtain ⟨v', w', hrun, r1, r2, r3⟩ := run_own (t := 26) (ty := o.type) (c := c) (m := m) Try.underlying26 info44 rfl (by decide) hown hr.rw_ (by rw [flat3_len, hl]) (flat3_one _) (by unfold maxLen; omega) (by omega) hb
  unfold Oper.wp execOp
  simp only [hop, resolve, invoke, builtin, Sem.run_bind, Sem.run_pure, Result.andThen_ok, List.map_toArray, List.map_cons, List.map_nil, hs, hx, hrun]
  refine hK' _ _ (hK v' w' ?_ r2 r3)
  unfold OM
  rw [flat3_app, List.length_append, hl]
  exact r1
theorem OI.nil (w : World) (B : Nat) : OI w B (.slice none 0 0) [] := World.ownsRow_nil w B 3 1
theorem OM.nil (w : World) (B : Nat) : OM w B (.slice none 0 0) [] := World.ownsRow_nil w B 44 3
theorem OI.below {w w' : World} {B : Nat} {v : Value} {xs : List Int} (h : OI w B v xs) (hb : Below w.heap.size w w') : OI w' B v xs := owns_below h hb
theorem OM.below {w w' : World} {B : Nat} {v : Value} {xs : List (Int × Int × Int)} (h : OM w B v xs) (hb : Below w.heap.size w w') : OM w' B v xs := owns_below h hb
theorem OI.ix_ {w : World} {B : Nat} {v : Value} {xs : List Int} (h : OI w B v xs) : ∃ a c, v = .slice a xs.length c ∧ xs.length ≤ c ∧ IX w a xs := by
  obtain ⟨a, c, e, h1, h2, _⟩ := owns_rw h
  exact ⟨a, c, e, h1, h2.ix_⟩
theorem OM.mv_ {w : World} {B : Nat} {v : Value} {xs : List (Int × Int × Int)} (h : OM w B v xs) : ∃ a c, v = .slice a xs.length c ∧ xs.length ≤ c ∧ MV w a xs := by
  obtain ⟨a, c, e, h1, h2, _⟩ := owns_rw h
  exact ⟨a, c, e, h1, h2.mv_⟩
theorem ix_one (w : World) (p : Int) : IX (w.alloc (.cells #[.int .i64 p] 3)) (some ⟨w.heap.size, 0, none⟩) [p] := fun j hj => by
  obtain rfl : j = 0 := by simpa using hj
  exact ⟨_, _, rfl, by simp [go_sem, ix]⟩
theorem mv_one (w : World) (p q r : Int) (t : TypeId) : MV (w.alloc (.cells #[.int .i64 p, .int .i64 q, .int .i64 r] t)) (some ⟨w.heap.size, 0, none⟩) [(p, q, r)] := fun j hj => by
  obtain rfl : j = 0 := by simpa using hj
  exact ⟨_, _, rfl, by simp [go_sem, mc], by simp [go_sem, mc], by simp [go_sem, mc]⟩

/-- A block of ints that is being written. -/
def WB (w : World) (G n : Nat) (xs : List Int) : Prop := xs.length = n ∧ (∀ j, j < n → w.cell? ⟨G, j, none⟩ = some (.int .i64 (ix xs j))) ∧ ∀ j, j < n → w.frozen? ⟨G, j, none⟩ = false
theorem WB.ix {w : World} {G n : Nat} {xs : List Int} (h : WB w G n xs) : IX w (some ⟨G, 0, none⟩) xs := fun j hj => ⟨G, 0, rfl, by rw [Nat.zero_add]; exact h.2.1 j (by rw [← h.1]; exact hj)⟩
theorem WB.set {w : World} {G n p : Nat} {xs : List Int} {v : Int} (h : WB w G n xs) (hp : p < n) : WB (w.setCell ⟨G, p, none⟩ (.int .i64 v)) G n (xs.set p v) := by
  obtain ⟨h0, h1, h2⟩ := h
  refine ⟨by rw [List.length_set]; exact h0, fun m hm => ?_, fun m hm => by rw [← h2 m hm]; simp⟩
  rw [ix_set (by omega)]
  by_cases hmp : m = p
  · subst hmp
    rw [if_pos rfl]
    exact World.cell?_setCell_same _ _ _ (h1 m hm)
  · rw [if_neg hmp, World.cell?_setCell_other _ _ _ _ (fun h => hmp (congrArg Addr.off h).symm)]
    exact h1 m hm
theorem WB.other {w : World} {G n : Nat} {xs : List Int} (h : WB w G n xs) {p : Addr} (hp : p.block ≠ G) (v : Value) : WB (w.setCell p v) G n xs := by
  obtain ⟨h0, h1, h2⟩ := h
  refine ⟨h0, fun m hm => ?_, fun m hm => by rw [← h2 m hm]; simp⟩
  rw [World.cell?_setCell_other _ _ _ _ (fun h => hp (by rw [h]))]
  exact h1 m hm
theorem WB.below {w w' : World} {G n : Nat} {xs : List Int} (h : WB w G n xs) (hb : Below w.heap.size w w') : WB w' G n xs :=
  ⟨h.1, fun j hj => cell_on hb (h.2.1 j hj), fun j hj => (hb.frozen (p := ⟨G, j, none⟩) (World.block_lt_of_cell? w _ (h.2.1 j hj))).trans (h.2.2 j hj)⟩
theorem WB.new (w : World) (n : Nat) : WB (w.alloc (.cells (madeCells #[.int .i64 0] n) 3)) w.heap.size n (List.replicate n 0) := by
  refine ⟨by simp, fun m hm => ?_, fun m hm => by simp [go_sem]⟩
  rw [World.cell?_alloc_at _ _ _ _ rfl, ← Array.getElem?_toList, toList_madeCells_one, List.getElem?_replicate, if_pos hm, ix_rep]
/-- A row of ints of the call's own can be written, if there are any. -/
theorem OI.wb {w : World} {B : Nat} {v : Value} {xs : List Int} (h : OI w B v xs) : ∃ a c, v = .slice a xs.length c ∧ xs.length ≤ c ∧ (xs = [] ∨ ∃ g, a = some ⟨g, 0, none⟩ ∧ B ≤ g ∧ g < w.heap.size ∧ WB w g xs.length xs) := by
  have h' := h
  rcases h.2 with ⟨rfl, h0⟩ | ⟨g, cap, cur, rfl, hg, hb, hc, hm, _⟩
  · exact ⟨none, 0, by rw [h0], by omega, .inl (List.eq_nil_of_length_eq_zero h0)⟩
  · refine ⟨_, cap, rfl, hc, .inr ⟨g, rfl, hg, (Array.getElem?_eq_some_iff.1 hb).1, rfl, fun j hj => ?_, fun j hj => World.ownsRow.frozenAt h' j⟩⟩
    have := World.ownsRow.cells h' (g := g) rfl j _ (ints_get hj)
    rw [WideShapes.add_plain, Nat.zero_add] at this
    exact this
theorem make22 {n : Nat} (hn : n ≤ 100000) : ∀ W : World, (Instr.makeSlice 22 (.int .i64 (n : Int)) (.int .i64 (n : Int))).run Try.prog W = .ok (.slice (some ⟨W.heap.size, 0, none⟩) n n) (W.alloc (.cells (madeCells #[.int .i64 0] n) 3)) := by
  intro W
  have h := run_make_row' 22 3 (.int .i64 0) 8 Try.underlying22 info3 rfl .i64 .i64 n (by omega) (by omega) W
  simpa using h
end Go.Proofs.Ytokigpmkhkldkaa
