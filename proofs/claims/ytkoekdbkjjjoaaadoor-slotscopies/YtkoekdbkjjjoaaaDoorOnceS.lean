/- Two rows beside Slots: what the walk of SlotsOnce keeps in memory. -/
import Derived.Test.YtkoekdbkjjjoaaaDoorOnceM
import Derived.Maps.AppendAt
namespace Go.Proofs.YtkoekdbkjjjoaaaDoor
open Go.RowKit

/-- A slice of uints lies in memory. -/
def Uints (w : World) (a : Option Addr) (xs : List Nat) : Prop := ∀ (j x : Nat), xs[j]? = some x → ∃ b o, a = some ⟨b, o, none⟩ ∧ w.cell? ⟨b, o + j, none⟩ = some (.int .u64 x)
theorem cell_keep {w w' : World} (hb : Below w.heap.size w w') {p : Addr} {v : Value} (h : w.cell? p = some v) : w'.cell? p = some v :=
  (hb.cell (World.block_lt_of_cell? w p h)).trans h
theorem Uints.below {w w' : World} {a : Option Addr} {xs : List Nat} (h : Uints w a xs) (hb : Below w.heap.size w w') : Uints w' a xs := fun j x hx => by
  obtain ⟨b, o, e, hc⟩ := h j x hx
  exact ⟨b, o, e, cell_keep hb hc⟩

/-- A row that another one's growth leaves alone. -/
theorem RowI.grown {w w' : World} {base : Nat} {v : Value} {q : List Int} {row : Option Nat} (h : RowI w base v q) (hg : w.grownBy w' row) (hne : ∀ k, v.ownBlock = some k → row ≠ some k) : RowI w' base v q := by
  refine ⟨h.1, ?_⟩
  rcases h.2 with h | ⟨g, cap, cur, h1, h2, h3, h4⟩
  · exact .inl h
  · refine .inr ⟨g, cap, cur, h1, h2, (hg.block g (Array.getElem?_eq_some_iff.1 h3).1 (fun e => hne g (by rw [h1]; rfl) e.symm)).trans h3, h4⟩

/-- An append of one number, and where the row lies then. -/
theorem wpList_app1 {w : World} {ops : Array Oper} {rest : List Oper} {o : Oper} {a : Act} {Q : Exit → Act → World → Prop} (hg : o.guard = none) (s x : Operand) (hop : o.op = Op.call { callee := Callee.builtin Builtin.append, args := #[s, x], argTypes := #[28, 28] })
    (base : Nat) (v : Value) (xs : List Int) (hs : a.eval s = v) (hown : RowI w base v xs) (ad : Addr) (c : Nat) (id : Int) (hx : a.eval x = .slice (some ad) 1 c) (hr : Reads w (some ad) c [id])
    (hk : xs.length ≤ 10000) (hb : base ≤ w.heap.size)
    (hK : ∀ v' w', RowI w' base v' (xs ++ [id]) → w.grownBy w' v.ownBlock → (v'.ownBlock = v.ownBlock ∨ v'.ownBlock = some w.heap.size) → wpList Tryd.prog ops Q rest (a.put o.dst v') w') :
    wpList Tryd.prog ops Q (o :: rest) a w := by
  obtain ⟨i0, hi, hz0, hz1, hz2⟩ := info_parts info3
  have hc : w.cell? (ad.add 0) = some (.int .i64 id) := by
    rcases hr with ⟨h, _⟩ | ⟨ad', e, hc⟩
    · cases h
    · cases e
      exact hc 0 id rfl
  refine wpList_append_own_at w hg s x 28 hop base 3 i0 (.int .i64 0) 1 8 Tryd.underlying28 hi hz0 hz1 hz2 rfl (by decide) v xs.length _ hs hown ad 1 c [.int .i64 id] hx rfl (fun j u hu => ?_) (fun u hu => by simp at hu; subst hu; rfl) (by unfold maxLen; omega) (by omega) hb ?_
  · cases j with
    | zero => simp at hu; subst hu; exact hc
    | succ j => simp at hu
  · intro v' w' h1 h2 _ h4
    refine hK v' w' ?_ h2 h4
    unfold RowI
    rw [List.length_append, List.map_append]
    exact h1

/-- What SlotsOnce keeps in memory. -/
structure OnS (w W : World) (B G lo n : Nat) (ag : List Nat) (tk : List Bool) (tv lv : Value) (told live : List Int) : Prop where
  q : SQ W B G n ag tk
  t : RowI W lo tv told
  l : RowI W lo lv live
  ap : ∀ k, lv.ownBlock = some k → tv.ownBlock ≠ some k
  lb : B < lo
  lg : G < lo
  sz : lo ≤ W.heap.size
  b0 : w.heap.size ≤ B
  g0 : w.heap.size ≤ G
  k : Below w.heap.size w W

section
variable {w W W' : World} {B G lo n : Nat} {ag ag' : List Nat} {tk tk' : List Bool} {tv lv : Value} {told live : List Int}
theorem OnS.step (h : OnS w W B G lo n ag tk tv lv told live) (hq : SQ W' B G n ag' tk') (hb : But [B, G] W W') : OnS w W' B G lo n ag' tk' tv lv told live :=
  ⟨hq, h.t.but hb (by have := h.lb; have := h.lg; simp; omega), h.l.but hb (by have := h.lb; have := h.lg; simp; omega), h.ap, h.lb, h.lg, Nat.le_trans h.sz hb.size, h.b0, h.g0,
    h.k.trans (hb.below h.k.size (by have := h.b0; have := h.g0; simp; omega))⟩
theorem OnS.drawn (h : OnS w W B G lo n ag tk tv lv told live) (hd : Drawn W W') : OnS w W' B G lo n ag tk tv lv told live := h.step (h.q.drawn hd) hd.but
theorem OnS.below (h : OnS w W B G lo n ag tk tv lv told live) (hb : Below W.heap.size W W') : OnS w W' B G lo n ag tk tv lv told live :=
  h.step (h.q.below hb) (But.of_below hb)
theorem OnS.tab (h : OnS w W B G lo n ag tk tv lv told live) (hT : Tab w) : Tab W := hT.below h.k (Nat.le_refl _)

/-- Behind an append to the first row. -/
theorem OnS.appT {x : Int} {v' : Value} (h : OnS w W B G lo n ag tk tv lv told live) (hr : RowI W' lo v' (told ++ [x])) (hg : W.grownBy W' tv.ownBlock) (ha : v'.ownBlock = tv.ownBlock ∨ v'.ownBlock = some W.heap.size) :
    OnS w W' B G lo n ag tk v' lv (told ++ [x]) live := by
  have hb : ∀ k, tv.ownBlock = some k → lo ≤ k := fun k e => (h.t.lt k e).1
  obtain ⟨l1, l2, _⟩ := h.q.lts
  have eB := hg.block B l1 (fun e => by have := hb B e.symm; have := h.lb; omega)
  have eG := hg.block G l2 (fun e => by have := hb G e.symm; have := h.lg; omega)
  obtain ⟨c, fs, hm, hk⟩ := h.q
  refine ⟨⟨c, fs, hm.put eB eG, hk⟩, hr, h.l.grown hg (fun k e => h.ap k e), fun k e e2 => ?_, h.lb, h.lg, Nat.le_trans h.sz hg.size, h.b0, h.g0, h.k.grown hg h.k.size (fun k e => ?_)⟩
  · rcases ha with ha | ha
    · rw [ha] at e2
      exact h.ap k e e2
    · rw [ha] at e2
      have := (h.l.lt k e).2
      cases e2
      omega
  · have := hb k e
    have := h.b0
    have := h.lb
    omega

/-- Behind an append to the second row. -/
theorem OnS.appL {x : Int} {v' : Value} (h : OnS w W B G lo n ag tk tv lv told live) (hr : RowI W' lo v' (live ++ [x])) (hg : W.grownBy W' lv.ownBlock) (ha : v'.ownBlock = lv.ownBlock ∨ v'.ownBlock = some W.heap.size) :
    OnS w W' B G lo n ag tk tv v' told (live ++ [x]) := by
  have hb : ∀ k, lv.ownBlock = some k → lo ≤ k := fun k e => (h.l.lt k e).1
  obtain ⟨l1, l2, _⟩ := h.q.lts
  have eB := hg.block B l1 (fun e => by have := hb B e.symm; have := h.lb; omega)
  have eG := hg.block G l2 (fun e => by have := hb G e.symm; have := h.lg; omega)
  obtain ⟨c, fs, hm, hk⟩ := h.q
  refine ⟨⟨c, fs, hm.put eB eG, hk⟩, h.t.grown hg (fun k e e2 => h.ap k e2 e), hr, fun k e e2 => ?_, h.lb, h.lg, Nat.le_trans h.sz hg.size, h.b0, h.g0, h.k.grown hg h.k.size (fun k e => ?_)⟩
  · rcases ha with ha | ha
    · rw [ha] at e
      exact h.ap k e e2
    · rw [ha] at e
      have := (h.t.lt k e2).2
      cases e
      omega
  · have := hb k e
    have := h.b0
    have := h.lb
    omega

/-- The second row anew. -/
theorem OnS.putL {v' : Value} {live' : List Int} (h : OnS w W B G lo n ag tk tv lv told live) (hb : But [] W W') (hr : RowI W' W.heap.size v' live') : OnS w W' B G lo n ag tk tv v' told live' :=
  ⟨h.q.keep hb, h.t.but hb (by simp), row_lower hr h.sz, fun k e e2 => by
    have h1 := (World.ownsRow.lt hr k e).1
    have h2 := (h.t.lt k e2).2
    omega, h.lb, h.lg, Nat.le_trans h.sz hb.size, h.b0, h.g0, h.k.trans (hb.below h.k.size (by simp))⟩
end

end Go.Proofs.YtkoekdbkjjjoaaaDoor
