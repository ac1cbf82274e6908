/- Programs as they lie in memory; what is kept beside them; what append makes of rows of them. -/
import Derived.Test.YtjgclehghnmhnaaDoorIsa
import Derived.Test.YtjgclehghnmhnaaDoorCApp
import Derived.Deep.OwnRows
import Derived.Deep.Upon
namespace Go.Proofs.YtjgclehghnmhnaaDoor
open Go.RowKit

theorem below2 {B : Nat} {w W w1 : World} (k : Below B w W) (m : B ≤ W.heap.size) (hb : Below W.heap.size W w1) : Below B w w1 := k.trans (hb.mono m)
theorem below_drewN {B : Nat} {w W : World} (h : Below B w W) (k : Nat) : Below B w (W.drewN k) := h.trans ⟨rfl, rfl, rfl, Nat.le_refl _, fun _ _ => rfl⟩
theorem below_drew (w : World) : Below w.heap.size w w.drew := (Below.refl _ _).drew

/-- Values in memory, one behind the other. -/
def Rw (w : World) (a : Option Addr) (vs : List Value) : Prop := ∀ j v, vs[j]? = some v → ∃ b o, a = some ⟨b, o, none⟩ ∧ w.cell? ⟨b, o + j, none⟩ = some v
theorem owns_below {w w' : World} {base : Nat} {e : TypeId} {size : Nat} {v : Value} {n : Nat} {xs : List Value} (h : w.ownsRow base e size v n xs) (hb : Below w.heap.size w w') : w'.ownsRow base e size v n xs :=
  ownsRow_put h (fun k hk => hb.block k (World.ownsRow.lt h k hk).2)
theorem owns_rw {w : World} {B : Nat} {e : TypeId} {size : Nat} {v : Value} {n : Nat} {vs : List Value} (h : w.ownsRow B e size v n vs) : ∃ a c, v = .slice a n c ∧ n ≤ c ∧ Rw w a vs ∧ ((a = none ∧ n = 0 ∧ c = 0) ∨ ∃ g, a = some ⟨g, 0, none⟩ ∧ B ≤ g ∧ g < w.heap.size) := by
  have h' := h
  rcases h.2 with ⟨rfl, h0⟩ | ⟨g, cap, cur, rfl, hg, hb, hc, hm, _⟩
  · subst h0
    refine ⟨none, 0, rfl, Nat.le_refl _, fun j u hu => ?_, .inl ⟨rfl, rfl, rfl⟩⟩
    have := (List.getElem?_eq_some_iff.1 hu).1
    rw [h.1] at this
    omega
  · refine ⟨_, cap, rfl, hc, fun j u hu => ⟨g, 0, rfl, ?_⟩, .inr ⟨g, rfl, hg, (Array.getElem?_eq_some_iff.1 hb).1⟩⟩
    have := World.ownsRow.cells h' (g := g) rfl j u hu
    rw [WideShapes.add_plain] at this
    exact this


/-- Instructions as cells. -/
def c4 (r : Ins) : List Value := [.int .i64 r.1, .int .i64 r.2.1, .int .i64 r.2.2.1, .int .i64 r.2.2.2]
def flat (xs : List Ins) : List Value := xs.flatMap c4
theorem flat_nil : flat [] = [] := rfl
theorem flat_cons (p : Ins) (xs : List Ins) : flat (p :: xs) = .int .i64 p.1 :: .int .i64 p.2.1 :: .int .i64 p.2.2.1 :: .int .i64 p.2.2.2 :: flat xs := rfl
theorem flat_app (xs ys : List Ins) : flat (xs ++ ys) = flat xs ++ flat ys := by simp [flat]
theorem flat_len : ∀ xs : List Ins, (flat xs).length = xs.length * 4
  | [] => rfl
  | p :: xs => by
    rw [flat_cons]
    simp only [List.length_cons]
    rw [flat_len xs]
    omega
theorem flat_one (xs : List Ins) : ∀ u ∈ flat xs, u.oneCell' = true := fun u hu => by
  unfold flat at hu
  obtain ⟨x, _, hx⟩ := List.mem_flatMap.1 hu
  simp [c4] at hx
  rcases hx with rfl | rfl | rfl | rfl <;> rfl
theorem flat_get : ∀ {xs : List Ins} {i : Nat} {p : Ins}, xs[i]? = some p → (flat xs)[i * 4]? = some (.int .i64 p.1) ∧ (flat xs)[i * 4 + 1]? = some (.int .i64 p.2.1) ∧ (flat xs)[i * 4 + 2]? = some (.int .i64 p.2.2.1) ∧ (flat xs)[i * 4 + 3]? = some (.int .i64 p.2.2.2)
  | q :: xs, 0, p, h => by
    simp at h
    subst h
    exact ⟨rfl, rfl, rfl, rfl⟩
  | q :: xs, i + 1, p, h => by
    have ih := flat_get (xs := xs) (i := i) (by simpa using h)
    rw [flat_cons, show (i + 1) * 4 = i * 4 + 4 by omega, show i * 4 + 4 + 1 = i * 4 + 1 + 4 by omega, show i * 4 + 4 + 2 = i * 4 + 2 + 4 by omega, show i * 4 + 4 + 3 = i * 4 + 3 + 4 by omega]
    exact ih

/-- Four cells that are an instruction's. -/
def At4 (w : World) (b o : Nat) (r : Ins) : Prop := w.cell? ⟨b, o, none⟩ = some (.int .i64 r.1) ∧ w.cell? ⟨b, o + 1, none⟩ = some (.int .i64 r.2.1) ∧ w.cell? ⟨b, o + 2, none⟩ = some (.int .i64 r.2.2.1) ∧ w.cell? ⟨b, o + 3, none⟩ = some (.int .i64 r.2.2.2)
/-- Instructions in memory. -/
def PV (w : World) (a : Option Addr) (xs : List Ins) : Prop := ∀ j, j < xs.length → ∃ b o, a = some ⟨b, o, none⟩ ∧ At4 w b (o + j * 4) (ins xs j)
theorem At4.below {w w' : World} {b o : Nat} {r : Ins} (h : At4 w b o r) (hb : Below w.heap.size w w') : At4 w' b o r := ⟨cell_on hb h.1, cell_on hb h.2.1, cell_on hb h.2.2.1, cell_on hb h.2.2.2⟩
theorem PV.below {w w' : World} {a : Option Addr} {xs : List Ins} (h : PV w a xs) (hb : Below w.heap.size w w') : PV w' a xs := fun j hj => by
  obtain ⟨b, o, e, h0⟩ := h j hj
  exact ⟨b, o, e, h0.below hb⟩
theorem PV.nil (w : World) (a : Option Addr) : PV w a [] := fun j hj => by simp at hj
theorem PV.rw_ {w : World} {a : Option Addr} {xs : List Ins} (h : PV w a xs) : Rw w a (flat xs) := fun j v hv => by
  have hj := (List.getElem?_eq_some_iff.1 hv).1
  rw [flat_len] at hj
  obtain ⟨b, o, e, c0, c1, c2, c3⟩ := h (j / 4) (by omega)
  obtain ⟨f0, f1, f2, f3⟩ := flat_get (ins_get (xs := xs) (i := j / 4) (by omega))
  refine ⟨b, o, e, ?_⟩
  rcases (show j % 4 = 0 ∨ j % 4 = 1 ∨ j % 4 = 2 ∨ j % 4 = 3 by omega) with q | q | q | q
  · have e1 : j = j / 4 * 4 := by omega
    generalize j / 4 = i at *
    subst e1
    rw [f0] at hv; cases hv; exact c0
  · have e1 : j = j / 4 * 4 + 1 := by omega
    generalize j / 4 = i at *
    subst e1
    rw [f1] at hv; cases hv; exact c1
  · have e1 : j = j / 4 * 4 + 2 := by omega
    generalize j / 4 = i at *
    subst e1
    rw [f2] at hv; cases hv; exact c2
  · have e1 : j = j / 4 * 4 + 3 := by omega
    generalize j / 4 = i at *
    subst e1
    rw [f3] at hv; cases hv; exact c3
theorem Rw.rv_ {w : World} {a : Option Addr} {xs : List Ins} (h : Rw w a (flat xs)) : PV w a xs := fun j hj => by
  obtain ⟨f0, f1, f2, f3⟩ := flat_get (ins_get hj)
  obtain ⟨b, o, e, c0⟩ := h _ _ f0
  obtain ⟨b1, o1, e1, c1⟩ := h _ _ f1
  obtain ⟨b2, o2, e2, c2⟩ := h _ _ f2
  obtain ⟨b3, o3, e3, c3⟩ := h _ _ f3
  rw [e] at e1 e2 e3
  cases e1; cases e2; cases e3
  exact ⟨b, o, e, c0, c1, c2, c3⟩

/-- What can be read from there, or nothing: as append takes it. -/
theorem src_of {w : World} {size : Nat} {tx e' : TypeId} (hk : Tryd.prog.underlying tx = some (.slice e')) {a : Option Addr} {m c : Nat} {vs : List Value} (hr : Rw w a vs) (hl : vs.length = m * size) (hs : 0 < size) (h1 : ∀ u ∈ vs, u.oneCell' = true) : Src Tryd.prog size tx (.slice a m c) m vs w := by
  cases a with
  | none =>
    have hv : vs = [] := by
      cases vs with
      | nil => rfl
      | cons v vs =>
        obtain ⟨b, o, e, _⟩ := hr 0 v rfl
        cases e
    subst hv
    obtain rfl : m = 0 := by
      rcases Nat.eq_zero_or_pos m with h | h
      · exact h
      · have := Nat.mul_le_mul h hs
        simp at hl
        omega
    exact Src.ofNil w hk c
  | some ad =>
    refine Src.ofSlice w hk ad m c vs hl (fun j u hu => ?_) h1
    obtain ⟨b, o, e, hc⟩ := hr j u hu
    cases e
    rw [WideShapes.add_plain]
    exact hc

theorem first_of {w : World} {size : Nat} {a : Option Addr} {n c : Nat} {vs : List Value} (hr : Rw w a vs) (hl : vs.length = n * size) : (Builtin.firstCells size n (.slice a n c)).run Tryd.prog w.drew = .ok vs.toArray w.drew := by
  cases a with
  | none =>
    have hv : vs = [] := by
      cases vs with
      | nil => rfl
      | cons v vs =>
        obtain ⟨b, o, e, _⟩ := hr 0 v rfl
        cases e
    subst hv
    exact run_firstCells_none w.drew size n n c
  | some ad =>
    refine run_firstCells_some w.drew size n ad n c vs hl (fun j u hu => ?_)
    obtain ⟨b, o, e, hc⟩ := hr j u hu
    cases e
    rw [WideShapes.add_plain]
    exact hc

/-- append to a row of the call's own. -/
theorem run_own {w : World} {t ty e : TypeId} {z : Value} {size bytes B n : Nat} {v : Value} {xs ys : List Value} (ht : Tryd.prog.underlying t = some (.slice e)) (hi : (Tryd.prog.info? e).map (fun i => (i.zero, i.size, i.bytes)) = some (some z, size, bytes)) (hzs : z.cells.size = size) (hsz : 0 < size)
    (hown : w.ownsRow B e size v n xs) {b : Option Addr} {m c : Nat} (hy : Rw w b ys) (hyl : ys.length = m * size) (h1 : ∀ u ∈ ys, u.oneCell' = true) (h63 : n + m ≤ maxLen) (hbytes : (n + m) * bytes ≤ 140737488355328) (hB : B ≤ w.heap.size) :
    ∃ v' w', (Builtin.append_ #[t, t] ty #[v, .slice b m c]).run Tryd.prog w = .ok v' w' ∧ w'.ownsRow B e size v' (n + m) (xs ++ ys) ∧ w.grownBy w' v.ownBlock ∧ (v'.ownBlock = v.ownBlock ∨ v'.ownBlock = some w.heap.size) := by
  obtain ⟨i, hinf, hz, hs, hb⟩ := info_parts hi
  subst hs
  subst hb
  have S := src_of (c := c) ht hy hyl hsz h1
  cases b with
  | none =>
    have hv : ys = [] := by
      cases ys with
      | nil => rfl
      | cons v vs =>
        obtain ⟨b, o, e, _⟩ := hy 0 v rfl
        cases e
    subst hv
    obtain rfl : m = 0 := by
      rcases Nat.eq_zero_or_pos m with h | h
      · exact h
      · have := Nat.mul_le_mul h hsz
        simp at hyl
        omega
    obtain ⟨a', c', rfl, hle, _⟩ := owns_rw hown
    refine ⟨_, _, run_append_nothing w t t ty e i ht hinf a' n c' hle _ S, by simpa using hown, ⟨rfl, rfl, rfl, Nat.le_refl _, fun _ _ _ => rfl⟩, .inl rfl⟩
  | some ad =>
    obtain ⟨v', w', h1, h2, h3, _, h5⟩ := run_append_own_at (P := Tryd.prog) w B t ty e i z i.size i.bytes ht hinf hz rfl rfl hzs hsz v n xs hown ad m c ys hyl (fun j u hu => by
      obtain ⟨b, o, e, hc⟩ := hy j u hu
      cases e
      rw [WideShapes.add_plain]
      exact hc) h1 h63 hbytes hB
    exact ⟨v', w', h1, h2, h3, h5⟩
theorem below_grown {B : Nat} {w W w1 : World} {v : Value} {e : TypeId} {size n : Nat} {xs : List Value} (h : Below B w W) (hg : W.grownBy w1 v.ownBlock) (ho : W.ownsRow B e size v n xs) (hB : B ≤ W.heap.size) : Below B w w1 :=
  h.trans ⟨hg.os, hg.tape, hg.output, hg.size, fun k hk => hg.block k (by omega) (fun e => by have := (World.ownsRow.lt ho k e.symm).1; omega)⟩

/-- From w to w' only the blocks of T turned, and those of T' are of T, or new. -/
structure Step (T : List Nat) (w : World) (T' : List Nat) (w' : World) : Prop where
  but : But T w w'
  new : ∀ x ∈ T', x ∈ T ∨ w.heap.size ≤ x
theorem Step.refl (T : List Nat) (w : World) : Step T w T w := ⟨But.refl T w, fun _ h => .inl h⟩
theorem Step.trans {T T' T'' : List Nat} {a b c : World} (h : Step T a T' b) (k : Step T' b T'' c) : Step T a T'' c :=
  ⟨h.but.trans_new k.but h.new, fun x hx => (k.new x hx).elim (h.new x) (fun l => .inr (Nat.le_trans h.but.size l))⟩
theorem Step.same {T : List Nat} {w w' : World} (h : But T w w') : Step T w T w' := ⟨h, fun _ h => .inl h⟩
theorem Step.keep {T : List Nat} {w w' : World} (h : But [] w w') : Step T w T w' := Step.same h.wide
theorem Step.below {T : List Nat} {a b : World} (h : Step [] a T b) : Below a.heap.size a b := h.but.to_below
/-- Beside other blocks. -/
theorem Step.left {T T' : List Nat} {a b : World} (S : List Nat) (h : Step T a T' b) : Step (T ++ S) a (T' ++ S) b :=
  ⟨h.but.mono (fun x hx => by simp [hx]), fun x hx => by
    rcases List.mem_append.1 hx with hx | hx
    · exact (h.new x hx).imp (fun h => by simp [h]) id
    · exact .inl (by simp [hx])⟩
theorem Step.right {T T' : List Nat} {a b : World} (S : List Nat) (h : Step T a T' b) : Step (S ++ T) a (S ++ T') b :=
  ⟨h.but.mono (fun x hx => by simp [hx]), fun x hx => by
    rcases List.mem_append.1 hx with hx | hx
    · exact .inl (by simp [hx])
    · exact (h.new x hx).imp (fun h => by simp [h]) id⟩
/-- No block is of both. -/
def Disj (T S : List Nat) : Prop := ∀ x ∈ T, x ∉ S
theorem Disj.symm {T S : List Nat} (h : Disj T S) : Disj S T := fun x hx hy => h x hy hx
theorem Disj.step {T T' S : List Nat} {a b : World} (h : Disj T S) (k : Step T a T' b) (hS : ∀ x ∈ S, x < a.heap.size) : Disj T' S := fun x hx hs => (k.new x hx).elim (fun hx => h x hx hs) (fun l => by have := hS x hs; omega)



/-- One instruction, new. -/
theorem at4_new (w : World) (p q r s : Int) (e : TypeId) : At4 (w.alloc (.cells #[.int .i64 p, .int .i64 q, .int .i64 r, .int .i64 s] e)) w.heap.size 0 (p, q, r, s) := ⟨by simp [go_sem], by simp [go_sem], by simp [go_sem], by simp [go_sem]⟩
theorem pv_one (w : World) (p q r s : Int) (e : TypeId) : PV (w.alloc (.cells #[.int .i64 p, .int .i64 q, .int .i64 r, .int .i64 s] e)) (some ⟨w.heap.size, 0, none⟩) [(p, q, r, s)] := fun j hj => by
  obtain rfl : j = 0 := by simpa using hj
  exact ⟨_, _, rfl, at4_new w p q r s e⟩
end Go.Proofs.YtjgclehghnmhnaaDoor
