/- Contracts of grown, and of teller and what it tells. -/
import Derived.Test.YtokigpmkhkldkaaFnsB
namespace Go.Proofs.Ytokigpmkhkldkaa
open Go.RowKit

/-- The walk's law: a slice cut at its end grows. -/
theorem wpList_cut {w : World} {ops : Array Oper} {rest : List Oper} {o : Oper} {a : Act} {Q : Exit → Act → World → Prop} (t : TypeId) (hg : o.guard = none) (s x : Operand) (hop : o.op = Op.call { callee := Callee.builtin Builtin.append, args := #[s, x], argTypes := #[t, t] })
    {e : TypeId} {z : Value} {size bytes : Nat} (ht : Try.prog.underlying t = some (.slice e)) (hi : (Try.prog.info? e).map (fun i => (i.zero, i.size, i.bytes)) = some (some z, size, bytes)) (hzs : z.cells.size = size) (hsz : 0 < size)
    {xa xb : Option Addr} {n m c : Nat} {xs ys : List Value} (hs : a.eval s = .slice xa n n) (hxx : a.eval x = .slice xb m c) (hx : Rw w xa xs) (hxl : xs.length = n * size) (hy : Rw w xb ys) (hyl : ys.length = m * size) (h1 : ∀ u ∈ ys, u.oneCell' = true) (h63 : n + m ≤ 100000) (hbytes : bytes ≤ 100)
    (hK : ∀ v' w', ((m = 0 ∧ v' = .slice xa n n ∧ w' = w) ∨ (0 < m ∧ w'.ownsRow w.heap.size e size v' (n + m) (xs ++ ys) ∧ Below w.heap.size w w')) → wpList Try.prog ops Q rest (a.put o.dst v') w') :
    wpList Try.prog ops Q (o :: rest) a w := by
  refine wpList_plain hg fun K hK' => ?_
  have hbb : (n + m) * bytes ≤ 140737488355328 := Nat.le_trans (Nat.mul_le_mul h63 hbytes) (by omega)
  obtain ⟨v', w', hrun, r1⟩ := run_cut (t := t) (ty := o.type) (c := c) ht hi hzs hsz hx hxl hy hyl h1 (by unfold maxLen; omega) hbb
  unfold Oper.wp execOp
  simp only [hop, resolve, invoke, builtin, Sem.run_bind, Sem.run_pure, Result.andThen_ok, List.map_toArray, List.map_cons, List.map_nil, hs, hxx, hrun]
  exact hK' _ _ (hK v' w' r1)

section
variable {w : World} {xa ya : Option Addr} {xc yc : Nat} {xs ys : List Int} {ms ns : List (Int × Int × Int)}

/-- Ints, with their room, that lie in a new block if there are new ones. -/
def Gr (w w' : World) (a : Option Addr) (c : Nat) (xs ys : List Int) : Prop := IX w' a (xs ++ ys) ∧ (xs ++ ys).length ≤ c ∧ (ys = [] ∨ ∃ v, v = .slice a (xs ++ ys).length c ∧ OI w' w.heap.size v (xs ++ ys)) ∧ Below w.heap.size w w'

theorem grown_any (hx : IX w xa xs) (hc : xs.length ≤ xc) (hy : IX w ya ys) (hn : xs.length + ys.length ≤ 100000) :
    Calls Try.prog 30 #[.slice xa xs.length xc, .slice ya ys.length yc] w fun e w' => ∃ a c, e = .returned (.slice a (xs ++ ys).length c) ∧ Gr w w' a c xs ys := by
  have hc' : (xs.length : Int) ≤ (xc : Int) := by omega
  go_enter Try.func30, Try.ntmps30
  go_wp2_with (first
    | (at_builtin; refine wpList_cut 22 rfl _ _ rfl Try.underlying22 info3 rfl (by decide) rfl rfl hx.rw_ (by rw [ints_len, Nat.mul_one]) hy.rw_ (by rw [ints_len, Nat.mul_one]) (ints_one _) hn (by decide) ?_; intro v3 w3 hr))
  rcases hr with ⟨h0, rfl, rfl⟩ | ⟨h0, ho, hb⟩
  · have : ys = [] := List.eq_nil_of_length_eq_zero h0
    subst this
    go_wp2_with fail
    go_ret
    exact ⟨xa, xs.length, by rw [List.append_nil]; rfl, by rw [List.append_nil]; exact hx, by rw [List.append_nil]; exact Nat.le_refl _, .inl rfl, Below.refl _ _⟩
  · rw [← ints_app, ← List.length_append] at ho
    have ho' : OI w3 w.heap.size v3 (xs ++ ys) := ho
    obtain ⟨a, c, e, h1, h2⟩ := ho'.ix_
    subst e
    go_wp2_with fail
    go_ret
    exact ⟨a, c, rfl, h2, h1, .inr ⟨_, rfl, ho'⟩, hb⟩

theorem grownM_any (hx : MV w xa ms) (hc : ms.length ≤ xc) (hy : MV w ya ns) (hn : ms.length + ns.length ≤ 100000) :
    Calls Try.prog 28 #[.slice xa ms.length xc, .slice ya ns.length yc] w fun e w' => ∃ a c, e = .returned (.slice a (ms ++ ns).length c) ∧ MV w' a (ms ++ ns) ∧ (ms ++ ns).length ≤ c ∧ Below w.heap.size w w' := by
  have hc' : (ms.length : Int) ≤ (xc : Int) := by omega
  go_enter Try.func28, Try.ntmps28
  go_wp2_with (first
    | (at_builtin; refine wpList_cut 23 rfl _ _ rfl Try.underlying23 info40 rfl (by decide) rfl rfl hx.rw_ (by rw [flat3_len]) hy.rw_ (by rw [flat3_len]) (flat3_one _) hn (by decide) ?_; intro v3 w3 hr))
  rcases hr with ⟨h0, rfl, rfl⟩ | ⟨h0, ho, hb⟩
  · have : ns = [] := List.eq_nil_of_length_eq_zero h0
    subst this
    go_wp2_with fail
    go_ret
    exact ⟨xa, ms.length, by rw [List.append_nil]; rfl, by rw [List.append_nil]; exact hx, by rw [List.append_nil]; exact Nat.le_refl _, Below.refl _ _⟩
  · rw [← flat3_app, ← List.length_append] at ho
    obtain ⟨a, c, e, h1, h2, _⟩ := owns_rw ho
    subst e
    go_wp2_with fail
    go_ret
    exact ⟨a, c, rfl, h2.mv_, h1, hb⟩
end

/-- A teller's box: what it has yet to tell. -/
def Tl (w : World) (B : Nat) (xs : List Int) : Prop := ∃ a c, w.cell? ⟨B, 0, none⟩ = some (.slice a xs.length c) ∧ w.frozen? ⟨B, 0, none⟩ = false ∧ IX w a xs ∧ xs.length ≤ c

theorem teller_any {w : World} {xa : Option Addr} {xc : Nat} {xs : List Int} (hx : IX w xa xs) (hc : xs.length ≤ xc) :
    Calls Try.prog 25 #[.slice xa xs.length xc] w fun e w' => e = .returned (.func (.func 31) #[] #[.pointer (some ⟨w.heap.size, 0, none⟩)]) ∧ Tl w' w.heap.size xs ∧ Below w.heap.size w w' ∧ w.heap.size < w'.heap.size := by
  go_enter Try.func25, Try.ntmps25
  go_wp2_with fail
  go_ret
  exact ⟨rfl, ⟨xa, xc, by simp [go_sem], by simp [go_sem], hx.alloc _, hc⟩, (Below.refl _ _).alloc (Nat.le_refl _) _, by simp⟩

/-- The box at B turned, or nothing. -/
def Told (B : Nat) (w w' : World) : Prop := w' = w ∨ ∃ a n c v, w.cell? ⟨B, 0, none⟩ = some (.slice a n c) ∧ w' = w.setCell ⟨B, 0, none⟩ v
theorem Told.cell {B : Nat} {w w' : World} (h : Told B w w') {p : Addr} {k : IntKind} {x : Int} (hc : w.cell? p = some (.int k x)) : w'.cell? p = some (.int k x) := by
  rcases h with rfl | ⟨a, n, c, v, h1, rfl⟩
  · exact hc
  · rw [World.cell?_setCell_other]
    · exact hc
    · intro e
      rw [e, hc] at h1
      cases h1
theorem Told.ix {B : Nat} {w w' : World} (h : Told B w w') {a : Option Addr} {xs : List Int} (hx : IX w a xs) : IX w' a xs := fun j hj => by
  obtain ⟨b, o, e, h0⟩ := hx j hj
  exact ⟨b, o, e, h.cell h0⟩
theorem Told.mv {B : Nat} {w w' : World} (h : Told B w w') {a : Option Addr} {ms : List (Int × Int × Int)} (hx : MV w a ms) : MV w' a ms := fun j hj => by
  obtain ⟨b, o, e, h0, h1, h2⟩ := hx j hj
  exact ⟨b, o, e, h.cell h0, h.cell h1, h.cell h2⟩
theorem Told.tl {B C : Nat} {w w' : World} (h : Told B w w') (hne : C ≠ B) {xs : List Int} (hx : Tl w C xs) : Tl w' C xs := by
  obtain ⟨a, c, h1, h2, h3, h4⟩ := hx
  refine ⟨a, c, ?_, ?_, h.ix h3, h4⟩
  · rcases h with rfl | ⟨_, _, _, v, _, rfl⟩
    · exact h1
    · rw [World.cell?_setCell_other _ _ _ _ (fun e => hne (congrArg Addr.block e).symm)]
      exact h1
  · rcases h with rfl | ⟨_, _, _, v, _, rfl⟩
    · exact h2
    · rw [← h2]; simp
theorem Told.below {B B0 : Nat} {w w' : World} (h : Told B w w') (hB : B0 ≤ B) : Below B0 w w' := by
  rcases h with rfl | ⟨_, _, _, v, _, rfl⟩
  · exact Below.refl _ _
  · exact (Below.refl _ _).setCell hB _
theorem Told.size {B : Nat} {w w' : World} (h : Told B w w') : w'.heap.size = w.heap.size := by
  rcases h with rfl | ⟨_, _, _, v, _, rfl⟩
  · rfl
  · simp
theorem Tl.below {B : Nat} {w w' : World} {xs : List Int} (h : Tl w B xs) (hb : Below w.heap.size w w') : Tl w' B xs := by
  obtain ⟨a, c, h1, h2, h3, h4⟩ := h
  exact ⟨a, c, cell_on hb h1, (hb.frozen (p := ⟨B, 0, none⟩) (World.block_lt_of_cell? w _ h1)).trans h2, h3.below hb, h4⟩

theorem tell_any {w : World} {B : Nat} {xs : List Int} (h : Tl w B xs) (hn : xs.length ≤ 100000) :
    Calls Try.prog 31 #[.pointer (some ⟨B, 0, none⟩)] w fun e w' => e = .returned (.tuple #[.int .i64 (xs.headD 0), .bool (decide (0 < xs.length))]) ∧ Tl w' B xs.tail ∧ Told B w w' := by
  have h' := h
  obtain ⟨a, c, k0, k1, hx, hc⟩ := h
  cases xs with
  | nil =>
    have k0' : w.cell? ⟨B, 0, none⟩ = some (.slice a 0 c) := k0
    clear k0
    go_enter Try.func31, Try.ntmps31
    go_wp2_with fail
    go_ret2
    exact ⟨rfl, h', .inl rfl⟩
  | cons x r =>
    obtain ⟨b, o, rfl, c0⟩ := hx 0 (by simp)
    rw [ix_head, Nat.add_zero] at c0
    have k0' : w.cell? ⟨B, 0, none⟩ = some (.slice (some ⟨b, o, none⟩) (r.length + 1) c) := k0
    have hc1 : r.length + 1 ≤ c := hc
    have hc' : (((r.length + 1 : Nat)) : Int) ≤ (c : Int) := by omega
    have h1 : (1 : Int) ≤ ((r.length + 1 : Nat) : Int) := by omega
    have hne : (((r.length + 1 : Nat) : Int) == 0) = false := by simp; omega
    clear k0
    go_enter Try.func31, Try.ntmps31
    go_wp2_with fail
    case inr =>
      go_ret2
      have ht : Told B w (w.setCell ⟨B, 0, none⟩ (.slice (some ⟨b, o + 1, none⟩) r.length (c - 1))) := .inr ⟨_, _, _, _, k0', rfl⟩
      refine ⟨rfl, ⟨some ⟨b, o + 1, none⟩, c - 1, ?_, ?_, ?_, by omega⟩, ht⟩
      · exact World.cell?_setCell_same _ _ _ k0'
      · rw [← k1]; simp
      · refine ht.ix (fun j hj => ?_)
        obtain ⟨b', o', e, h0⟩ := hx (j + 1) (by simp; omega)
        cases e
        rw [ix_tail] at h0
        exact ⟨b, o + 1, rfl, by rw [show o + 1 + j = o + (j + 1) by omega]; exact h0⟩
    case inl =>
      go_ret2
      have ht : Told B w (w.setCell ⟨B, 0, none⟩ (.slice (some ⟨b, o, none⟩) r.length 0)) := .inr ⟨_, _, _, _, k0', rfl⟩
      refine ⟨rfl, ⟨some ⟨b, o, none⟩, 0, ?_, ?_, ?_, by omega⟩, ht⟩
      · exact World.cell?_setCell_same _ _ _ k0'
      · rw [← k1]; simp
      · refine ht.ix (fun j hj => ?_)
        omega
end Go.Proofs.Ytokigpmkhkldkaa
