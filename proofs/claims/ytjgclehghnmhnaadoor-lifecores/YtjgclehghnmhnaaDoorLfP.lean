/- Maps from ints to pointers: what lies in one, asked, stored, deleted, gone over. -/
import Derived.Test.YtjgclehghnmhnaaDoorLfA
import Derived.Maps.RangeWalk
namespace Go.Proofs.YtjgclehghnmhnaaDoor
open Go Go.RowKit
open Go.Maps (Keyed Tidy)

/-- How a pointer to a block reads. -/
def rP (v : Value) : Option (DataW Unit × List MemPlace) := match v with
  | .pointer none => some (.nil, [])
  | .pointer (some ⟨b, 0, none⟩) => some (.lit (.int .i64 b), [])
  | _ => none
def ptr : Option Nat → Value
  | none => .pointer none
  | some b => .pointer (some ⟨b, 0, none⟩)
theorem rP_ptr (o : Option Nat) : rP (ptr o) = some (match o with | none => (.nil, []) | some b => (.lit (.int .i64 (b : Int)), [])) := by cases o <;> rfl
theorem rP_inv {v : Value} {y : DataW Unit × List MemPlace} (h : rP v = some y) : ∃ o, v = ptr o := by
  unfold rP at h
  split at h
  · exact ⟨none, rfl⟩
  · exact ⟨some _, rfl⟩
  · cases h
def litI : DataW Unit → Int
  | .lit (.int _ x) => x
  | _ => -1
def In64 (i : Int) : Prop := -9223372036854775808 ≤ i ∧ i ≤ 9223372036854775807
theorem wf64 {i : Int} : (Lit.int .i64 i).wf = true ↔ In64 i := by
  have e1 : IntKind.i64.min = -9223372036854775808 := by decide
  have e2 : IntKind.i64.max = 9223372036854775807 := by decide
  unfold In64
  simp only [Lit.wf, Bool.and_eq_true, decide_eq_true_eq, e1, e2]
theorem key64 {i : Int} (h : In64 i) : keyOf Tryd.prog 3 (.int .i64 i) = some (.int .i64 i) := Maps.keyOf_int_mk Tryd.underlying3 (wf64.2 h)
theorem lawI : Keyed Tryd.prog 3 := Maps.int_keyed Tryd.underlying3
theorem zeroP (W : World) : (zeroValue 80).run Tryd.prog W = .ok (.pointer none) W := Tryd.zeroValue80 W

/-- What the datum has. -/
structure Dat (D : DataW Unit) (n : Nat) (f : Int → Option Nat) : Prop where
  sz : Maps.size D = n
  has : ∀ i, In64 i → Maps.has D (.int .i64 i) = (f i).isSome
  at_ : ∀ i b, f i = some b → In64 i ∧ ∀ z, D.atKey (.int .i64 i) z = .lit (.int .i64 b)
/-- Block M is a map of n entries: of i to block f i. -/
def PM (w : World) (M n : Nat) (f : Int → Option Nat) : Prop := ∃ D : DataW Unit, w.ownsMap Tryd.prog 3 rP M n D ∧ Dat D n f
/-- It is gone over by r: those that are left are still to come. -/
def RG (w : World) (M r n : Nat) (f : Int → Option Nat) (left : Int → Bool) (cnt : Nat) : Prop := ∃ (D : DataW Unit) (lf : Lit → Bool), w.ranges Tryd.prog 3 rP M r n D lf cnt ∧ Dat D n f ∧ ∀ i, In64 i → lf (.int .i64 i) = left i

section
variable {w w' : World} {M r n cnt : Nat} {f : Int → Option Nat} {left : Int → Bool}
theorem PM.lt (h : PM w M n f) : M < w.heap.size := by
  obtain ⟨D, h, _⟩ := h
  exact h.lt
theorem PM.put (h : PM w M n f) (e : w'.heap[M]? = w.heap[M]?) : PM w' M n f := by
  obtain ⟨D, ⟨es, clock, hb, rest⟩, hd⟩ := h
  exact ⟨D, ⟨es, clock, e.trans hb, rest⟩, hd⟩
theorem PM.but {S : List Nat} (h : PM w M n f) (hb : But S w w') (hS : M ∉ S) : PM w' M n f := h.put (hb.block M h.lt hS)
theorem RG.pm (h : RG w M r n f left cnt) : PM w M n f := by
  obtain ⟨D, lf, h, hd, _⟩ := h
  exact ⟨D, h.owns, hd⟩
theorem RG.left_eq (h : RG w M r n f left cnt) : w.rangeLeft M r = cnt := by
  obtain ⟨D, lf, h, _⟩ := h
  exact h.left_eq
theorem RG.lt (h : RG w M r n f left cnt) : r < w.heap.size ∧ M < w.heap.size ∧ r ≠ M := by
  obtain ⟨D, lf, h, _⟩ := h
  exact ⟨h.lt, h.owns.lt, h.ne⟩
theorem RG.but {S : List Nat} (h : RG w M r n f left cnt) (hb : But S w w') (hM : M ∉ S) (hr : r ∉ S) : RG w' M r n f left cnt := by
  have ⟨l1, l2, _⟩ := h.lt
  obtain ⟨D, lf, ⟨es, clock, since, seen, c0, e1, F, hs, hD, e2, rest⟩, hd⟩ := h
  exact ⟨D, lf, ⟨es, clock, since, seen, c0, (hb.block M l2 hM).trans e1, F, hs, hD, (hb.block r l1 hr).trans e2, rest⟩, hd⟩
theorem PM.look (h : PM w M n f) {i : Int} (hi : In64 i) : (Instr.lookup 65 (.map (some M)) (.int .i64 i) true).run Tryd.prog w = .ok (.tuple #[ptr (f i), .bool (f i).isSome]) w := by
  obtain ⟨D, ho, hd⟩ := h
  obtain ⟨v, ps, hrun, hv⟩ := ho.look_ok lawI Tryd.underlying65 (zeroP w) (rP_ptr none) (key64 hi)
  rw [hrun, hd.has i hi]
  obtain ⟨o, rfl⟩ := rP_inv hv
  cases hf : f i with
  | none =>
    have hh := hd.has i hi
    rw [hf] at hh
    rw [Maps.atKey_of_not_has hh, rP_ptr] at hv
    cases o with
    | none => rfl
    | some b => simp at hv
  | some b =>
    rw [(hd.at_ i b hf).2, rP_ptr] at hv
    cases o with
    | none => simp at hv
    | some b' =>
      simp at hv
      obtain ⟨e, _⟩ := hv
      have : b' = b := by omega
      rw [this]
theorem PM.look1 (h : PM w M n f) {i : Int} {b : Nat} (hf : f i = some b) : (Instr.lookup 65 (.map (some M)) (.int .i64 i) false).run Tryd.prog w = .ok (.pointer (some ⟨b, 0, none⟩)) w := by
  obtain ⟨D, ho, hd⟩ := h
  obtain ⟨hi, ha⟩ := hd.at_ i b hf
  obtain ⟨v, ps, hrun, hv⟩ := ho.lookup lawI Tryd.underlying65 (zeroP w) (rP_ptr none) (key64 hi)
  rw [hrun]
  obtain ⟨o, rfl⟩ := rP_inv hv
  rw [ha, rP_ptr] at hv
  cases o with
  | none => simp at hv
  | some b' =>
    simp at hv
    obtain ⟨e, _⟩ := hv
    have : b' = b := by omega
    rw [this]
    rfl
theorem PM.made (w : World) : PM (w.alloc (.map #[] 0)) w.heap.size 0 (fun _ => none) :=
  ⟨_, World.ownsMap_made w Tryd.prog 3 rP, rfl, fun _ _ => rfl, fun _ _ h => by cases h⟩
theorem But.turned {b : Nat} (h : w.mapTurned w' b) : But [b] w w' := But.own h.grown
theorem lit_ne {i j : Int} (h : j ≠ i) : Lit.int .i64 j ≠ Lit.int .i64 i := fun e => h (by cases e; rfl)
theorem PM.store (h : PM w M n f) {i : Int} {b : Nat} (hi : In64 i) (hf : f i = none) (hn : n < maxLen) :
    ∃ w', (Instr.mapUpdate 65 (.map (some M)) (.int .i64 i) (.pointer (some ⟨b, 0, none⟩))).run Tryd.prog w = .ok () w' ∧ PM w' M (n + 1) (fun j => if j = i then some b else f j) ∧ But [M] w w' := by
  obtain ⟨D, ho, hd⟩ := h
  obtain ⟨w', hrun, r1, r2⟩ := ho.store lawI Tryd.underlying65 hn (key64 hi) (rP_ptr (some b))
  have hm := ho.isMap
  have hk : WideAt.IsKeyLit (Lit.int .i64 i) := lawI.key (key64 hi)
  refine ⟨w', hrun, ⟨_, r1, ?_, fun j hj => ?_, fun j c hc => ?_⟩, .turned r2⟩
  · rw [Maps.size_put (ho.tidy lawI), hd.has i hi, hf, hd.sz]
    rfl
  · by_cases e : j = i
    · subst e
      rw [Maps.has_put_same hm hk]
      simp
    · rw [Maps.has_put_other (lit_ne e), hd.has j hj, if_neg e]
  · by_cases e : j = i
    · subst e
      simp at hc
      subst hc
      exact ⟨hi, fun z => Maps.atKey_put_same hm hk _ z⟩
    · rw [if_neg e] at hc
      exact ⟨(hd.at_ j c hc).1, fun z => by rw [Maps.atKey_put_other (lit_ne e), (hd.at_ j c hc).2]⟩
theorem PM.drop (h : PM w M (n + 1) f) {i : Int} {b : Nat} (hf : f i = some b) (ty : TypeId) :
    ∃ w', (Builtin.delete_ #[65, 3] ty #[.map (some M), .int .i64 i]).run Tryd.prog w = .ok (.tuple #[]) w' ∧ PM w' M n (fun j => if j = i then none else f j) ∧ But [M] w w' := by
  obtain ⟨D, ho, hd⟩ := h
  obtain ⟨hi, _⟩ := hd.at_ i b hf
  obtain ⟨w', hrun, r1, r2⟩ := ho.drop lawI Tryd.underlying65 (key64 hi) ty
  have hsz : Maps.size (D.del (.int .i64 i)) = n := by
    have := Maps.size_del (k := .int .i64 i) (ho.tidy lawI)
    rw [hd.has i hi, hf, hd.sz] at this
    simp at this
    exact this
  have r1' : w'.ownsMap Tryd.prog 3 rP M n (D.del (.int .i64 i)) := by
    obtain ⟨es, clock, e1, F, hs, e2⟩ := r1
    refine ⟨es, clock, e1, F, ?_, e2⟩
    rw [← hsz, e2]
    simp [Maps.size, length_sorted]
  refine ⟨w', hrun, ⟨_, r1', hsz, fun j hj => ?_, fun j c hc => ?_⟩, .turned r2⟩
  · by_cases e : j = i
    · subst e
      rw [Maps.has_del_same]
      simp
    · rw [Maps.has_del_other (lit_ne e), hd.has j hj, if_neg e]
  · by_cases e : j = i
    · subst e
      simp at hc
    · rw [if_neg e] at hc
      exact ⟨(hd.at_ j c hc).1, fun z => by rw [Maps.atKey_del_other (lit_ne e), (hd.at_ j c hc).2]⟩
theorem PM.len (h : PM w M n f) (ty : TypeId) : (Builtin.len_ #[65] ty #[.map (some M)]).run Tryd.prog w = .ok (.int .i64 n) w := by
  obtain ⟨D, ho, hd⟩ := h
  rw [ho.len Tryd.underlying65 ty, hd.sz]
end

section
variable (w : World) {ops : Array Oper} {rest : List Oper} {o : Oper} {a : Act} {Q : Exit → Act → World → Prop}
theorem wpList_storeP (hg : o.guard = none) (m x v : Operand) (hop : o.op = Op.mapUpdate 65 m x v) (M n : Nat) (f : Int → Option Nat) (hm : a.eval m = .map (some M)) (h : PM w M n f) (i : Int) (b : Nat) (hx : a.eval x = .int .i64 i) (hv : a.eval v = .pointer (some ⟨b, 0, none⟩)) (hi : In64 i) (hf : f i = none) (hn : n < maxLen)
    (hK : ∀ w', PM w' M (n + 1) (fun j => if j = i then some b else f j) → But [M] w w' → wpList Tryd.prog ops Q rest (a.put o.dst undef) w') : wpList Tryd.prog ops Q (o :: rest) a w := by
  refine wpList_plain hg fun K' hK' => ?_
  obtain ⟨w', hrun, r1, r2⟩ := h.store (b := b) hi hf hn
  unfold Oper.wp
  simp [execOp, hop, hm, hx, hv, hrun, Result.andThen]
  exact hK' _ _ (hK w' r1 r2)
theorem wpList_dropP (hg : o.guard = none) (m x : Operand) (hop : o.op = Op.call { callee := Callee.builtin Builtin.delete, args := #[m, x], argTypes := #[65, 3] }) (M n : Nat) (f : Int → Option Nat) (hm : a.eval m = .map (some M)) (h : PM w M (n + 1) f) (i : Int) (b : Nat) (hx : a.eval x = .int .i64 i) (hf : f i = some b)
    (hK : ∀ w', PM w' M n (fun j => if j = i then none else f j) → But [M] w w' → wpList Tryd.prog ops Q rest (a.put o.dst (.tuple #[])) w') : wpList Tryd.prog ops Q (o :: rest) a w := by
  refine wpList_plain hg fun K' hK' => ?_
  obtain ⟨w', hrun, r1, r2⟩ := h.drop hf o.type
  unfold Oper.wp
  simp [execOp, hop, resolve, invoke, builtin, hm, hx, hrun, Result.andThen]
  exact hK' _ _ (hK w' r1 r2)
theorem wpList_rangeP (hg : o.guard = none) (m : Operand) (hop : o.op = Op.range 65 m) (M n : Nat) (f : Int → Option Nat) (hm : a.eval m = .map (some M)) (h : PM w M n f)
    (hK : ∀ w', RG w' M w.heap.size n f (fun i => (f i).isSome) n → But [] w w' → w'.heap.size = w.heap.size + 1 → wpList Tryd.prog ops Q rest (a.put o.dst (.pointer (some ⟨w.heap.size, 0, none⟩))) w') : wpList Tryd.prog ops Q (o :: rest) a w := by
  obtain ⟨D, ho, hd⟩ := h
  refine wpList_range_own w hg m 65 hop 3 80 lawI Tryd.underlying65 rP M n D hm ho ?_
  intro w' r1 r2 r3
  refine hK w' ⟨D, _, by rw [← hd.sz]; rw [hd.sz]; exact (hd.sz ▸ r1 : w'.ranges Tryd.prog 3 rP M w.heap.size n D (Maps.has D) n), hd, fun i hi => hd.has i hi⟩ (But.own r2) r3
theorem wpList_nextP (hg : o.guard = none) (it : Operand) (hop : o.op = Op.next it false) (M r n : Nat) (f : Int → Option Nat) (left : Int → Bool) (cnt : Nat) (hit : a.eval it = .pointer (some ⟨r, 0, none⟩)) (h : RG w M r n f left cnt)
    (hDone : (∀ i b, f i = some b → left i = false) → wpList Tryd.prog ops Q rest (a.put o.dst (.tuple #[.bool false])) w)
    (hMore : ∀ (i : Int) (b : Nat) (w' : World) (cnt' : Nat), f i = some b → left i = true → RG w' M r n f (fun j => left j && !(j == i)) cnt' → cnt' < cnt → But [r] w w' → w'.heap.size = w.heap.size → (Instr.entry (.pointer (some ⟨r, 0, none⟩))).run Tryd.prog w' = .ok (.tuple #[.int .i64 i, .pointer (some ⟨b, 0, none⟩)]) w' →
      wpList Tryd.prog ops Q rest (a.put o.dst (.tuple #[.bool true, .int .i64 i, .pointer (some ⟨b, 0, none⟩)])) w') : wpList Tryd.prog ops Q (o :: rest) a w := by
  obtain ⟨D, lf, hr, hd, hl⟩ := h
  refine wpList_next_ranges w hg it hop 3 lawI rP (Value.int .i64) ptr (fun key kl hkey => by obtain ⟨x, rfl, _⟩ := Maps.keyOf_int_inv Tryd.underlying3 hkey; exact ⟨x, rfl⟩) (fun v y hv => rP_inv hv) M r n D lf cnt hit hr ?_ ?_
  · intro _ h0
    exact hDone fun i b hf => by rw [← hl i (hd.at_ i b hf).1, h0]
  · intro i c kl y w' cnt' hkey hlk hv hat hrg hlt hgr hsz hen
    obtain ⟨x', ex, rfl, hwx⟩ := Maps.keyOf_int_inv Tryd.underlying3 hkey
    cases ex
    have hi := wf64.1 hwx
    have hh := hd.has i hi
    rw [Maps.has_true_of_atKey hat] at hh
    obtain ⟨b, hb⟩ := Option.isSome_iff_exists.1 hh.symm
    have e1 := hat .nil
    rw [(hd.at_ i b hb).2] at e1
    rw [rP_ptr] at hv
    have e2 := congrArg litI e1
    have e3 := Option.some.inj hv
    obtain rfl : c = some b := by
      cases c with
      | none =>
        rw [← e3] at e2
        have : (b : Int) = -1 := e2
        omega
      | some b' =>
        rw [← e3] at e2
        have : (b : Int) = b' := e2
        exact congrArg some (by omega)
    refine hMore i b w' cnt' hb (by rw [← hl i hi]; exact hlk) ⟨D, _, hrg, hd, fun j hj => ?_⟩ hlt (But.own hgr) hsz hen
    have e : (Lit.int .i64 j).sameKey (.int .i64 i) = (j == i) := by
      by_cases e : j = i
      · subst e
        rw [WideAt.sameKey_self (lawI.key hkey)]
        simp
      · rw [Maps.sameKey_ne (lit_ne e)]
        symm
        simpa using e
    rw [hl j hj, e]
end
end Go.Proofs.YtjgclehghnmhnaaDoor
