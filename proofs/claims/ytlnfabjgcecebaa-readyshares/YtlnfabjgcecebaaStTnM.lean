/- Picks of least passes: what Bound and Within tell of them. -/
import Derived.Test.YtlnfabjgcecebaaStM
import Derived.Test.YtlnfabjgcecebaaJ10
namespace Go.Proofs.Ytlnfabjgcecebaa.Str
open Go.RowKit Go.Proofs.Ytlnfabjgcecebaa.Big

/-- Tickets and strides as plain numbers. -/
def tN (T : List Int) (i : Nat) : Nat := (ix T i).toNat
def sN (T : List Int) (i : Nat) : Nat := (strI (ix T i)).toNat
section
variable {T : List Int}
theorem tN_eq (hg : allB T = true) {i : Nat} (hi : i < T.length) : ix T i = (tN T i : Int) ∧ 1 ≤ tN T i ∧ tN T i ≤ 65536 := by
  have := good_iff.1 (all_ix hg hi)
  unfold tN
  omega
theorem sN_eq (hg : allB T = true) {i : Nat} (hi : i < T.length) : strI (ix T i) = (sN T i : Int) ∧ sN T i = 1099511627776 / tN T i ∧ 0 < sN T i ∧ sN T i ≤ 1099511627776 := by
  have h := all_ix hg hi
  have h1 := str_pos h
  obtain ⟨e, t1, t2⟩ := tN_eq hg hi
  have h2 := str_good h
  rw [e] at h2
  have h3 : strI (ix T i) = ((1099511627776 / tN T i : Nat) : Int) := by rw [e, h2]; simp
  have h4 : strI (ix T i) = (sN T i : Int) := by unfold sN; omega
  refine ⟨h4, by omega, by omega, by omega⟩
theorem sum_sm {g : Int → Int} {f : Nat → Nat} : ∀ m : Nat, (∀ j, j < m → g (ix T j) = (f j : Int)) → sumG g T m = (sm m f : Int)
  | 0, _ => rfl
  | m + 1, h => by
    show sumG g T m + g (ix T m) = ((sm m f + f m : Nat) : Int)
    rw [sum_sm m (fun j hj => h j (by omega)), h m (by omega), Int.natCast_add]
theorem bnd_eq (hg : allB T = true) (hn : T.length ≤ 32) {i : Nat} (hi : i < T.length) : bndI T i = (sm T.length (fun j => 2 + sN T i / sN T j) : Int) := by
  have h : oneB T i = true := one_iff.2 ⟨⟨hn, by omega, by omega⟩, hg⟩
  rw [show bndI T i = sumG (oftI (strI (ix T (i : Int).toNat))) T T.length from if_pos h, show (i : Int).toNat = i by omega]
  refine sum_sm _ (fun j hj => ?_)
  unfold oftI
  rw [(sN_eq hg hi).1, (sN_eq hg hj).1]
  simp
variable {p n sc : Nat → Nat}
theorem Turns.bnd (h : Turns T.length (sN T) p n sc) (hg : allB T = true) (hn : T.length ≤ 32) {i : Nat} (hi : i < T.length) : (sc i : Int) + 1 ≤ bndI T i := by
  rw [bnd_eq hg hn hi]
  have := h.bound (fun j hj => (sN_eq hg hj).2.2.1) hi
  omega
theorem Turns.near (h : Turns T.length (sN T) p n sc) (hg : allB T = true) {i j : Nat} (hi : i < T.length) (hj : j < T.length) (hni : n i ≤ 300) (hnj : n j ≤ 300) : withB (n i) (ix T i) (n j) (ix T j) 1 = true := by
  have h1 := h.within (t := tN T) (fun k hk => (sN_eq hg hk).2.1) (fun k hk => (tN_eq hg hk).2) hi hj hni
  have h2 := h.within (t := tN T) (fun k hk => (sN_eq hg hk).2.1) (fun k hk => (tN_eq hg hk).2) hj hi hnj
  unfold withB
  rw [all_ix hg hi, all_ix hg hj, (tN_eq hg hi).1, (tN_eq hg hj).1]
  simp only [Bool.and_self, Bool.true_and, decide_eq_true_eq, Bool.and_eq_true]
  refine ⟨by omega, ?_⟩
  rw [← Int.natCast_mul, ← Int.natCast_mul]
  unfold absI
  split <;> omega
theorem Turns.pass (h : Turns T.length (sN T) p n sc) (hg : allB T = true) {i : Nat} (hi : i < T.length) (hni : n i ≤ 300) : p i ≤ 329853488332800 := by
  rw [h.pn i hi]
  have := (sN_eq hg hi).2.2.2
  exact Nat.mul_le_mul hni this
end
/-- Numbers by their places, as cells. -/
def lst (m : Nat) (f : Nat → Nat) : List Value := (List.range m).map (fun i => .int .i64 (f i : Int))
theorem lst_get {m i : Nat} {f : Nat → Nat} (h : i < m) : (lst m f)[i]? = some (.int .i64 (f i : Int)) := by
  unfold lst
  rw [List.getElem?_map, List.getElem?_range h]
  rfl
theorem lst_set {m i : Nat} {f : Nat → Nat} (v : Nat) : (lst m f).set i (.int .i64 (v : Int)) = lst m (upd f i v) := by
  apply List.ext_getElem?
  intro k
  by_cases e : i = k
  · subst e
    by_cases h : i < m
    · rw [List.getElem?_set_self (by simpa [lst] using h), lst_get h, upd_same]
    · rw [List.getElem?_eq_none (by simpa [lst] using Nat.le_of_not_lt h), List.getElem?_eq_none (by simpa [lst] using Nat.le_of_not_lt h)]
  · rw [List.getElem?_set_ne e]
    by_cases h : k < m
    · rw [lst_get h, lst_get h, upd_other f v (fun x => e x.symm)]
    · rw [List.getElem?_eq_none (by simpa [lst] using Nat.le_of_not_lt h), List.getElem?_eq_none (by simpa [lst] using Nat.le_of_not_lt h)]
theorem lst_congr {m : Nat} {f g : Nat → Nat} (h : ∀ i, i < m → f i = g i) : lst m f = lst m g := by
  unfold lst
  refine List.map_congr_left (fun i hi => ?_)
  rw [h i (List.mem_range.1 hi)]
theorem lst_zero (m : Nat) : lst m (fun _ => 0) = List.replicate m (.int .i64 0) := by
  unfold lst
  apply List.ext_getElem?
  intro k
  by_cases h : k < m
  · rw [List.getElem?_map, List.getElem?_range h, List.getElem?_replicate, if_pos h]; rfl
  · rw [List.getElem?_eq_none (by simpa using Nat.le_of_not_lt h), List.getElem?_eq_none (by simpa using Nat.le_of_not_lt h)]

/-- Three rows of the law's own: passes, picks, picks since. -/
structure Tn (wA : World) (g8 g9 g10 m : Nat) (p n c : Nat → Nat) (W : World) : Prop where
  k : Below wA.heap.size wA W
  r8 : Row W g8 3 (lst m p)
  r9 : Row W g9 3 (lst m n)
  r10 : Row W g10 3 (lst m c)
  l8 : wA.heap.size ≤ g8
  l9 : wA.heap.size ≤ g9
  l10 : wA.heap.size ≤ g10
  d1 : g8 ≠ g9
  d2 : g8 ≠ g10
  d3 : g9 ≠ g10
section
variable {wA W W' : World} {g8 g9 g10 m : Nat} {p n c : Nat → Nat}
theorem Tn.below (h : Tn wA g8 g9 g10 m p n c W) (hb : Below W.heap.size W W') : Tn wA g8 g9 g10 m p n c W' :=
  ⟨below2 h.k h.k.size hb, h.r8.put (hb.block _ h.r8.lt), h.r9.put (hb.block _ h.r9.lt), h.r10.put (hb.block _ h.r10.lt), h.l8, h.l9, h.l10, h.d1, h.d2, h.d3⟩
theorem Tn.set8 (h : Tn wA g8 g9 g10 m p n c W) (i v : Nat) : Tn wA g8 g9 g10 m (upd p i v) n c (W.setCell ⟨g8, i, none⟩ (.int .i64 (v : Int))) :=
  ⟨h.k.trans ⟨rfl, rfl, rfl, by simp [World.setCell], fun k hk => Below.heap_setCell _ _ _ _ (fun e => by have := h.l8; have e' : k = g8 := e; omega)⟩, by rw [← lst_set]; exact h.r8.set _ _, h.r9.other (fun e => h.d1 e.symm) _ _, h.r10.other (fun e => h.d2 e.symm) _ _, h.l8, h.l9, h.l10, h.d1, h.d2, h.d3⟩
theorem Tn.set9 (h : Tn wA g8 g9 g10 m p n c W) (i v : Nat) : Tn wA g8 g9 g10 m p (upd n i v) c (W.setCell ⟨g9, i, none⟩ (.int .i64 (v : Int))) :=
  ⟨h.k.trans ⟨rfl, rfl, rfl, by simp [World.setCell], fun k hk => Below.heap_setCell _ _ _ _ (fun e => by have := h.l9; have e' : k = g9 := e; omega)⟩, h.r8.other h.d1 _ _, by rw [← lst_set]; exact h.r9.set _ _, h.r10.other (fun e => h.d3 e.symm) _ _, h.l8, h.l9, h.l10, h.d1, h.d2, h.d3⟩
theorem Tn.set10 (h : Tn wA g8 g9 g10 m p n c W) (i v : Nat) : Tn wA g8 g9 g10 m p n (upd c i v) (W.setCell ⟨g10, i, none⟩ (.int .i64 (v : Int))) :=
  ⟨h.k.trans ⟨rfl, rfl, rfl, by simp [World.setCell], fun k hk => Below.heap_setCell _ _ _ _ (fun e => by have := h.l10; have e' : k = g10 := e; omega)⟩, h.r8.other h.d2 _ _, h.r9.other h.d3 _ _, by rw [← lst_set]; exact h.r10.set _ _, h.l8, h.l9, h.l10, h.d1, h.d2, h.d3⟩
theorem Tn.congr (h : Tn wA g8 g9 g10 m p n c W) {c' : Nat → Nat} (e : ∀ i, i < m → c i = c' i) : Tn wA g8 g9 g10 m p n c' W :=
  ⟨h.k, h.r8, h.r9, lst_congr e ▸ h.r10, h.l8, h.l9, h.l10, h.d1, h.d2, h.d3⟩
end
end Go.Proofs.Ytlnfabjgcecebaa.Str
