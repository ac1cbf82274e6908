/- The document's locks as they lie in memory; rows that are read, and rows without one. -/
import Derived.Test.YtimoleijdfoahaaLoG
import Derived.Deep.RegionHeld
import Derived.OrdersHeld
namespace Go.Proofs.Ytimoleijdfoahaa.Lo
open Go Go.RowKit Go.Proofs.Ytimoleijdfoahaa.Bs
open Go.Proofs.Ytimoleijdfoahaa.Lk (inN inN_of inN_out wI lsI wI_nat whI whI_none whI_some whI_cases ints ints_iv ints_len iv)

/-- A row of threads, in a block of R that is none of F. -/
def RowF (w : World) (F R : List Nat) (v : Value) (q : List Nat) : Prop := RowI w 0 v (ints q) ∧ ∀ g, v.ownBlock = some g → g ∈ R ∧ g ∉ F
/-- Numbers of a slice, as they are read. -/
def Rd (w : World) (v : Value) (xs : List Int) : Prop := ∃ a c, v = .slice a xs.length c ∧ ∀ j x, xs[j]? = some x → ∃ g, a = some ⟨g, 0, none⟩ ∧ w.cell? ⟨g, j, none⟩ = some (.int .i64 x)
theorem _root_.Go.Proofs.Ytimoleijdfoahaa.Bs.RowI.low {w : World} {base : Nat} {v : Value} {q : List Int} (h : RowI w base v q) : ∀ x, v.ownBlock = some x → base ≤ x ∧ x < w.heap.size := fun x e => World.ownsRow.lt h x e
theorem _root_.Go.Proofs.Ytimoleijdfoahaa.Bs.RowI.rd {w : World} {base : Nat} {v : Value} {q : List Int} (h : RowI w base v q) : Rd w v q := by
  obtain ⟨a, c, e, -, -, -, hc⟩ := h.shape
  exact ⟨a, c, e, hc⟩
theorem Rd.below {w w' : World} {v : Value} {xs : List Int} (h : Rd w v xs) (hb : Below w.heap.size w w') : Rd w' v xs := by
  obtain ⟨a, c, e, hc⟩ := h
  refine ⟨a, c, e, fun j x hx => ?_⟩
  obtain ⟨g, e1, e2⟩ := hc j x hx
  exact ⟨g, e1, cell_on hb e2⟩
theorem ints_get {q : List Nat} {j : Nat} (h : j < q.length) : (ints q)[j]? = some ((q.getD j 0 : Nat) : Int) := by
  unfold ints
  rw [List.getElem?_map, get_of (d := 0) h]
  rfl

structure RM (w : World) (M ob wb sb ab : Nat) (R : List Nat) (n T : Nat) (vw vs : List Value) (σ : St) : Prop where
  b : ∃ c1 c2 c3 c4, w.heap[M]? = some (.cells #[.int .i64 T, .slice (some ⟨ob, 0, none⟩) n c1, .slice (some ⟨wb, 0, none⟩) n c2, .slice (some ⟨sb, 0, none⟩) n c3, .slice (some ⟨ab, 0, none⟩) T c4] 63 (0, 0))
  o : Row w ob 3 (σ.own.map (Value.int .i64))
  wr : Row w wb 35 vw
  sr : Row w sb 35 vs
  a : Row w ab 3 (σ.ag.map iv)
  rw : ∀ o, o < n → ∃ v, vw[o]? = some v ∧ RowF w [M, ob, wb, sb, ab] R v (W σ o)
  rs : ∀ c, c < n → ∃ v, vs[c]? = some v ∧ RowF w [M, ob, wb, sb, ab] R v (S σ c)
  nd : [M, ob, wb, sb, ab].Nodup
  fr : ∀ x ∈ [M, ob, wb, sb, ab], x ∈ R
  lt : ∀ x ∈ R, x < w.heap.size
  ol : σ.own.length = n
  al : σ.ag.length = T
  ll : σ.ls.length = n + n
/-- The document's locks, all their blocks being R. -/
def RQ (w : World) (M : Nat) (R : List Nat) (n T : Nat) (σ : St) : Prop := Ok n T σ ∧ ∃ ob wb sb ab vw vs, RM w M ob wb sb ab R n T vw vs σ

section
variable {w w' : World} {M ob wb sb ab n T : Nat} {R R' F : List Nat} {vw vs : List Value} {σ : St} {q : List Nat} {v : Value}
theorem RowF.put (h : RowF w F R v q) (hb : ∀ g ∈ R, g ∉ F → w'.heap[g]? = w.heap[g]?) : RowF w' F R v q :=
  ⟨ownsRow_put h.1 (fun k e => hb k (h.2 k e).1 (h.2 k e).2), h.2⟩
theorem RowF.more (h : RowF w F R v q) (hR : ∀ x ∈ R, x ∈ R') : RowF w F R' v q := ⟨h.1, fun g e => ⟨hR g (h.2 g e).1, (h.2 g e).2⟩⟩
theorem RowF.rd (h : RowF w F R v q) : Rd w v (ints q) := h.1.rd
/-- A row of the call's own. -/
theorem RowF.own {lo : Nat} (h : RowI w lo v (ints q)) (hF : ∀ x ∈ F, x < lo) : RowF w F (v.ownBlock.toList ++ R) v q := by
  refine ⟨⟨h.1, h.2.imp id (fun ⟨g, cap, cur, h1, h2, h3⟩ => ⟨g, cap, cur, h1, Nat.zero_le _, h3⟩)⟩, fun g e => ⟨by rw [e]; simp, fun hg => ?_⟩⟩
  have := (h.low g e).1
  have := hF g hg
  omega
theorem RM.c0 (h : RM w M ob wb sb ab R n T vw vs σ) : w.cell? ⟨M, 0, none⟩ = some (.int .i64 T) := by
  obtain ⟨c1, c2, c3, c4, hb⟩ := h.b
  simp [World.cell?, hb]
theorem RM.c1 (h : RM w M ob wb sb ab R n T vw vs σ) : ∃ c, w.cell? ⟨M, 1, none⟩ = some (.slice (some ⟨ob, 0, none⟩) n c) := by
  obtain ⟨c1, c2, c3, c4, hb⟩ := h.b
  exact ⟨c1, by simp [World.cell?, hb]⟩
theorem RM.c2 (h : RM w M ob wb sb ab R n T vw vs σ) : ∃ c, w.cell? ⟨M, 2, none⟩ = some (.slice (some ⟨wb, 0, none⟩) n c) := by
  obtain ⟨c1, c2, c3, c4, hb⟩ := h.b
  exact ⟨c2, by simp [World.cell?, hb]⟩
theorem RM.c3 (h : RM w M ob wb sb ab R n T vw vs σ) : ∃ c, w.cell? ⟨M, 3, none⟩ = some (.slice (some ⟨sb, 0, none⟩) n c) := by
  obtain ⟨c1, c2, c3, c4, hb⟩ := h.b
  exact ⟨c3, by simp [World.cell?, hb]⟩
theorem RM.c4 (h : RM w M ob wb sb ab R n T vw vs σ) : ∃ c, w.cell? ⟨M, 4, none⟩ = some (.slice (some ⟨ab, 0, none⟩) T c) := by
  obtain ⟨c1, c2, c3, c4, hb⟩ := h.b
  exact ⟨c4, by simp [World.cell?, hb]⟩
theorem RM.own (h : RM w M ob wb sb ab R n T vw vs σ) {o : Nat} (ho : o < n) : w.cell? ⟨ob, o, none⟩ = some (.int .i64 (ow σ o)) := h.o.cell (by rw [List.getElem?_map, get_of (d := -1) (by rw [h.ol]; exact ho)]; rfl)
theorem RM.ag (h : RM w M ob wb sb ab R n T vw vs σ) {t : Nat} (ht : t < T) : w.cell? ⟨ab, t, none⟩ = some (.int .i64 (agN σ t : Nat)) := h.a.cell (by rw [List.getElem?_map, get_of (d := 0) (by rw [h.al]; exact ht)]; rfl)
theorem RM.wc (h : RM w M ob wb sb ab R n T vw vs σ) {o : Nat} (ho : o < n) : ∃ v, w.cell? ⟨wb, o, none⟩ = some v ∧ RowF w [M, ob, wb, sb, ab] R v (W σ o) := by
  obtain ⟨v, e, hv⟩ := h.rw o ho
  exact ⟨v, h.wr.cell e, hv⟩
theorem RM.sc (h : RM w M ob wb sb ab R n T vw vs σ) {c : Nat} (hc : c < n) : ∃ v, w.cell? ⟨sb, c, none⟩ = some v ∧ RowF w [M, ob, wb, sb, ab] R v (S σ c) := by
  obtain ⟨v, e, hv⟩ := h.rs c hc
  exact ⟨v, h.sr.cell e, hv⟩
theorem RM.put (h : RM w M ob wb sb ab R n T vw vs σ) (hb : ∀ x ∈ R, w'.heap[x]? = w.heap[x]?) (hs : w.heap.size ≤ w'.heap.size) : RM w' M ob wb sb ab R n T vw vs σ := by
  obtain ⟨c1, c2, c3, c4, e⟩ := h.b
  exact ⟨⟨c1, c2, c3, c4, (hb _ (h.fr _ (by simp))).trans e⟩, h.o.put (hb _ (h.fr _ (by simp))), h.wr.put (hb _ (h.fr _ (by simp))), h.sr.put (hb _ (h.fr _ (by simp))), h.a.put (hb _ (h.fr _ (by simp))),
    fun o ho => by obtain ⟨v, e, hv⟩ := h.rw o ho; exact ⟨v, e, hv.put (fun g hg _ => hb g hg)⟩, fun c hc => by obtain ⟨v, e, hv⟩ := h.rs c hc; exact ⟨v, e, hv.put (fun g hg _ => hb g hg)⟩,
    h.nd, h.fr, fun x hx => by have := h.lt x hx; omega, h.ol, h.al, h.ll⟩
theorem RM.out {S' : List Nat} (h : RM w M ob wb sb ab R n T vw vs σ) (hb : But S' w w') (hS : Disj R S') : RM w' M ob wb sb ab R n T vw vs σ :=
  h.put (fun x hx => hb.block x (h.lt x hx) (hS x hx)) hb.size
theorem RM.keep (h : RM w M ob wb sb ab R n T vw vs σ) (hb : But [] w w') : RM w' M ob wb sb ab R n T vw vs σ := h.out hb (by simp [Disj])
theorem RM.below (h : RM w M ob wb sb ab R n T vw vs σ) (hb : Below w.heap.size w w') : RM w' M ob wb sb ab R n T vw vs σ := h.keep (.of_below hb)
theorem RM.drew (h : RM w M ob wb sb ab R n T vw vs σ) : RM w.drew M ob wb sb ab R n T vw vs σ := h.keep (But.refl [] w).drew
theorem RM.more (h : RM w M ob wb sb ab R n T vw vs σ) (hR : ∀ x ∈ R, x ∈ R') (hl : ∀ x ∈ R', x < w.heap.size) : RM w M ob wb sb ab R' n T vw vs σ :=
  ⟨h.b, h.o, h.wr, h.sr, h.a, fun o ho => by obtain ⟨v, e, hv⟩ := h.rw o ho; exact ⟨v, e, hv.more hR⟩, fun c hc => by obtain ⟨v, e, hv⟩ := h.rs c hc; exact ⟨v, e, hv.more hR⟩, h.nd, fun x hx => hR x (h.fr x hx), hl, h.ol, h.al, h.ll⟩
theorem RM.nes (h : RM w M ob wb sb ab R n T vw vs σ) : (M ≠ ob ∧ M ≠ wb ∧ M ≠ sb ∧ M ≠ ab) ∧ (ob ≠ wb ∧ ob ≠ sb ∧ ob ≠ ab) ∧ (wb ≠ sb ∧ wb ≠ ab) ∧ sb ≠ ab := by
  have := h.nd
  simpa [and_assoc] using this
/-- Another owner. -/
theorem RM.setO (h : RM w M ob wb sb ab R n T vw vs σ) (o : Nat) (x : Int) : RM (w.setCell ⟨ob, o, none⟩ (.int .i64 x)) M ob wb sb ab R n T vw vs ⟨σ.own.set o x, σ.ls, σ.ag⟩ := by
  obtain ⟨⟨h1, h2, h3, h4⟩, ⟨h5, h6, h7⟩, ⟨h8, h9⟩, h10⟩ := h.nes
  obtain ⟨c1, c2, c3, c4, e⟩ := h.b
  have hz : (w.setCell ⟨ob, o, none⟩ (.int .i64 x)).heap.size = w.heap.size := by simp [World.setCell]
  have hF : ∀ g ∈ R, g ∉ [M, ob, wb, sb, ab] → (w.setCell ⟨ob, o, none⟩ (.int .i64 x)).heap[g]? = w.heap[g]? := fun g _ hg => Below.heap_setCell w ⟨ob, o, none⟩ _ g (fun e => hg (by simp [e]))
  refine ⟨⟨c1, c2, c3, c4, (Below.heap_setCell w ⟨ob, o, none⟩ _ M h1).trans e⟩, ?_, h.wr.other h5.symm _ _, h.sr.other h6.symm _ _, h.a.other h7.symm _ _,
    fun k hk => by obtain ⟨v, e, hv⟩ := h.rw k hk; exact ⟨v, e, hv.put hF⟩, fun k hk => by obtain ⟨v, e, hv⟩ := h.rs k hk; exact ⟨v, e, (show S ⟨σ.own.set o x, σ.ls, σ.ag⟩ k = S σ k by unfold S; rw [List.length_set]) ▸ hv.put hF⟩, h.nd, h.fr, fun y hy => by rw [hz]; exact h.lt y hy, by simpa using h.ol, h.al, h.ll⟩
  rw [List.map_set]
  exact h.o.set o _
/-- Another lock that a thread is to have again. -/
theorem RM.setA (h : RM w M ob wb sb ab R n T vw vs σ) (t o : Nat) : RM (w.setCell ⟨ab, t, none⟩ (.int .i64 o)) M ob wb sb ab R n T vw vs ⟨σ.own, σ.ls, σ.ag.set t o⟩ := by
  obtain ⟨⟨h1, h2, h3, h4⟩, ⟨h5, h6, h7⟩, ⟨h8, h9⟩, h10⟩ := h.nes
  obtain ⟨c1, c2, c3, c4, e⟩ := h.b
  have hz : (w.setCell ⟨ab, t, none⟩ (.int .i64 o)).heap.size = w.heap.size := by simp [World.setCell]
  have hF : ∀ g ∈ R, g ∉ [M, ob, wb, sb, ab] → (w.setCell ⟨ab, t, none⟩ (.int .i64 o)).heap[g]? = w.heap[g]? := fun g _ hg => Below.heap_setCell w ⟨ab, t, none⟩ _ g (fun e => hg (by simp [e]))
  refine ⟨⟨c1, c2, c3, c4, (Below.heap_setCell w ⟨ab, t, none⟩ _ M h4).trans e⟩, h.o.other h7 _ _, h.wr.other h9 _ _, h.sr.other h10 _ _, ?_,
    fun k hk => by obtain ⟨v, e, hv⟩ := h.rw k hk; exact ⟨v, e, hv.put hF⟩, fun k hk => by obtain ⟨v, e, hv⟩ := h.rs k hk; exact ⟨v, e, hv.put hF⟩, h.nd, h.fr, fun y hy => by rw [hz]; exact h.lt y hy, h.ol, by simpa using h.al, h.ll⟩
  rw [List.map_set]
  exact h.a.set t _
/-- Another row of those that wait for a lock. -/
theorem RM.setW (h : RM w M ob wb sb ab R n T vw vs σ) {o : Nat} (ho : o < n) {v : Value} {q : List Nat} (hv : RowF w [M, ob, wb, sb, ab] R v q) : RM (w.setCell ⟨wb, o, none⟩ v) M ob wb sb ab R n T (vw.set o v) vs ⟨σ.own, σ.ls.set o q, σ.ag⟩ := by
  obtain ⟨⟨h1, h2, h3, h4⟩, ⟨h5, h6, h7⟩, ⟨h8, h9⟩, h10⟩ := h.nes
  obtain ⟨c1, c2, c3, c4, e⟩ := h.b
  have hz : (w.setCell ⟨wb, o, none⟩ v).heap.size = w.heap.size := by simp [World.setCell]
  have hF : ∀ g ∈ R, g ∉ [M, ob, wb, sb, ab] → (w.setCell ⟨wb, o, none⟩ v).heap[g]? = w.heap[g]? := fun g _ hg => Below.heap_setCell w ⟨wb, o, none⟩ _ g (fun e => hg (by simp [e]))
  refine ⟨⟨c1, c2, c3, c4, (Below.heap_setCell w ⟨wb, o, none⟩ _ M h2).trans e⟩, h.o.other h5 _ _, h.wr.set o v, h.sr.other h8.symm _ _, h.a.other h9.symm _ _,
    fun k hk => ?_, fun k hk => ?_, h.nd, h.fr, fun y hy => by rw [hz]; exact h.lt y hy, h.ol, h.al, by simpa using h.ll⟩
  · have hW : W ⟨σ.own, σ.ls.set o q, σ.ag⟩ k = if k = o then q else W σ k := getD_set (by rw [h.ll]; omega)
    rw [hW]
    obtain ⟨u, e, hu⟩ := h.rw k hk
    by_cases hko : k = o
    · subst hko
      rw [if_pos rfl]
      exact ⟨v, List.getElem?_set_self (List.getElem?_eq_some_iff.1 e).1, hv.put hF⟩
    · rw [if_neg hko]
      exact ⟨u, by rw [List.getElem?_set_ne (fun e => hko e.symm)]; exact e, hu.put hF⟩
  · have hS : S ⟨σ.own, σ.ls.set o q, σ.ag⟩ k = S σ k := by
      unfold S
      dsimp only
      rw [getD_set (by rw [h.ll]; omega), if_neg (by rw [h.ol]; omega)]
    rw [hS]
    obtain ⟨u, e, hu⟩ := h.rs k hk
    exact ⟨u, e, hu.put hF⟩
/-- Another row of those that wait for a condition. -/
theorem RM.setS (h : RM w M ob wb sb ab R n T vw vs σ) {c : Nat} (hc : c < n) {v : Value} {q : List Nat} (hv : RowF w [M, ob, wb, sb, ab] R v q) : RM (w.setCell ⟨sb, c, none⟩ v) M ob wb sb ab R n T vw (vs.set c v) ⟨σ.own, σ.ls.set (σ.own.length + c) q, σ.ag⟩ := by
  obtain ⟨⟨h1, h2, h3, h4⟩, ⟨h5, h6, h7⟩, ⟨h8, h9⟩, h10⟩ := h.nes
  obtain ⟨c1, c2, c3, c4, e⟩ := h.b
  have hz : (w.setCell ⟨sb, c, none⟩ v).heap.size = w.heap.size := by simp [World.setCell]
  have hF : ∀ g ∈ R, g ∉ [M, ob, wb, sb, ab] → (w.setCell ⟨sb, c, none⟩ v).heap[g]? = w.heap[g]? := fun g _ hg => Below.heap_setCell w ⟨sb, c, none⟩ _ g (fun e => hg (by simp [e]))
  refine ⟨⟨c1, c2, c3, c4, (Below.heap_setCell w ⟨sb, c, none⟩ _ M h3).trans e⟩, h.o.other h6 _ _, h.wr.other h8 _ _, h.sr.set c v, h.a.other h10.symm _ _,
    fun k hk => ?_, fun k hk => ?_, h.nd, h.fr, fun y hy => by rw [hz]; exact h.lt y hy, h.ol, h.al, by simpa using h.ll⟩
  · have hW : W ⟨σ.own, σ.ls.set (σ.own.length + c) q, σ.ag⟩ k = W σ k := by
      unfold W
      rw [getD_set (by rw [h.ll, h.ol]; omega), if_neg (by rw [h.ol]; omega)]
    rw [hW]
    obtain ⟨u, e, hu⟩ := h.rw k hk
    exact ⟨u, e, hu.put hF⟩
  · have hS : S ⟨σ.own, σ.ls.set (σ.own.length + c) q, σ.ag⟩ k = if k = c then q else S σ k := by
      unfold S
      dsimp only
      rw [getD_set (by rw [h.ll, h.ol]; omega)]
      by_cases e : k = c
      · rw [if_pos (by omega), if_pos e]
      · rw [if_neg (by omega), if_neg e]
    rw [hS]
    obtain ⟨u, e, hu⟩ := h.rs k hk
    by_cases hkc : k = c
    · subst hkc
      rw [if_pos rfl]
      exact ⟨v, List.getElem?_set_self (List.getElem?_eq_some_iff.1 e).1, hv.put hF⟩
    · rw [if_neg hkc]
      exact ⟨u, by rw [List.getElem?_set_ne (fun e => hkc e.symm)]; exact e, hu.put hF⟩
theorem RM.fz (h : RM w M ob wb sb ab R n T vw vs σ) (j : Nat) : w.frozen? ⟨ob, j, none⟩ = false ∧ w.frozen? ⟨wb, j, none⟩ = false ∧ w.frozen? ⟨sb, j, none⟩ = false ∧ w.frozen? ⟨ab, j, none⟩ = false := ⟨h.o.fz j, h.wr.fz j, h.sr.fz j, h.a.fz j⟩

theorem object_any (h : RM w M ob wb sb ab R n T vw vs σ) (o : Int) : Calls Try.prog 56 #[.pointer (some ⟨M, 0, none⟩), .int .i64 o] w fun e w' => e = .returned (.bool (inO σ o)) ∧ w' = w := by
  obtain ⟨c, c1⟩ := h.c1
  unfold inO inN
  rw [h.ol]
  by_cases h1 : 0 ≤ o
  · by_cases h2 : o < (n : Int)
    · rw [decide_eq_true ⟨h1, h2⟩]
      go_enter Try.func56, Try.ntmps56
      go_wp2_with fail
      go_ret
      exact ⟨rfl, rfl⟩
    · rw [decide_eq_false (fun h => h2 h.2)]
      go_enter Try.func56, Try.ntmps56
      go_wp2_with fail
      go_ret
      exact ⟨rfl, rfl⟩
  · rw [decide_eq_false (fun h => h1 h.1)]
    go_enter Try.func56, Try.ntmps56
    go_wp2_with fail
    go_ret
    exact ⟨rfl, rfl⟩
theorem thread_any (h : RM w M ob wb sb ab R n T vw vs σ) (t : Int) : Calls Try.prog 57 #[.pointer (some ⟨M, 0, none⟩), .int .i64 t] w fun e w' => e = .returned (.bool (inT σ t)) ∧ w' = w := by
  have c0 := h.c0
  unfold inT inN
  rw [h.al]
  by_cases h1 : 0 ≤ t
  · by_cases h2 : t < (T : Int)
    · rw [decide_eq_true ⟨h1, h2⟩]
      go_enter Try.func57, Try.ntmps57
      go_wp2_with fail
      go_ret
      exact ⟨rfl, rfl⟩
    · rw [decide_eq_false (fun h => h2 h.2)]
      go_enter Try.func57, Try.ntmps57
      go_wp2_with fail
      go_ret
      exact ⟨rfl, rfl⟩
  · rw [decide_eq_false (fun h => h1 h.1)]
    go_enter Try.func57, Try.ntmps57
    go_wp2_with fail
    go_ret
    exact ⟨rfl, rfl⟩
end

/-- Does a thread stand in a row? -/
def inB (xs : List Int) (t : Int) : Bool := decide (t ∈ xs)
def outI (t : Int) (xs : List Int) : List Int := xs.filter (fun y => !(y == t))
theorem ints_out (q : List Nat) (t : Nat) : ints (outL t q) = outI t (ints q) := by
  induction q with
  | nil => rfl
  | cons x r ih =>
    unfold outI outL ints at *
    by_cases e : x = t
    · subst e
      rw [List.filter_cons_of_neg (by simp), List.map_cons, List.filter_cons_of_neg (by simp)]
      exact ih
    · rw [List.filter_cons_of_pos (by simpa using e), List.map_cons, List.map_cons, List.filter_cons_of_pos (by simp; omega), ih]
theorem outI_take {t : Int} {xs : List Int} {j : Nat} {x : Int} (h : xs[j]? = some x) : outI t (xs.take (j + 1)) = if x = t then outI t (xs.take j) else outI t (xs.take j) ++ [x] := by
  rw [List.take_add_one, h]
  unfold outI
  rw [List.filter_append]
  by_cases e : x = t
  · rw [if_pos e]
    simp [e]
  · rw [if_neg e]
    simp [e]
theorem outI_len (t : Int) (xs : List Int) : (outI t xs).length ≤ xs.length := List.length_filter_le _ _

section
set_option maxRecDepth 100000
variable {w : World} {v : Value} {xs : List Int}
theorem in_any (h : Rd w v xs) (hn : xs.length ≤ 8192) (t : Int) : Calls Try.prog 61 #[v, .int .i64 t] w fun e w' => e = .returned (.bool (inB xs t)) ∧ w' = w := by
  obtain ⟨a, c, rfl, hc⟩ := h
  go_enter Try.func61, Try.ntmps61
  go_wp2_with fail
  go_loopw [9, 6] (fun v _ wr => ∃ j : Nat, j ≤ xs.length ∧ v = .int .i64 j ∧ wr = w ∧ ∀ i, i < j → xs[i]? ≠ some t) (fun v _ _ => 8192 - (intOf v).toNat)
  case atStart => exact ⟨0, Nat.zero_le _, rfl, rfl, fun i hi => by omega⟩
  case round =>
    obtain ⟨j, hj, rfl, rfl, hB⟩ := hrel
    by_cases hlt : j < xs.length
    · have hx := List.getElem?_eq_getElem hlt
      obtain ⟨g, rfl, c0⟩ := hc j _ hx
      have hlt' : (j : Int) < (xs.length : Int) := by omega
      by_cases e : xs[j] = t
      · have hR : inB xs t = true := by
          unfold inB
          exact decide_eq_true (e ▸ List.getElem_mem hlt)
        replace hR := Hid.mk hR
        rw [e] at c0
        go_wp2_with fail
        go_ret
        exact ⟨by rw [hR.out]; rfl, rfl⟩
      · have hB' : ∀ i, i < j + 1 → xs[i]? ≠ some t := fun i hi => by
          by_cases h1 : i = j
          · subst h1
            rw [hx]
            exact fun e2 => e (Option.some.inj e2)
          · exact hB i (by omega)
        have hne : (xs[j] == t) = false := by simpa using e
        generalize xs[j] = x at *
        clear hB
        go_wp2_with fail
        go_roundw
        case rel => exact ⟨j + 1, by omega, by simp, by trivial, hB'⟩
        case measure =>
          simp [intOf]
          omega
    · obtain rfl : j = xs.length := by omega
      have hR : inB xs t = false := by
        unfold inB
        refine decide_eq_false (fun hm => ?_)
        obtain ⟨i, hi⟩ := List.getElem?_of_mem hm
        exact hB i (List.getElem?_eq_some_iff.1 hi).1 hi
      replace hR := Hid.mk hR
      go_wp2_with fail
      go_ret
      exact ⟨by rw [hR.out]; rfl, rfl⟩
theorem out_any (h : Rd w v xs) (hn : xs.length ≤ 8192) (t : Int) : Calls Try.prog 60 #[v, .int .i64 t] w fun e w' => ∃ u, e = .returned u ∧ RowI w' w.heap.size u (outI t xs) ∧ Below w.heap.size w w' := by
  obtain ⟨a, c, rfl, hc⟩ := h
  have R0 : RowI w w.heap.size (.slice none 0 0) [] := ⟨by simp, .inl ⟨rfl, rfl⟩⟩
  go_enter Try.func60, Try.ntmps60
  go_wp2_with fail
  go_loopw [10, 5, 7] (fun v u _ wr => ∃ j : Nat, j ≤ xs.length ∧ v = .int .i64 j ∧ RowI wr w.heap.size u (outI t (xs.take j)) ∧ Below w.heap.size w wr) (fun v _ _ _ => 8192 - (intOf v).toNat)
  case atStart => exact ⟨0, Nat.zero_le _, rfl, R0, Below.refl _ _⟩
  case round =>
    obtain ⟨j, hj, rfl, hR, hb⟩ := hrel
    by_cases hlt : j < xs.length
    · have hx := List.getElem?_eq_getElem hlt
      obtain ⟨g, rfl, c0⟩ := hc j _ hx
      replace c0 := cell_on hb c0
      have hlt' : (j : Int) < (xs.length : Int) := by omega
      have hT := outI_take (t := t) hx
      have hTl : (outI t (xs.take j)).length ≤ 10000 := by have := outI_len t (xs.take j); rw [List.length_take] at this; omega
      by_cases e : xs[j] = t
      · rw [if_pos e] at hT
        have HT : Hid (outI t (xs.take (j + 1)) = outI t (xs.take j)) := hT
        have hne : (xs[j] != t) = false := by simpa using e
        rw [e] at c0
        clear hT
        generalize outI t (xs.take j) = TJ at *
        go_wp2_with fail
        go_roundw
        case rel => exact ⟨j + 1, by omega, by simp, by rw [HT.out]; exact hR, hb⟩
        case measure =>
          simp [intOf]
          omega
      · rw [if_neg e] at hT
        have HT : Hid (outI t (xs.take (j + 1)) = outI t (xs.take j) ++ [xs[j]]) := hT
        have hne : (xs[j] != t) = true := by simpa using e
        clear hT
        generalize outI t (xs.take j) = TJ at *
        generalize xs[j] = x at *
        have hR1 := hR.below ((Below.refl _ wr).alloc (Nat.le_refl _) (.cells #[.int .i64 x] 3))
        have hlow := fun k e => (hR.low k e).1
        have hsz : w.heap.size ≤ (wr.alloc (.cells #[.int .i64 x] 3)).heap.size := by have := hb.size; simp; omega
        have hb1 : Below w.heap.size w (wr.alloc (.cells #[.int .i64 x] 3)) := hb.alloc hb.size _
        go_wp2_with (first
          | (at_builtin; refine wpList_app1 rfl (.tmp 17) (.tmp 19) rfl w.heap.size _ TJ rfl hR1 _ _ x rfl (reads_one _ _) hTl hsz ?_; intro v3 w3 hr3 hg3 ha3; have hb3 := hb1.trans (grown_below hg3 hsz hlow); clear hR1 hg3 ha3 hb1 hsz hR))
        go_roundw
        case rel => exact ⟨j + 1, by omega, by simp, by rw [HT.out]; exact hr3, hb3⟩
        case measure =>
          simp [intOf]
          omega
    · obtain rfl : j = xs.length := by omega
      rw [List.take_of_length_le (Nat.le_refl _)] at hR
      go_wp2_with fail
      go_ret
      exact ⟨_, rfl, hR, hb⟩
end
end Go.Proofs.Ytimoleijdfoahaa.Lo
