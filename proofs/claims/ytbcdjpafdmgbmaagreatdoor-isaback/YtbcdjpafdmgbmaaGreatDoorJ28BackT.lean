/- The reference's Scan. -/
/- Two rows that grow side by side, in whatever order: instructions and the numbers of their lines. -/
import Derived.Test.YtbcdjpafdmgbmaaGreatDoorJ27BackT
import Derived.Test.YtbcdjpafdmgbmaaGreatDoorJ21BackT
import Derived.Test.YtbcdjpafdmgbmaaGreatDoorJ18BackT
import Derived.BigQuiet
namespace Go.Proofs.YtbcdjpafdmgbmaaGreatDoor
open Go.RowKit Go.Shelf

/-- What Scan tells. -/
def ScanV (s : List UInt8) (lo : Nat) (e : Ending) (w' : World) : Prop := ∃ v, e = .returned (.tuple #[v, .int .i64 ((scanV s).2.1 : Nat), .int .i64 ((scanV s).2.2 : Nat)]) ∧ Ow w' lo v (scanV s).1
theorem strB_mid {s : List UInt8} {i j : Nat} (hij : i ≤ j) (hj : j ≤ s.length) (w : World) : (Instr.slice 9 (.string (strB s)) (some (.int .i64 (i : Int))) (some (.int .i64 (j : Int))) none).run Tryz.prog w = .ok (.string (strB ((s.drop i).take (j - i)))) w := by
  have hs : (strB s).size = s.length := strB_size s
  have he : (strB s).extract i j = strB ((s.drop i).take (j - i)) := by rw [ext_str, strB_data]
  have h1 : (j : Int) ≤ (s.length : Int) := by omega
  have h2 : (0 : Int) ≤ (i : Int) := by omega
  have h3 : (i : Int) ≤ (j : Int) := by omega
  go_simp
theorem mid_more {s : List UInt8} {i j : Nat} {b : UInt8} (hij : i ≤ j) (h : s[j]? = some b) : (s.drop i).take (j + 1 - i) = (s.drop i).take (j - i) ++ [b] := by
  rw [show j + 1 - i = (j - i) + 1 by omega, List.take_add_one, List.getElem?_drop, show i + (j - i) = j by omega, h]
  rfl
theorem lines_more {s cur : List UInt8} {i : Nat} {b : UInt8} (h : s[i]? = some b) (hb : b ≠ 10) : linesG cur (s.drop i) = linesG (cur ++ [b]) (s.drop (i + 1)) := by
  have hi := (List.getElem?_eq_some_iff.1 h).1
  rw [List.drop_eq_getElem_cons hi, (List.getElem?_eq_some_iff.1 h).2, linesG, if_neg hb]
theorem lines_nl {s cur : List UInt8} {i : Nat} (h : s[i]? = some 10) : linesG cur (s.drop i) = cur :: linesG [] (s.drop (i + 1)) := by
  have hi := (List.getElem?_eq_some_iff.1 h).1
  rw [List.drop_eq_getElem_cons hi, (List.getElem?_eq_some_iff.1 h).2, linesG, if_pos rfl]
theorem lines_end {s cur : List UInt8} {i : Nat} (h : i = s.length) : linesG cur (s.drop i) = [cur] := by
  rw [List.drop_eq_nil_of_le (by omega), linesG]

/-- What follows a line's end. -/
def Goes (s : List UInt8) (i n : Nat) (E : List Ent) : Prop :=
  (i ≤ s.length → ents s = E ++ entsN n (linesG ((s.drop i).take (i - i)) (s.drop i))) ∧ (i = s.length + 1 → ents s = E)
theorem line_done {s cur : List UInt8} {i n : Nat} {E : List Ent} (h : ents s = E ++ entsN n (linesG cur (s.drop i))) (hc : s[i]? = some 10 ∨ i = s.length) :
    ∃ R, ents s = E ++ (if saysB cur then [(n, wordsB cur)] else []) ++ R ∧ ∀ E', ents s = E' ++ R → Goes s (i + 1) (n + 1) E' := by
  have hstep : ∀ ls, entsN n (cur :: ls) = (if saysB cur then [(n, wordsB cur)] else []) ++ entsN (n + 1) ls := fun ls => by
    simp only [entsN]
    split <;> rfl
  rcases hc with hc | hc
  · have hi := (List.getElem?_eq_some_iff.1 hc).1
    rw [lines_nl hc, hstep, ← List.append_assoc] at h
    refine ⟨_, h, fun E' h' => ⟨fun _ => ?_, fun e => by omega⟩⟩
    rw [Nat.sub_self, List.take_zero]
    exact h'
  · rw [lines_end hc, hstep] at h
    refine ⟨[], by rw [List.append_nil]; simpa [entsN] using h, fun E' h' => ⟨fun e => by omega, fun _ => by simpa using h'⟩⟩
theorem LineV.out {R : Option Ins} {e : Ending} (h : LineV R e) : ∃ x0 x1 x2 x3 : Int, e = .returned (.tuple #[.agg #[.int .i64 x0, .int .i64 x1, .int .i64 x2, .int .i64 x3], .bool R.isSome]) ∧ ∀ y, R = some y → (x0, x1, x2, x3) = y := by
  obtain ⟨⟨x0, x1, x2, x3⟩, e, h⟩ := h
  exact ⟨x0, x1, x2, x3, e, h⟩
theorem pv_two (w : World) (p q r s : Int) : PV ((w.alloc (.cells #[.int .i64 p, .int .i64 q, .int .i64 r, .int .i64 s] 37)).alloc (.cells #[.int .i64 p, .int .i64 q, .int .i64 r, .int .i64 s] 37)) (some ⟨w.heap.size + 1, 0, none⟩) [(p, q, r, s)] := by
  have := pv_one (w.alloc (.cells #[.int .i64 p, .int .i64 q, .int .i64 r, .int .i64 s] 37)) p q r s 37
  rw [World.size_alloc] at this
  exact this
theorem ow_grown {w w' : World} {lo lo' : Nat} {v v' : Value} {ps : List Ins} {ns : List Int} (h : Ow w lo v ps) (h' : RowI w lo' v' ns) (hg : w.grownBy w' v'.ownBlock) : Ow w' lo v ps :=
  h.put (fun k hk => hg.block k (h.lt hk).2 (fun e => ow_apart h h' hk e.symm))
theorem rowi_grown {w w' : World} {lo lo' : Nat} {v v' : Value} {ps : List Ins} {ns : List Int} (h : Ow w lo v ps) (h' : RowI w lo' v' ns) (hg : w.grownBy w' v.ownBlock) : RowI w' lo' v' ns :=
  ownsRow_put h' (fun k hk => hg.block k (World.ownsRow.lt h' k hk).2 (fun e => ow_apart h h' e.symm hk))

end Go.Proofs.YtbcdjpafdmgbmaaGreatDoor
namespace Go.Proofs.YtbcdjpafdmgbmaaGreatDoor
open Go.RowKit Go.Shelf

/-- append to a row of ints of the call's own; where the row then lies. -/
theorem run_ownN {w : World} {ty : TypeId} {B : Nat} {v : Value} {xs : List Int} {g c : Nat} {n : Int} (hown : RowI w B v xs) (hr : w.cell? ⟨g, 0, none⟩ = some (.int .i64 n)) (hk : xs.length + 1 ≤ 100000) (hb : B ≤ w.heap.size) :
    ∃ v' w', (Builtin.append_ #[52, 52] ty #[v, .slice (some ⟨g, 0, none⟩) 1 c]).run Tryz.prog w = .ok v' w' ∧ RowI w' B v' (xs ++ [n]) ∧ w.grownBy w' v.ownBlock ∧ (v'.ownBlock = v.ownBlock ∨ v'.ownBlock = some w.heap.size) := by
  obtain ⟨v', w', hrun, r1, r2, r3⟩ := run_own (t := 52) (ty := ty) (c := c) (m := 1) (b := some ⟨g, 0, none⟩) (ys := [.int .i64 n]) Tryz.underlying52 info3 rfl (by decide) hown (fun j u hj => by
    have : j = 0 := by
      have := (List.getElem?_eq_some_iff.1 hj).1
      simpa using this
    subst this
    simp at hj
    subst hj
    exact ⟨g, 0, rfl, hr⟩) (by simp) (by simp [Value.oneCell']) (by unfold maxLen; omega) (by omega) hb
  refine ⟨v', w', hrun, ?_, r2, r3⟩
  unfold RowI
  rw [List.length_append, List.map_append]
  exact r1

/-- Blocks of instructions are kept. -/
def KeepI (W W' : World) : Prop := ∀ (k : Nat) (cur : Array Value) (fz : Nat × Nat), W.heap[k]? = some (.cells cur 37 fz) → W'.heap[k]? = W.heap[k]?
def KeepN (W W' : World) : Prop := ∀ (k : Nat) (cur : Array Value) (fz : Nat × Nat), W.heap[k]? = some (.cells cur 3 fz) → W'.heap[k]? = W.heap[k]?
theorem Ow.keep {W W' : World} {lo : Nat} {v : Value} {ps : List Ins} (h : Ow W lo v ps) (k : KeepI W W') : Ow W' lo v ps := by
  refine h.put (fun b hb => ?_)
  rcases h.2 with ⟨rfl, _⟩ | ⟨g, cap, cur, rfl, _, hg, _⟩
  · simp [Value.ownBlock] at hb
  · simp only [Value.ownBlock, Option.some.injEq] at hb
    subst hb
    exact k _ _ _ hg
theorem RowI.keep {W W' : World} {lo : Nat} {v : Value} {ns : List Int} (h : RowI W lo v ns) (k : KeepN W W') : RowI W' lo v ns := by
  refine ownsRow_put h (fun b hb => ?_)
  rcases h.2 with ⟨rfl, _⟩ | ⟨g, cap, cur, rfl, _, hg, _⟩
  · simp [Value.ownBlock] at hb
  · simp only [Value.ownBlock, Option.some.injEq] at hb
    subst hb
    exact k _ _ _ hg
/-- The instructions' side: i tells how far (0: at the start, 1: the new one lies there, 2: appended, 3: stored). -/
structure PA (A : World) (lo B5 B9 : Nat) (pv : Value) (ps : List Ins) (x : Ins) (i : Nat) (u v : Value) (W : World) : Prop where
  b5 : Cel W B5 #[if i = 3 then v else pv] 23
  b9 : Cel W B9 (insC x) 37
  rp : i ≤ 1 → Ow W lo pv ps
  rq : 2 ≤ i → Ow W lo v (ps ++ [x]) ∧ (v.ownBlock = pv.ownBlock ∨ ∃ g, A.heap.size ≤ g ∧ v.ownBlock = some g)
  nw : i = 1 → ∃ g, u = .slice (some ⟨g, 0, none⟩) 1 1 ∧ Ow W lo u [x]
structure PN (A : World) (lo B6 : Nat) (nv : Value) (ns : List Int) (n : Int) (i : Nat) (u v : Value) (W : World) : Prop where
  b6 : Cel W B6 #[if i = 3 then v else nv] 52
  rp : i ≤ 1 → RowI W lo nv ns
  rq : 2 ≤ i → RowI W lo v (ns ++ [n]) ∧ (v.ownBlock = nv.ownBlock ∨ ∃ g, A.heap.size ≤ g ∧ v.ownBlock = some g)
  nw : i = 1 → ∃ g, u = .slice (some ⟨g, 0, none⟩) 1 1 ∧ RowI W lo u [n]
theorem PA.keep {A : World} {lo B5 B9 : Nat} {pv : Value} {ps : List Ins} {x : Ins} {i : Nat} {u v : Value} {W W' : World} (h : PA A lo B5 B9 pv ps x i u v W) (k : KeepI W W') (k5 : W'.heap[B5]? = W.heap[B5]?) : PA A lo B5 B9 pv ps x i u v W' :=
  ⟨h.b5.put k5, h.b9.put (k _ _ _ h.b9), fun e => (h.rp e).keep k, fun e => ⟨(h.rq e).1.keep k, (h.rq e).2⟩, fun e => by obtain ⟨g, h1, h2⟩ := h.nw e; exact ⟨g, h1, h2.keep k⟩⟩
theorem PN.keep {A : World} {lo B6 : Nat} {nv : Value} {ns : List Int} {n : Int} {i : Nat} {u v : Value} {W W' : World} (h : PN A lo B6 nv ns n i u v W) (k : KeepN W W') (k6 : W'.heap[B6]? = W.heap[B6]?) : PN A lo B6 nv ns n i u v W' :=
  ⟨h.b6.put k6, fun e => (h.rp e).keep k, fun e => ⟨(h.rq e).1.keep k, (h.rq e).2⟩, fun e => by obtain ⟨g, h1, h2⟩ := h.nw e; exact ⟨g, h1, h2.keep k⟩⟩

/-- Both. -/
structure Sg (A : World) (lo B5 B6 B9 : Nat) (pv nv : Value) (ps : List Ins) (ns : List Int) (x : Ins) (n : Int) (i j : Nat) (u v u' v' : Value) (W : World) : Prop where
  but : But ([B5, B6] ++ pv.ownBlock.toList ++ nv.ownBlock.toList) A W
  low : lo ≤ A.heap.size
  lp : ps.length + 1 ≤ 100000
  ln : ns.length + 1 ≤ 100000
  p : PA A lo B5 B9 pv ps x i u v W
  q : PN A lo B6 nv ns n j u' v' W
section
variable {A : World} {lo B5 B6 B9 : Nat} {pv nv : Value} {ps : List Ins} {ns : List Int} {x : Ins} {n : Int} {i j : Nat} {u v u' v' : Value} {W : World}
theorem keep_alloc (o : Obj) : KeepI W (W.alloc o) ∧ KeepN W (W.alloc o) :=
  ⟨fun _ _ _ h => Below.heap_alloc _ _ _ (Array.getElem?_eq_some_iff.1 h).1, fun _ _ _ h => Below.heap_alloc _ _ _ (Array.getElem?_eq_some_iff.1 h).1⟩
theorem Sg.build_p (h : Sg A lo B5 B6 B9 pv nv ps ns x n 0 j u v u' v' W) : Sg A lo B5 B6 B9 pv nv ps ns x n 1 j (.slice (some ⟨W.heap.size, 0, none⟩) 1 1) v u' v' (W.alloc (.cells (insC x) 37)) := by
  obtain ⟨k1, k2⟩ := keep_alloc (W := W) (.cells (insC x) 37)
  have hp := h.p.keep k1 (Below.heap_alloc _ _ _ h.p.b5.lt)
  refine ⟨h.but.alloc _, h.low, h.lp, h.ln, ⟨hp.b5, hp.b9, fun _ => hp.rp (by omega), fun e => by omega, fun _ => ⟨_, rfl, ?_⟩⟩, h.q.keep k2 (Below.heap_alloc _ _ _ h.q.b6.lt)⟩
  exact ⟨rfl, .inr ⟨_, 1, insC x, rfl, Nat.le_trans h.low h.but.size, World.alloc_heap_new W _, Nat.le_refl _, by unfold maxLen; omega, rfl, rfl⟩⟩
theorem Sg.build_n (h : Sg A lo B5 B6 B9 pv nv ps ns x n i 0 u v u' v' W) : Sg A lo B5 B6 B9 pv nv ps ns x n i 1 u v (.slice (some ⟨W.heap.size, 0, none⟩) 1 1) v' (W.alloc (.cells #[.int .i64 n] 3)) := by
  obtain ⟨k1, k2⟩ := keep_alloc (W := W) (.cells #[.int .i64 n] 3)
  have hn := h.q.keep k2 (Below.heap_alloc _ _ _ h.q.b6.lt)
  refine ⟨h.but.alloc _, h.low, h.lp, h.ln, h.p.keep k1 (Below.heap_alloc _ _ _ h.p.b5.lt), ⟨hn.b6, fun _ => hn.rp (by omega), fun e => by omega, fun _ => ⟨_, rfl, ?_⟩⟩⟩
  exact ⟨rfl, .inr ⟨_, 1, #[.int .i64 n], rfl, Nat.le_trans h.low h.but.size, World.alloc_heap_new W _, Nat.le_refl _, by unfold maxLen; omega, rfl, rfl⟩⟩
theorem Sg.app_p (h : Sg A lo B5 B6 B9 pv nv ps ns x n 1 j u v u' v' W) (hB9 : A.heap.size ≤ B9) (hpA : ∀ k, pv.ownBlock = some k → k < A.heap.size) (ty : TypeId) :
    ∃ v2 W', (Builtin.append_ #[23, 23] ty #[pv, u]).run Tryz.prog W = .ok v2 W' ∧ Sg A lo B5 B6 B9 pv nv ps ns x n 2 j u v2 u' v' W' := by
  have hp := h.p.rp (by omega)
  obtain ⟨g, rfl, hu⟩ := h.p.nw rfl
  obtain ⟨a, c, e, _, hpv, _⟩ := hu.sl
  cases e
  obtain ⟨v2, W', hrun, r1, r2, r3⟩ := run_ownI (ty := ty) (c := 1) hp (m := 1) (news := [x]) rfl hpv h.lp (Nat.le_trans h.low h.but.size)
  have hty : ∀ k, pv.ownBlock = some k → ∃ cur fz, W.heap[k]? = some (.cells cur 37 fz) := fun k hk => by
    rcases hp.2 with ⟨rfl, _⟩ | ⟨g, cap, cur, rfl, _, hg, _⟩
    · simp [Value.ownBlock] at hk
    · simp only [Value.ownBlock, Option.some.injEq] at hk
      subst hk
      exact ⟨_, _, hg⟩
  have keepO : ∀ (k : Nat) (o : Obj), W.heap[k]? = some o → (∀ cur fz, o ≠ .cells cur 37 fz) → W'.heap[k]? = W.heap[k]? := fun k o ho hne => r2.block k (Array.getElem?_eq_some_iff.1 ho).1 (fun e => by
    obtain ⟨cur, fz, hk⟩ := hty k e.symm
    rw [ho] at hk
    cases hk
    exact hne _ _ rfl)
  have k5 := keepO B5 _ h.p.b5 (fun _ _ e => by cases e)
  refine ⟨v2, W', hrun, ⟨h.but.trans ((but_of r2).mono (fun y hy => by simp at hy; simp [hy])), h.low, h.lp, h.ln, ⟨h.p.b5.put k5, h.p.b9.put (r2.block B9 h.p.b9.lt (fun e => by have := hpA _ e.symm; omega)), fun e => by omega, fun _ => ⟨r1, r3.imp id (fun e => ⟨_, h.but.size, e⟩)⟩, fun e => by omega⟩, h.q.keep (fun k cur fz hk => keepO k _ hk (fun _ _ e => by cases e)) (keepO B6 _ h.q.b6 (fun _ _ e => by cases e))⟩⟩
theorem Sg.app_n (h : Sg A lo B5 B6 B9 pv nv ps ns x n i 1 u v u' v' W) (ty : TypeId) :
    ∃ v2 W', (Builtin.append_ #[52, 52] ty #[nv, u']).run Tryz.prog W = .ok v2 W' ∧ Sg A lo B5 B6 B9 pv nv ps ns x n i 2 u v u' v2 W' := by
  have hp := h.q.rp (by omega)
  obtain ⟨g, rfl, hu⟩ := h.q.nw rfl
  have hcell : W.cell? ⟨g, 0, none⟩ = some (.int .i64 n) := by
    rcases hu.2 with ⟨e, _⟩ | ⟨g', cap, cur, e, _, hg, _, _, hsz, ht⟩
    · cases e
    · cases e
      simp only [World.cell?, hg]
      have hs : cur.size = 1 := by simpa using hsz
      have h0 : cur.toList[0]? = some (.int .i64 n) := by
        have := congrArg (fun l => l[0]?) ht
        simp only [List.getElem?_take] at this
        simpa using this
      simpa using h0
  obtain ⟨v2, W', hrun, r1, r2, r3⟩ := run_ownN (ty := ty) (c := 1) hp hcell h.ln (Nat.le_trans h.low h.but.size)
  have hty : ∀ k, nv.ownBlock = some k → ∃ cur fz, W.heap[k]? = some (.cells cur 3 fz) := fun k hk => by
    rcases hp.2 with ⟨rfl, _⟩ | ⟨g, cap, cur, rfl, _, hg, _⟩
    · simp [Value.ownBlock] at hk
    · simp only [Value.ownBlock, Option.some.injEq] at hk
      subst hk
      exact ⟨_, _, hg⟩
  have keepO : ∀ (k : Nat) (o : Obj), W.heap[k]? = some o → (∀ cur fz, o ≠ .cells cur 3 fz) → W'.heap[k]? = W.heap[k]? := fun k o ho hne => r2.block k (Array.getElem?_eq_some_iff.1 ho).1 (fun e => by
    obtain ⟨cur, fz, hk⟩ := hty k e.symm
    rw [ho] at hk
    cases hk
    exact hne _ _ rfl)
  have k6 := keepO B6 _ h.q.b6 (fun _ _ e => by cases e)
  refine ⟨v2, W', hrun, ⟨h.but.trans ((but_of r2).mono (fun y hy => by simp at hy; simp [hy])), h.low, h.lp, h.ln, h.p.keep (fun k cur fz hk => keepO k _ hk (fun _ _ e => by cases e)) (keepO B5 _ h.p.b5 (fun _ _ e => by cases e)), ⟨h.q.b6.put k6, fun e => by omega, fun _ => ⟨r1, r3.imp id (fun e => ⟨_, h.but.size, e⟩)⟩, fun e => by omega⟩⟩⟩
theorem keep_set {B : Nat} {cur : Array Value} {t : TypeId} (h : Cel W B cur t) (y : Value) : (t ≠ 37 → KeepI W (W.setCell ⟨B, 0, none⟩ y)) ∧ (t ≠ 3 → KeepN W (W.setCell ⟨B, 0, none⟩ y)) := by
  constructor
  · intro ht k c fz hk
    refine Below.heap_setCell _ _ _ _ (fun e => ?_)
    simp at e
    subst e
    rw [show W.heap[k]? = _ from h] at hk
    cases hk
    exact ht rfl
  · intro ht k c fz hk
    refine Below.heap_setCell _ _ _ _ (fun e => ?_)
    simp at e
    subst e
    rw [show W.heap[k]? = _ from h] at hk
    cases hk
    exact ht rfl
theorem Sg.store_p (h : Sg A lo B5 B6 B9 pv nv ps ns x n 2 j u v u' v' W) (hne : B5 ≠ B6) : Sg A lo B5 B6 B9 pv nv ps ns x n 3 j u v u' v' (W.setCell ⟨B5, 0, none⟩ v) := by
  obtain ⟨k1, k2⟩ := keep_set h.p.b5 v
  refine ⟨h.but.set (p := ⟨B5, 0, none⟩) (by simp) _, h.low, h.lp, h.ln, ⟨h.p.b5.set (j := 0) v, h.p.b9.put (k1 (by decide) _ _ _ h.p.b9), fun e => by omega, fun _ => ⟨(h.p.rq (by omega)).1.keep (k1 (by decide)), (h.p.rq (by omega)).2⟩, fun e => by omega⟩, h.q.keep (k2 (by decide)) (Below.heap_setCell _ _ _ _ (by simpa using Ne.symm hne))⟩
theorem Sg.store_n (h : Sg A lo B5 B6 B9 pv nv ps ns x n i 2 u v u' v' W) (hne : B5 ≠ B6) : Sg A lo B5 B6 B9 pv nv ps ns x n i 3 u v u' v' (W.setCell ⟨B6, 0, none⟩ v') := by
  obtain ⟨k1, k2⟩ := keep_set h.q.b6 v'
  refine ⟨h.but.set (p := ⟨B6, 0, none⟩) (by simp) _, h.low, h.lp, h.ln, h.p.keep (k1 (by decide)) (Below.heap_setCell _ _ _ _ (by simpa using hne)), ⟨h.q.b6.set (j := 0) v', fun e => by omega, fun _ => ⟨(h.q.rq (by omega)).1.keep (k2 (by decide)), (h.q.rq (by omega)).2⟩, fun e => by omega⟩⟩
end

end Go.Proofs.YtbcdjpafdmgbmaaGreatDoor
