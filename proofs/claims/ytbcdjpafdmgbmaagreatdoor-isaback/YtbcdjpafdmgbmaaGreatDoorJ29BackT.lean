/- Scan, the program's. -/
/- What is printed is read again, plain. -/
import Derived.Test.YtbcdjpafdmgbmaaGreatDoorJ27BackT
import Derived.Test.YtbcdjpafdmgbmaaGreatDoorJ12BackT
import Derived.Test.YtbcdjpafdmgbmaaGreatDoorJ28BackT
import Derived.Deep.RegionLaw
import Derived.Test.YtbcdjpafdmgbmaaGreatDoorJ21BackT
import Derived.Test.YtbcdjpafdmgbmaaGreatDoorJ25BackT
namespace Go.Proofs.YtbcdjpafdmgbmaaGreatDoor
open Go.RowKit Go.Shelf
attribute [local go_sem] Oper.semAt_some

/-- Three results that lie in cells. -/
theorem results_c3 {fn : Func} {p q u : Tmp} (h : fn.results = #[.cell p 23, .cell q 3, .cell u 27]) (tmps : Array Value) (w : World) (b2 b3 b4 : Nat) (v2 v3 v4 : Value) (hp : tmps.getD p undef = .pointer (some ⟨b2, 0, none⟩)) (hq : tmps.getD q undef = .pointer (some ⟨b3, 0, none⟩)) (hu : tmps.getD u undef = .pointer (some ⟨b4, 0, none⟩)) (h2 : w.cell? ⟨b2, 0, none⟩ = some v2) (h3 : w.cell? ⟨b3, 0, none⟩ = some v3) (h4 : w.cell? ⟨b4, 0, none⟩ = some v4) : (results fn tmps).run Tryz.prog w = .ok (.tuple #[v2, v3, v4]) w := by
  have hp' : tmps[p]?.getD undef = .pointer (some ⟨b2, 0, none⟩) := by simpa using hp
  have hq' : tmps[q]?.getD undef = .pointer (some ⟨b3, 0, none⟩) := by simpa using hq
  have hu' : tmps[u]?.getD undef = .pointer (some ⟨b4, 0, none⟩) := by simpa using hu
  have l2 : (loadVar 23 ⟨b2, 0, none⟩).run Tryz.prog w = .ok v2 w := by simp [loadVar, Tryz.isAgg23, go_sem, h2]
  have l3 : (loadVar 3 ⟨b3, 0, none⟩).run Tryz.prog w = .ok v3 w := by simp [loadVar, Tryz.isAgg3, go_sem, h3]
  have l4 : (loadVar 27 ⟨b4, 0, none⟩).run Tryz.prog w = .ok v4 w := by simp [loadVar, Tryz.isAgg27, go_sem, h4]
  simp [results, h, hp', hq', hu', asAddr, l2, l3, l4]

/-- The block of the row that a cell's slice has. -/
def blk (A : World) (B : Nat) : List Nat := match A.cell? ⟨B, 0, none⟩ with
  | some v => v.ownBlock.toList
  | none => []
def ownS (B5 B6 : Nat) (A : World) : List Nat := [B5, B6] ++ blk A B5 ++ blk A B6
theorem blk_is {A : World} {B : Nat} {v : Value} {t : TypeId} (h : Cel A B #[v] t) : blk A B = v.ownBlock.toList := by
  unfold blk
  rw [h.cell (j := 0) (v := v) rfl]
theorem stab_s (B5 B6 : Nat) : Stab (ownS B5 B6) := by
  intro A B row hin hg hr
  have key : ∀ k, k ∈ ownS B5 B6 A → B.heap[k]? = A.heap[k]? := fun k hk => by
    obtain ⟨o, ho, hc⟩ := hin k hk
    refine hg.block k (Array.getElem?_eq_some_iff.1 ho).1 (fun e => ?_)
    obtain ⟨o', ho', hc'⟩ := hr k e.symm
    rw [ho] at ho'
    cases ho'
    rw [hc] at hc'
    cases hc'
  have k5 := key B5 (by simp [ownS])
  have k6 := key B6 (by simp [ownS])
  unfold ownS blk World.cell?
  simp only [k5, k6]

/-- Scan's lists while lines are read. -/
structure Sc (w : World) (lo B5 B6 : Nat) (s : List UInt8) (i : Nat) (A : World) : Prop where
  bel : Below w.heap.size w A
  r2 : Cel A w.heap.size #[.slice none 0 0] 23
  r3 : Cel A (w.heap.size + 1) #[.int .i64 0] 3
  r4 : Cel A (w.heap.size + 2) #[.int .i64 0] 27
  lists : ∃ ps ns pv nv, Red ((ents s).take i) ps ns ∧ Cel A B5 #[pv] 23 ∧ Cel A B6 #[nv] 52 ∧ Ow A lo pv ps ∧ RowI A lo nv ns
theorem ow_blk {A : World} {lo : Nat} {v : Value} {ps : List Ins} (h : Ow A lo v ps) {k : Nat} (hk : v.ownBlock = some k) : ∃ o : Obj, A.heap[k]? = some o ∧ o.isCells = true := by
  rcases h.2 with ⟨rfl, _⟩ | ⟨g, cap, cur, rfl, _, hg, _⟩
  · simp [Value.ownBlock] at hk
  · simp only [Value.ownBlock, Option.some.injEq] at hk
    subst hk
    exact ⟨_, hg, rfl⟩
theorem rowi_blk {A : World} {lo : Nat} {v : Value} {ns : List Int} (h : RowI A lo v ns) {k : Nat} (hk : v.ownBlock = some k) : ∃ o : Obj, A.heap[k]? = some o ∧ o.isCells = true := by
  rcases h.2 with ⟨rfl, _⟩ | ⟨g, cap, cur, rfl, _, hg, _⟩
  · simp [Value.ownBlock] at hk
  · simp only [Value.ownBlock, Option.some.injEq] at hk
    subst hk
    exact ⟨_, hg, rfl⟩
theorem own_in {A : World} {lo B5 B6 : Nat} {pv nv : Value} {ps : List Ins} {ns : List Int} (h5 : Cel A B5 #[pv] 23) (h6 : Cel A B6 #[nv] 52) (hp : Ow A lo pv ps) (hn : RowI A lo nv ns) : OwnIn (ownS B5 B6) A := by
  intro k hk
  unfold ownS at hk
  rw [blk_is h5, blk_is h6] at hk
  simp at hk
  rcases hk with rfl | rfl | hk | hk
  · exact ⟨_, h5, rfl⟩
  · exact ⟨_, h6, rfl⟩
  · exact ow_blk hp hk
  · exact rowi_blk hn hk
theorem Sc.inn {w : World} {lo B5 B6 : Nat} {s : List UInt8} {i : Nat} {A : World} (h : Sc w lo B5 B6 s i A) : OwnIn (ownS B5 B6) A := by
  obtain ⟨ps, ns, pv, nv, _, h5, h6, hp, hn⟩ := h.lists
  exact own_in h5 h6 hp hn
theorem ow_own {A B : World} {row : Option Nat} {lo : Nat} {v : Value} {ps : List Ins} (h : Ow A lo v ps) (hg : A.grownBy B row) (hr : ∀ r, row = some r → ∃ o : Obj, A.heap[r]? = some o ∧ o.isCells = false) : Ow B lo v ps := by
  refine h.put (fun k hk => hg.block k (h.lt hk).2 (fun e => ?_))
  obtain ⟨o, ho, hc⟩ := ow_blk h hk
  obtain ⟨o', ho', hc'⟩ := hr k e.symm
  rw [ho] at ho'
  cases ho'
  rw [hc] at hc'
  cases hc'
theorem rowi_own {A B : World} {row : Option Nat} {lo : Nat} {v : Value} {ns : List Int} (h : RowI A lo v ns) (hg : A.grownBy B row) (hr : ∀ r, row = some r → ∃ o : Obj, A.heap[r]? = some o ∧ o.isCells = false) : RowI B lo v ns := by
  refine ownsRow_put h (fun k hk => hg.block k (World.ownsRow.lt h k hk).2 (fun e => ?_))
  obtain ⟨o, ho, hc⟩ := rowi_blk h hk
  obtain ⟨o', ho', hc'⟩ := hr k e.symm
  rw [ho] at ho'
  cases ho'
  rw [hc] at hc'
  cases hc'
theorem Sc.own {w : World} {lo B5 B6 : Nat} {s : List UInt8} {i : Nat} {A A' : World} {row : Option Nat} (h : Sc w lo B5 B6 s i A) (hg : A.grownBy A' row) (hr : ∀ x, row = some x → w.heap.size ≤ x ∧ ∃ o : Obj, A.heap[x]? = some o ∧ o.isCells = false) : Sc w lo B5 B6 s i A' := by
  have hr2 := fun x e => (hr x e).2
  obtain ⟨ps, ns, pv, nv, h0, h5, h6, hp, hn⟩ := h.lists
  exact ⟨below_own h.bel hg (fun x e => (hr x e).1) h.bel.size, h.r2.own hg hr2, h.r3.own hg hr2, h.r4.own hg hr2, ps, ns, pv, nv, h0, h5.own hg hr2, h6.own hg hr2, ow_own hp hg hr2, rowi_own hn hg hr2⟩

theorem any_name {F : Fence} {n : Nat} {P : Program} {md : Region.Mode} {ops : Array Oper} {Q : Exit → Act → World → Prop} {fuel : Nat} {listed : Array Bool} {a : Act} {w : World}
    (h : ∀ T : Nat → Array Bool → Act → World → Prop, (∀ k L a w, T k L a w ↔ wpAnyIn F n P md ops Q k L a w) → T fuel listed a w) : wpAnyIn F n P md ops Q fuel listed a w :=
  h (fun k L a w => wpAnyIn F n P md ops Q k L a w) (fun _ _ _ _ => Iff.rfl)
/-- append, as a step of a region that draws. -/
theorem stepIn_app {n : Nat} {P : Program} {ops : Array Oper} {o : Oper} {a : Act} {w : World} {K : Act → World → Prop} {Q : Exit → Act → World → Prop} {E : Prop} {t : TypeId} {v1 v2 v' : Value} {w' : World}
    (hg : o.guard = none) (s x : Operand) (hop : o.op = Op.call { callee := Callee.builtin Builtin.append, args := #[s, x], argTypes := #[t, t] }) (hs : a.eval s = v1) (hx : a.eval x = v2)
    (hrun : (Builtin.append_ #[t, t] o.type #[v1, v2]).run P w = .ok v' w') (hK : K (a.put o.dst v') w') :
    if Region.wanted o (yielded ops a.tmps) = true then Oper.wpIn Fence.wide n P o a w K Q else E := by
  have hw : Region.wanted o (yielded ops a.tmps) = true := by simp [Region.wanted, hg]
  rw [if_pos hw]
  refine ⟨fun _ _ => trivial, ?_⟩
  rw [Oper.semAt_eq _ _ _ (fun c e => by rw [hop] at e; cases e)]
  simp [execOp, hop, resolve, invoke, builtin, hs, hx, hrun, Result.andThen, Oper.uponIn]
  exact hK
theorem ents_at {E : List Ent} {i : Nat} {e : Ent} (h : E[i]? = some e) : E = E.take i ++ e :: E.drop (i + 1) := by
  obtain ⟨hi, he⟩ := List.getElem?_eq_some_iff.1 h
  have := List.take_append_drop i E
  rw [List.drop_eq_getElem_cons hi, he] at this
  exact this.symm
theorem entsN_mem : ∀ {ls : List (List UInt8)} {n : Nat} {e : Ent}, e ∈ entsN n ls → ∃ l ∈ ls, saysB l = true ∧ e.2 = wordsB l
  | [], _, _, h => by cases h
  | l :: ls, n, e, h => by
    unfold entsN at h
    split at h
    · rename_i hs
      rcases List.mem_cons.1 h with rfl | h
      · exact ⟨l, List.mem_cons_self, hs, rfl⟩
      · obtain ⟨l', h1, h2⟩ := entsN_mem h
        exact ⟨l', List.mem_cons_of_mem _ h1, h2⟩
    · obtain ⟨l', h1, h2⟩ := entsN_mem h
      exact ⟨l', List.mem_cons_of_mem _ h1, h2⟩
theorem linesG_short : ∀ (s cur l : List UInt8), l ∈ linesG cur s → l.length ≤ cur.length + s.length
  | [], cur, l, h => by
    simp [linesG] at h
    subst h
    simp
  | c :: t, cur, l, h => by
    unfold linesG at h
    split at h
    · rcases List.mem_cons.1 h with rfl | h
      · simp
      · have := linesG_short t [] l h
        simp at this ⊢
        omega
    · have := linesG_short t (cur ++ [c]) l h
      simp at this ⊢
      omega
theorem ents_words {s : List UInt8} {e : Ent} (h : e ∈ ents s) : e.2 ≠ [] ∧ e.2.length ≤ s.length + 1 ∧ ∀ x ∈ e.2, x.length ≤ s.length := by
  obtain ⟨l, hl, hs, hw⟩ := entsN_mem h
  have h1 := linesG_short s [] l hl
  have h2 := wordsG_count l []
  change (wordsB l).length ≤ _ at h2
  simp at h1
  rw [hw]
  refine ⟨fun e => ?_, by omega, fun x hx => ?_⟩
  · unfold saysB at hs
    rw [e] at hs
    cases hs
  · have := wordsG_short l [] x hx
    simp at this
    omega

/-- What three stores leave. -/
theorem three {w A W1 : World} {c2 c3 c4 : Array Value} (hb : Below A.heap.size A W1) (r2 : Cel A w.heap.size c2 23) (r3 : Cel A (w.heap.size + 1) c3 3) (r4 : Cel A (w.heap.size + 1 + 1) c4 27) (h2 : c2.size = 1) (h3 : c3.size = 1) (h4 : c4.size = 1) (v2 v3 v4 : Value) :
    But [w.heap.size, w.heap.size + 1, w.heap.size + 1 + 1] A (((W1.setCell ⟨w.heap.size, 0, none⟩ v2).setCell ⟨w.heap.size + 1, 0, none⟩ v3).setCell ⟨w.heap.size + 1 + 1, 0, none⟩ v4) ∧
    (((W1.setCell ⟨w.heap.size, 0, none⟩ v2).setCell ⟨w.heap.size + 1, 0, none⟩ v3).setCell ⟨w.heap.size + 1 + 1, 0, none⟩ v4).cell? ⟨w.heap.size, 0, none⟩ = some v2 ∧
    (((W1.setCell ⟨w.heap.size, 0, none⟩ v2).setCell ⟨w.heap.size + 1, 0, none⟩ v3).setCell ⟨w.heap.size + 1 + 1, 0, none⟩ v4).cell? ⟨w.heap.size + 1, 0, none⟩ = some v3 ∧
    (((W1.setCell ⟨w.heap.size, 0, none⟩ v2).setCell ⟨w.heap.size + 1, 0, none⟩ v3).setCell ⟨w.heap.size + 1 + 1, 0, none⟩ v4).cell? ⟨w.heap.size + 1 + 1, 0, none⟩ = some v4 := by
  have g2 := ((((r2.below hb).set (j := 0) v2).other (k' := w.heap.size + 1) (j := 0) (by omega) v3).other (k' := w.heap.size + 1 + 1) (j := 0) (by omega) v4)
  have g3 := ((((r3.below hb).other (k' := w.heap.size) (j := 0) (by omega) v2).set (j := 0) v3).other (k' := w.heap.size + 1 + 1) (j := 0) (by omega) v4)
  have g4 := ((((r4.below hb).other (k' := w.heap.size) (j := 0) (by omega) v2).other (k' := w.heap.size + 1) (j := 0) (by omega) v3).set (j := 0) v4)
  refine ⟨(((But.of_below hb).set (p := ⟨w.heap.size, 0, none⟩) (by simp) _).set (p := ⟨w.heap.size + 1, 0, none⟩) (by simp) _).set (p := ⟨w.heap.size + 1 + 1, 0, none⟩) (by simp) _, g2.cell ?_, g3.cell ?_, g4.cell ?_⟩
  · simp [h2]
  · simp [h3]
  · simp [h4]

set_option maxRecDepth 100000 in
set_option maxHeartbeats 8000000 in
theorem scan_in (s : List UInt8) (hs : s.length ≤ 4096) (w : World) (hT : Tab w) {mc : Array Value} {mt : TypeId} {mf : Nat × Nat} {mx : Int} (hM : w.heap[mxB]? = some (.cells mc mt mf)) (hmx : mc[0]? = some (.int .i64 mx)) :
    CallsIn Fence.wide 9 Tryz.prog 9 #[.string (strB s)] w fun e w' => ScanV s w.heap.size e w' ∧ Below w.heap.size w w' := by
  have hz := strB_size s
  have hl2 : ¬ (4096 : Int) < (s.length : Int) := by omega
  refine callsIn_of_wp_marks Tryz.func9 rfl trivial ?_ rfl
  simp only [Tryz.ntmps9, List.size_toArray, List.length_cons, List.length_nil, Nat.reduceAdd, Nat.reduceSub, Array.replicate_succ, Array.replicate_zero, List.push_toArray, List.append_toArray, List.nil_append, List.cons_append]
  gi_wp2_with (refine ⟨trivial, ?_⟩; gi_at_call 20; refine (callsIn_wide.2 (lines_any s _)).mono ?_; rintro e w5 ⟨rfl, rfl⟩)
  have eW : ∀ W6 : World, W6 = ((((((w.alloc (.cells #[.slice none 0 0] 23)).alloc (.cells #[.int .i64 0] 3)).alloc (.cells #[.int .i64 0] 27)).alloc (.cells #[.slice none 0 0] 23)).alloc (.cells #[.slice none 0 0] 52)).alloc (.cells #[.string (strB s)] 9)) →
      Sc w (w.heap.size + 5) (w.heap.size + 1 + 1 + 1) (w.heap.size + 1 + 1 + 1 + 1) s 0 W6 ∧ W6.cell? ⟨w.heap.size + 1 + 1 + 1 + 1 + 1, 0, none⟩ = some (.string (strB s)) ∧ W6.heap.size = w.heap.size + 6 := by
    rintro W6 rfl
    refine ⟨⟨?_, ?_, ?_, ?_, [], [], .slice none 0 0, .slice none 0 0, by simpa using Red.nil, ?_, ?_, Ow.nil _ _, World.ownsRow_nil _ _ _ _⟩, by simp [go_sem], by simp⟩
    · exact ((((((Below.refl _ w).alloc (Nat.le_refl _) _).alloc (by simp) _).alloc (by simp; omega) _).alloc (by simp; omega) _).alloc (by simp; omega) _).alloc (by simp; omega) _
    · exact (((((Cel.new w _ _).put (Below.heap_alloc _ _ _ (by simp))).put (Below.heap_alloc _ _ _ (by simp <;> omega))).put (Below.heap_alloc _ _ _ (by simp <;> omega))).put (Below.heap_alloc _ _ _ (by simp <;> omega))).put (Below.heap_alloc _ _ _ (by simp <;> omega))
    · have h := Cel.new (w.alloc (.cells #[.slice none 0 0] 23)) #[.int .i64 0] 3
      rw [World.size_alloc] at h
      exact (((h.put (Below.heap_alloc _ _ _ (by simp))).put (Below.heap_alloc _ _ _ (by simp <;> omega))).put (Below.heap_alloc _ _ _ (by simp <;> omega))).put (Below.heap_alloc _ _ _ (by simp <;> omega))
    · have h := Cel.new ((w.alloc (.cells #[.slice none 0 0] 23)).alloc (.cells #[.int .i64 0] 3)) #[.int .i64 0] 27
      rw [World.size_alloc, World.size_alloc] at h
      exact ((h.put (Below.heap_alloc _ _ _ (by simp))).put (Below.heap_alloc _ _ _ (by simp <;> omega))).put (Below.heap_alloc _ _ _ (by simp <;> omega))
    · have h := Cel.new (((w.alloc (.cells #[.slice none 0 0] 23)).alloc (.cells #[.int .i64 0] 3)).alloc (.cells #[.int .i64 0] 27)) #[.slice none 0 0] 23
      rw [World.size_alloc, World.size_alloc, World.size_alloc] at h
      exact (h.put (Below.heap_alloc _ _ _ (by simp))).put (Below.heap_alloc _ _ _ (by simp <;> omega))
    · have h := Cel.new ((((w.alloc (.cells #[.slice none 0 0] 23)).alloc (.cells #[.int .i64 0] 3)).alloc (.cells #[.int .i64 0] 27)).alloc (.cells #[.slice none 0 0] 23)) #[.slice none 0 0] 52
      rw [World.size_alloc, World.size_alloc, World.size_alloc, World.size_alloc] at h
      exact h.put (Below.heap_alloc _ _ _ (by simp))
  obtain ⟨hS6, hX6, hz6⟩ := eW _ rfl
  clear eW
  generalize ((((((w.alloc (.cells #[.slice none 0 0] 23)).alloc (.cells #[.int .i64 0] 3)).alloc (.cells #[.int .i64 0] 27)).alloc (.cells #[.slice none 0 0] 23)).alloc (.cells #[.slice none 0 0] 52)).alloc (.cells #[.string (strB s)] 9)) = W6 at *
  have hmxw := (Array.getElem?_eq_some_iff.1 hM).1
  have hno : mxB ∉ ownS (w.heap.size + 1 + 1 + 1) (w.heap.size + 1 + 1 + 1 + 1) W6 := by
    obtain ⟨ps, ns, pv, nv, _, h5, h6, hp, hn⟩ := hS6.lists
    unfold ownS
    rw [blk_is h5, blk_is h6]
    simp
    refine ⟨by omega, by omega, fun e => ?_, fun e => ?_⟩
    · have := (hp.lt e).1
      omega
    · have := (World.ownsRow.lt hn _ e).1
      omega
  refine wp_rangeV (stab_s (w.heap.size + 1 + 1 + 1) (w.heap.size + 1 + 1 + 1 + 1)) (gf := 43) (lb := #[.pointer (some ⟨w.heap.size + 1 + 1 + 1 + 1 + 1, 0, none⟩)]) (Enc := EncL) (q := ents s) rfl (enters_of Tryz.func43 (by kernel_rfl) rfl)
    (lines_seq (stab_s _ _) (w.heap.size + 1 + 1 + 1 + 1 + 1) s hs W6 hX6 ((hS6.bel.block mxB hmxw).trans hM) hmx hS6.inn hno) (Below.refl _ _) (fun x v W h => by obtain ⟨a, c, rfl, _⟩ := h; rfl) (fun x v W l o o' hl hc h => ?hE)
    (fun i A => Sc w (w.heap.size + 5) (w.heap.size + 1 + 1 + 1) (w.heap.size + 1 + 1 + 1 + 1) s i A)
    (fun c' A => c' = .ret ∧ ∃ n : Nat, scanV s = ([], n, 11) ∧ Below w.heap.size w A ∧ Cel A w.heap.size #[.slice none 0 0] 23 ∧ Cel A (w.heap.size + 1) #[.int .i64 n] 3 ∧ Cel A (w.heap.size + 1 + 1) #[.int .i64 11] 27)
    ?hI ?hIx (fun i A h => h.inn) hS6 (fun _ v => { tmps := #[.string (strB s), undef, .pointer (some ⟨w.heap.size, 0, none⟩), .pointer (some ⟨w.heap.size + 1, 0, none⟩), .pointer (some ⟨w.heap.size + 1 + 1, 0, none⟩), .pointer (some ⟨w.heap.size + 1 + 1 + 1, 0, none⟩), .pointer (some ⟨w.heap.size + 1 + 1 + 1 + 1, 0, none⟩), v.getD 0 undef, v.getD 1 undef, undef, undef, undef, undef, .string (strB s), .int .i64 (s.length : Int), .bool false, .string (strB s), .func (.func 43) #[] #[.pointer (some ⟨w.heap.size + 1 + 1 + 1 + 1 + 1, 0, none⟩)], v.getD 0 undef, v.getD 1 undef, undef, undef, undef, undef, undef, undef, undef, undef, undef, undef, undef, undef, undef, undef, undef, undef, undef, undef, undef, undef, undef, undef, undef, undef, undef, undef, undef, undef, undef, undef, undef, undef, undef], defers := [] }) ?assign ?body ?done ?stop
  case hE =>
    obtain ⟨a, c, rfl, h1, h2⟩ := h
    refine ⟨a, c, rfl, h1, fun j y hj => ?_⟩
    obtain ⟨b, of, e, hcell⟩ := h2 j y hj
    refine ⟨b, of, e, ?_⟩
    have hb : b ≠ l := by
      rintro rfl
      simp only [World.cell?, hl] at hcell
      cases o with
      | cells _ _ _ => simp [Obj.isCells] at hc
      | _ => simp at hcell
    simp only [World.cell?] at hcell ⊢
    rw [World.putObj_heap_other hb]
    exact hcell
  case hI =>
    intro j A A' row h hg hr'
    exact h.own hg (fun x e => ⟨by have := (hr' x e).1; omega, (hr' x e).2⟩)
  case hIx =>
    rintro c' u A A' row ⟨h1, n, h2, h3, h4, h5, h6⟩ hg hr'
    exact ⟨h1, n, h2, below_own h3 hg (fun x e => by have := (hr' x e).1; omega) h3.size, h4.own hg (fun x e => (hr' x e).2), h5.own hg (fun x e => (hr' x e).2), h6.own hg (fun x e => (hr' x e).2)⟩
  case assign =>
    rintro l x v W K ⟨a, c, rfl, _, _⟩ hK
    gi_wp2
    exact hK
  case body =>
    rintro l2 i ⟨n, ws⟩ v A hq ⟨wa, wc, rfl, hwc, hwv⟩ hS
    simp only [Array.getD_eq_getD_getElem?, List.getElem?_toArray, List.getElem?_cons_zero, List.getElem?_cons_succ, Option.getD_some] at hwc hwv ⊢
    obtain ⟨hne, hwl, hws⟩ := ents_words (List.mem_of_getElem? hq)
    dsimp only at hne hwl hws
    obtain ⟨l, r, rfl⟩ : ∃ l r, ws = l :: r := by cases ws with | nil => exact absurd rfl hne | cons l r => exact ⟨l, r, rfl⟩
    have hlen : r.length ≤ 10000 := by simp at hwl; omega
    have hlens : ∀ x ∈ r, x.length ≤ 10000 := fun x hx => by have := hws x (List.mem_cons_of_mem _ hx); omega
    have HI := inst_any hwv hwc hlen hlens (hT.on hS.bel)
    simp only [List.length_cons] at *
    cases hiw : insW (l :: r) with
    | none =>
      rw [hiw] at HI
      obtain ⟨ps, ns, pv, nv, hRed, h5, h6, hp, hn⟩ := hS.lists
      have hsv := scan_line hs hRed (R := (ents s).drop (i + 1)) (n := n) (ws := l :: r) (ents_at hq) hiw
      have HSV := Hid.mk hsv
      have HRd := Hid.mk hRed
      clear hsv hRed hq hiw hwl hws hne
      gi_wp2_with (refine ⟨trivial, ?_⟩; gi_at_call 21; refine (CallsIn.inRound l2 (callsIn_wide.2 HI)).mono ?_; rintro e A1 ⟨hv4, hb4⟩; obtain ⟨x0, x1, x2, x3, rfl, _⟩ := hv4.out; simp only [Option.isSome_none]; have bB : Below A.heap.size A (A1.alloc (.cells #[.int .i64 x0, .int .i64 x1, .int .i64 x2, .int .i64 x3] 37)) := hb4.alloc hb4.size _; have r2 := hS.r2.below bB; have r3 := hS.r3.below bB; have r4 := hS.r4.below bB; have g2 := r2.cell (j := 0) (v := .slice none 0 0) rfl; have g3 := r3.cell (j := 0) (v := .int .i64 0) rfl; have g4 := r4.cell (j := 0) (v := .int .i64 0) rfl; have z2 := r2.fz 0; have z3 := r3.fz 0; have z4 := r4.fz 0)
      have hbb : But [w.heap.size, w.heap.size + 1, w.heap.size + 1 + 1] A ((((A1.alloc (.cells #[.int .i64 x0, .int .i64 x1, .int .i64 x2, .int .i64 x3] 37)).setCell ⟨w.heap.size, 0, none⟩ (.slice none 0 0)).setCell ⟨w.heap.size + 1, 0, none⟩ (.int .i64 (n : Int))).setCell ⟨w.heap.size + 1 + 1, 0, none⟩ (.int .i64 11)) :=
        (((But.of_below bB).set (p := ⟨w.heap.size, 0, none⟩) (by simp) _).set (p := ⟨w.heap.size + 1, 0, none⟩) (by simp) _).set (p := ⟨w.heap.size + 1 + 1, 0, none⟩) (by simp) _
      refine ⟨(kp_list hbb (fun k hk => ?_)).from_, rfl, n, HSV.out, hS.bel.trans (hbb.below hS.bel.size (by simp; omega)), ((r2.set (j := 0) (.slice none 0 0)).other (by omega) _).other (by omega) _, ((r3.other (by omega) _).set (j := 0) (.int .i64 (n : Int))).other (by omega) _, ((r4.other (by omega) _).other (by omega) _).set (j := 0) (.int .i64 11)⟩
      simp at hk
      rcases hk with rfl | rfl | rfl
      · exact ⟨_, hS.r2, rfl⟩
      · exact ⟨_, hS.r3, rfl⟩
      · exact ⟨_, hS.r4, rfl⟩
    | some y =>
      rw [hiw] at HI
      gi_wp2_with (refine ⟨trivial, ?_⟩; gi_at_call 21; refine (CallsIn.inRound l2 (callsIn_wide.2 HI)).mono ?_; rintro e A1 ⟨hv4, hb4⟩; obtain ⟨x0, x1, x2, x3, rfl, hxy⟩ := hv4.out; obtain rfl := hxy y rfl; simp only [Option.isSome_some])
      obtain ⟨ps, ns, pv, nv, hRed, h5, h6, hp, hn⟩ := hS.lists
      have hmxo : Tryz.prog.follows .mixedOrders = true := by kernel_rfl
      have hil := (List.getElem?_eq_some_iff.1 hq).1
      have hel := ents_len s
      have hps : ps.length = i ∧ ns.length = i := by
        have := hRed.len
        rw [List.length_take] at this
        omega
      have hB9 : A.heap.size ≤ A1.heap.size := hb4.size
      have hpA : ∀ k, pv.ownBlock = some k → k < A.heap.size := fun k hk => (hp.lt hk).2
      have hB56 : w.heap.size + 1 + 1 + 1 ≠ w.heap.size + 1 + 1 + 1 + 1 := by omega
      have hbW : Below A.heap.size A (A1.alloc (.cells #[.int .i64 x0, .int .i64 x1, .int .i64 x2, .int .i64 x3] 37)).drew := (hb4.alloc hb4.size _).drew
      have hloA : w.heap.size + 5 ≤ A.heap.size := by have := h6.lt; omega
      have hS0 : Sg A (w.heap.size + 5) (w.heap.size + 1 + 1 + 1) (w.heap.size + 1 + 1 + 1 + 1) A1.heap.size pv nv ps ns (x0, x1, x2, x3) (n : Int) 0 0 undef undef undef undef (A1.alloc (.cells #[.int .i64 x0, .int .i64 x1, .int .i64 x2, .int .i64 x3] 37)).drew :=
        ⟨But.of_below hbW, hloA, by omega, by omega, ⟨h5.below hbW, Cel.new A1 _ _, fun _ => hp.below hbW, fun e => by omega, fun e => by omega⟩, ⟨h6.below hbW, fun _ => hn.below hbW, fun e => by omega, fun e => by omega⟩⟩
      have hfin : ∀ (u v u' v' : Value) (W : World), Sg A (w.heap.size + 5) (w.heap.size + 1 + 1 + 1) (w.heap.size + 1 + 1 + 1 + 1) A1.heap.size pv nv ps ns (x0, x1, x2, x3) (n : Int) 3 3 u v u' v' W → Kp (ownS (w.heap.size + 1 + 1 + 1) (w.heap.size + 1 + 1 + 1 + 1)) W6.heap.size A W ∧ Sc w (w.heap.size + 5) (w.heap.size + 1 + 1 + 1) (w.heap.size + 1 + 1 + 1 + 1) s (i + 1) W := by
        intro u v u' v' W hE
        have hRed2 : Red ((ents s).take (i + 1)) (ps ++ [(x0, x1, x2, x3)]) (ns ++ [(n : Int)]) := by
          rw [List.take_add_one, hq]
          exact hRed.snoc hiw
        obtain ⟨q1, q2⟩ := hE.p.rq (by omega)
        obtain ⟨q3, q4⟩ := hE.q.rq (by omega)
        have g5 : Cel W (w.heap.size + 1 + 1 + 1) #[v] 23 := hE.p.b5
        have g6 : Cel W (w.heap.size + 1 + 1 + 1 + 1) #[v'] 52 := hE.q.b6
        have eA : ownS (w.heap.size + 1 + 1 + 1) (w.heap.size + 1 + 1 + 1 + 1) A = [w.heap.size + 1 + 1 + 1, w.heap.size + 1 + 1 + 1 + 1] ++ pv.ownBlock.toList ++ nv.ownBlock.toList := by
          unfold ownS
          rw [blk_is h5, blk_is h6]
        have eW2 : ownS (w.heap.size + 1 + 1 + 1) (w.heap.size + 1 + 1 + 1 + 1) W = [w.heap.size + 1 + 1 + 1, w.heap.size + 1 + 1 + 1 + 1] ++ v.ownBlock.toList ++ v'.ownBlock.toList := by
          unfold ownS
          rw [blk_is g5, blk_is g6]
        have hno : ∀ k, k < w.heap.size + 3 → k ∉ [w.heap.size + 1 + 1 + 1, w.heap.size + 1 + 1 + 1 + 1] ++ pv.ownBlock.toList ++ nv.ownBlock.toList := by
          intro k hk
          simp
          refine ⟨by omega, by omega, fun e => ?_, fun e => ?_⟩
          · have := (hp.lt e).1
            omega
          · have := (World.ownsRow.lt hn _ e).1
            omega
        have hinA := own_in h5 h6 hp hn
        refine ⟨⟨⟨hE.but.size, fun k o _ hk hc => ?_⟩, fun k o hk _ hkn => ?_, fun k hk hkn => ?_⟩, ?_⟩
        · refine (hE.but.block k (Array.getElem?_eq_some_iff.1 hk).1 (fun hm => ?_)).trans hk
          obtain ⟨o', ho', hc'⟩ := hinA k (by rw [eA]; exact hm)
          rw [hk] at ho'
          cases ho'
          rw [hc] at hc'
          cases hc'
        · exact (hE.but.block k (Array.getElem?_eq_some_iff.1 hk).1 (by rw [← eA]; exact hkn)).trans hk
        · rw [eW2]
          rw [eA] at hkn
          simp at hkn ⊢
          refine ⟨hkn.1, hkn.2.1, fun e => ?_, fun e => ?_⟩
          · rcases q2 with q2 | ⟨g, hg, q2⟩
            · exact hkn.2.2.1 (by rw [← q2]; exact e)
            · rw [q2] at e
              cases e
              omega
          · rcases q4 with q4 | ⟨g, hg, q4⟩
            · exact hkn.2.2.2 (by rw [← q4]; exact e)
            · rw [q4] at e
              cases e
              omega
        · refine ⟨hS.bel.trans (hE.but.below hS.bel.size (fun k hk => Classical.byContradiction (fun h => hno k (by omega) hk))), hS.r2.but hE.but (hno _ (by omega)), hS.r3.but hE.but (hno _ (by omega)), hS.r4.but hE.but (hno _ (by omega)), _, _, v, v', hRed2, g5, g6, q1, q3⟩
      refine wpIn_region_any hmxo (anyRound (by kernel_rfl) ?_)
      change wpAnyIn _ _ _ _ _ _ _ _ _ (World.drew _)
      generalize (A1.alloc (.cells #[.int .i64 x0, .int .i64 x1, .int .i64 x2, .int .i64 x3] 37)).drew = W0 at hS0 ⊢
      generalize h7e : w.heap.size + 1 + 1 + 1 + 1 + 1 = lo at *
      have H7 := Hid.mk h7e
      clear h7e
      generalize h6e : w.heap.size + 1 + 1 + 1 + 1 = B6 at *
      have H6 := Hid.mk h6e
      clear h6e
      generalize h5e : w.heap.size + 1 + 1 + 1 = B5 at *
      have H5 := Hid.mk h5e
      clear h5e
      generalize A1.heap.size = B9 at *
      refine wpAnyIn_take (i := 5) (v := .int .i64 (n : Int)) rfl rfl (by kernel_rfl) (by kernel_rfl) (by kernel_rfl) (fun _ _ _ h => h) ⟨Or.inl ⟨rfl, fun w => by go_simp⟩, fun _ => rfl⟩ ?_
      refine any_name (fun T hT => ?_)
      -- DAG BEGIN
      have k11133 : ∀ (u v u' v' : Value) (W : World), Sg A lo B5 B6 B9 pv nv ps ns (x0, x1, x2, x3) (n : Int) 3 3 u v u' v' W → T 0 #[true, true, true, true, true, true, true, true, true, true] { tmps := #[.string (strB s), undef, .pointer (some ⟨w.heap.size, 0, none⟩), .pointer (some ⟨w.heap.size + 1, 0, none⟩), .pointer (some ⟨w.heap.size + 1 + 1, 0, none⟩), .pointer (some ⟨B5, 0, none⟩), .pointer (some ⟨B6, 0, none⟩), .int .i64 (n : Int), .slice wa (r.length + 1) wc, .pointer (some ⟨B9, 0, none⟩), .bool true, undef, undef, .string (strB s), .int .i64 (s.length : Int), .bool false, .string (strB s), .func (.func 43) #[] #[.pointer (some ⟨lo, 0, none⟩)], .int .i64 (n : Int), .slice wa (r.length + 1) wc, .tuple #[(.agg #[.int .i64 x0, .int .i64 x1, .int .i64 x2, .int .i64 x3]), .bool true], .slice wa (r.length + 1) wc, .tuple #[(.agg #[.int .i64 x0, .int .i64 x1, .int .i64 x2, .int .i64 x3]), .bool true], .agg #[.int .i64 x0, .int .i64 x1, .int .i64 x2, .int .i64 x3], .bool true, .bool true, .bool false, undef, pv, .agg #[.int .i64 x0, .int .i64 x1, .int .i64 x2, .int .i64 x3], u, v, nv, .int .i64 (n : Int), u', v', undef, undef, undef, undef, undef, undef, undef, undef, undef, undef, undef, undef, undef, undef, undef, undef, undef], defers := [] } W := by
        intro u v u' v' W hS
        refine (hT _ _ _ _).2 ?_
        refine wpAnyIn_done (by kernel_rfl) ?_ _
        have hF := hfin _ _ _ _ _ hS
        gi_wp2_with fail
        have e7 := H7.out
        have e6 := H6.out
        have e5 := H5.out
        subst e7 e6 e5
        exact hF
      have k11132 : ∀ (u v u' v' : Value) (W : World), Sg A lo B5 B6 B9 pv nv ps ns (x0, x1, x2, x3) (n : Int) 3 2 u v u' v' W → T 1 #[true, true, true, true, true, true, true, true, true, false] { tmps := #[.string (strB s), undef, .pointer (some ⟨w.heap.size, 0, none⟩), .pointer (some ⟨w.heap.size + 1, 0, none⟩), .pointer (some ⟨w.heap.size + 1 + 1, 0, none⟩), .pointer (some ⟨B5, 0, none⟩), .pointer (some ⟨B6, 0, none⟩), .int .i64 (n : Int), .slice wa (r.length + 1) wc, .pointer (some ⟨B9, 0, none⟩), .bool true, undef, undef, .string (strB s), .int .i64 (s.length : Int), .bool false, .string (strB s), .func (.func 43) #[] #[.pointer (some ⟨lo, 0, none⟩)], .int .i64 (n : Int), .slice wa (r.length + 1) wc, .tuple #[(.agg #[.int .i64 x0, .int .i64 x1, .int .i64 x2, .int .i64 x3]), .bool true], .slice wa (r.length + 1) wc, .tuple #[(.agg #[.int .i64 x0, .int .i64 x1, .int .i64 x2, .int .i64 x3]), .bool true], .agg #[.int .i64 x0, .int .i64 x1, .int .i64 x2, .int .i64 x3], .bool true, .bool true, .bool false, undef, pv, .agg #[.int .i64 x0, .int .i64 x1, .int .i64 x2, .int .i64 x3], u, v, nv, .int .i64 (n : Int), u', v', undef, undef, undef, undef, undef, undef, undef, undef, undef, undef, undef, undef, undef, undef, undef, undef, undef], defers := [] } W := by
        intro u v u' v' W hS
        refine (hT _ _ _ _).2 ?_
        refine wpAnyIn_ready (rs := [9]) (by kernel_rfl) (by simp) ?_
        refine AllReadyIn.cons rfl (fun K hK => ?_) AllReadyIn.nil
        · obtain ⟨m, hm⟩ : ∃ m, (ns ++ [(n : Int)]).length = m := ⟨_, rfl⟩
          obtain ⟨ca, cc, ev⟩ := row_sl (hS.q.rq (by omega)).1 hm
          subst ev
          clear hm
          have c6 := hS.q.b6.cell (j := 0) (v := nv) rfl
          have z6 := hS.q.b6.fz 0
          go_simp
          refine hK _ _ ((hT _ _ _ _).1 ?_)
          exact k11133 u v u' _ _ (hS.store_n hB56)
      have k11122 : ∀ (u v u' v' : Value) (W : World), Sg A lo B5 B6 B9 pv nv ps ns (x0, x1, x2, x3) (n : Int) 2 2 u v u' v' W → T 2 #[true, true, true, true, true, true, true, true, false, false] { tmps := #[.string (strB s), undef, .pointer (some ⟨w.heap.size, 0, none⟩), .pointer (some ⟨w.heap.size + 1, 0, none⟩), .pointer (some ⟨w.heap.size + 1 + 1, 0, none⟩), .pointer (some ⟨B5, 0, none⟩), .pointer (some ⟨B6, 0, none⟩), .int .i64 (n : Int), .slice wa (r.length + 1) wc, .pointer (some ⟨B9, 0, none⟩), .bool true, undef, undef, .string (strB s), .int .i64 (s.length : Int), .bool false, .string (strB s), .func (.func 43) #[] #[.pointer (some ⟨lo, 0, none⟩)], .int .i64 (n : Int), .slice wa (r.length + 1) wc, .tuple #[(.agg #[.int .i64 x0, .int .i64 x1, .int .i64 x2, .int .i64 x3]), .bool true], .slice wa (r.length + 1) wc, .tuple #[(.agg #[.int .i64 x0, .int .i64 x1, .int .i64 x2, .int .i64 x3]), .bool true], .agg #[.int .i64 x0, .int .i64 x1, .int .i64 x2, .int .i64 x3], .bool true, .bool true, .bool false, undef, pv, .agg #[.int .i64 x0, .int .i64 x1, .int .i64 x2, .int .i64 x3], u, v, nv, .int .i64 (n : Int), u', v', undef, undef, undef, undef, undef, undef, undef, undef, undef, undef, undef, undef, undef, undef, undef, undef, undef], defers := [] } W := by
        intro u v u' v' W hS
        refine (hT _ _ _ _).2 ?_
        refine wpAnyIn_ready (rs := [8]) (by kernel_rfl) (by simp) ?_
        refine AllReadyIn.cons rfl (fun K hK => ?_) AllReadyIn.nil
        · obtain ⟨m, hm⟩ : ∃ m, (ps ++ [(x0, x1, x2, x3)]).length = m := ⟨_, rfl⟩
          obtain ⟨ca, cc, ev, _⟩ := ow_sl (hS.p.rq (by omega)).1 hm
          subst ev
          clear hm
          have c5 := hS.p.b5.cell (j := 0) (v := pv) rfl
          have z5 := hS.p.b5.fz 0
          go_simp
          refine hK _ _ ((hT _ _ _ _).1 ?_)
          exact k11132 u _ u' v' _ (hS.store_p hB56)
      have k11121 : ∀ (u v u' : Value) (W : World), Sg A lo B5 B6 B9 pv nv ps ns (x0, x1, x2, x3) (n : Int) 2 1 u v u' undef W → T 3 #[true, true, true, true, true, true, true, false, false, false] { tmps := #[.string (strB s), undef, .pointer (some ⟨w.heap.size, 0, none⟩), .pointer (some ⟨w.heap.size + 1, 0, none⟩), .pointer (some ⟨w.heap.size + 1 + 1, 0, none⟩), .pointer (some ⟨B5, 0, none⟩), .pointer (some ⟨B6, 0, none⟩), .int .i64 (n : Int), .slice wa (r.length + 1) wc, .pointer (some ⟨B9, 0, none⟩), .bool true, undef, undef, .string (strB s), .int .i64 (s.length : Int), .bool false, .string (strB s), .func (.func 43) #[] #[.pointer (some ⟨lo, 0, none⟩)], .int .i64 (n : Int), .slice wa (r.length + 1) wc, .tuple #[(.agg #[.int .i64 x0, .int .i64 x1, .int .i64 x2, .int .i64 x3]), .bool true], .slice wa (r.length + 1) wc, .tuple #[(.agg #[.int .i64 x0, .int .i64 x1, .int .i64 x2, .int .i64 x3]), .bool true], .agg #[.int .i64 x0, .int .i64 x1, .int .i64 x2, .int .i64 x3], .bool true, .bool true, .bool false, undef, pv, .agg #[.int .i64 x0, .int .i64 x1, .int .i64 x2, .int .i64 x3], u, v, nv, .int .i64 (n : Int), u', undef, undef, undef, undef, undef, undef, undef, undef, undef, undef, undef, undef, undef, undef, undef, undef, undef, undef], defers := [] } W := by
        intro u v u' W hS
        refine (hT _ _ _ _).2 ?_
        refine wpAnyIn_ready (rs := [7]) (by kernel_rfl) (by simp) ?_
        refine AllReadyIn.cons rfl (fun K hK => ?_) AllReadyIn.nil
        · obtain ⟨v2, W2, hrun, hS2⟩ := hS.app_n 52
          refine stepIn_app rfl (.tmp 32) (.tmp 34) rfl rfl rfl hrun ?_
          refine hK _ _ ((hT _ _ _ _).1 ?_)
          exact k11122 u v u' _ _ hS2
      have k11120 : ∀ (u v : Value) (W : World), Sg A lo B5 B6 B9 pv nv ps ns (x0, x1, x2, x3) (n : Int) 2 0 u v undef undef W → T 4 #[true, true, true, true, true, true, false, false, false, false] { tmps := #[.string (strB s), undef, .pointer (some ⟨w.heap.size, 0, none⟩), .pointer (some ⟨w.heap.size + 1, 0, none⟩), .pointer (some ⟨w.heap.size + 1 + 1, 0, none⟩), .pointer (some ⟨B5, 0, none⟩), .pointer (some ⟨B6, 0, none⟩), .int .i64 (n : Int), .slice wa (r.length + 1) wc, .pointer (some ⟨B9, 0, none⟩), .bool true, undef, undef, .string (strB s), .int .i64 (s.length : Int), .bool false, .string (strB s), .func (.func 43) #[] #[.pointer (some ⟨lo, 0, none⟩)], .int .i64 (n : Int), .slice wa (r.length + 1) wc, .tuple #[(.agg #[.int .i64 x0, .int .i64 x1, .int .i64 x2, .int .i64 x3]), .bool true], .slice wa (r.length + 1) wc, .tuple #[(.agg #[.int .i64 x0, .int .i64 x1, .int .i64 x2, .int .i64 x3]), .bool true], .agg #[.int .i64 x0, .int .i64 x1, .int .i64 x2, .int .i64 x3], .bool true, .bool true, .bool false, undef, pv, .agg #[.int .i64 x0, .int .i64 x1, .int .i64 x2, .int .i64 x3], u, v, nv, .int .i64 (n : Int), undef, undef, undef, undef, undef, undef, undef, undef, undef, undef, undef, undef, undef, undef, undef, undef, undef, undef, undef], defers := [] } W := by
        intro u v W hS
        refine (hT _ _ _ _).2 ?_
        refine wpAnyIn_ready (rs := [6]) (by kernel_rfl) (by simp) ?_
        refine AllReadyIn.cons rfl (fun K hK => ?_) AllReadyIn.nil
        · go_simp
          refine hK _ _ ((hT _ _ _ _).1 ?_)
          exact k11121 u v _ _ hS.build_n
      have k11021 : ∀ (u v u' : Value) (W : World), Sg A lo B5 B6 B9 pv nv ps ns (x0, x1, x2, x3) (n : Int) 2 1 u v u' undef W → T 4 #[true, true, true, true, false, true, true, false, false, false] { tmps := #[.string (strB s), undef, .pointer (some ⟨w.heap.size, 0, none⟩), .pointer (some ⟨w.heap.size + 1, 0, none⟩), .pointer (some ⟨w.heap.size + 1 + 1, 0, none⟩), .pointer (some ⟨B5, 0, none⟩), .pointer (some ⟨B6, 0, none⟩), .int .i64 (n : Int), .slice wa (r.length + 1) wc, .pointer (some ⟨B9, 0, none⟩), .bool true, undef, undef, .string (strB s), .int .i64 (s.length : Int), .bool false, .string (strB s), .func (.func 43) #[] #[.pointer (some ⟨lo, 0, none⟩)], .int .i64 (n : Int), .slice wa (r.length + 1) wc, .tuple #[(.agg #[.int .i64 x0, .int .i64 x1, .int .i64 x2, .int .i64 x3]), .bool true], .slice wa (r.length + 1) wc, .tuple #[(.agg #[.int .i64 x0, .int .i64 x1, .int .i64 x2, .int .i64 x3]), .bool true], .agg #[.int .i64 x0, .int .i64 x1, .int .i64 x2, .int .i64 x3], .bool true, .bool true, .bool false, undef, pv, .agg #[.int .i64 x0, .int .i64 x1, .int .i64 x2, .int .i64 x3], u, v, undef, .int .i64 (n : Int), u', undef, undef, undef, undef, undef, undef, undef, undef, undef, undef, undef, undef, undef, undef, undef, undef, undef, undef], defers := [] } W := by
        intro u v u' W hS
        refine (hT _ _ _ _).2 ?_
        refine wpAnyIn_ready (rs := [4]) (by kernel_rfl) (by simp) ?_
        refine AllReadyIn.cons rfl (fun K hK => ?_) AllReadyIn.nil
        · have c6 := hS.q.b6.cell (j := 0) (v := nv) rfl
          go_simp
          refine hK _ _ ((hT _ _ _ _).1 ?_)
          exact k11121 u v u' _ hS
      have k11020 : ∀ (u v : Value) (W : World), Sg A lo B5 B6 B9 pv nv ps ns (x0, x1, x2, x3) (n : Int) 2 0 u v undef undef W → T 5 #[true, true, true, true, false, true, false, false, false, false] { tmps := #[.string (strB s), undef, .pointer (some ⟨w.heap.size, 0, none⟩), .pointer (some ⟨w.heap.size + 1, 0, none⟩), .pointer (some ⟨w.heap.size + 1 + 1, 0, none⟩), .pointer (some ⟨B5, 0, none⟩), .pointer (some ⟨B6, 0, none⟩), .int .i64 (n : Int), .slice wa (r.length + 1) wc, .pointer (some ⟨B9, 0, none⟩), .bool true, undef, undef, .string (strB s), .int .i64 (s.length : Int), .bool false, .string (strB s), .func (.func 43) #[] #[.pointer (some ⟨lo, 0, none⟩)], .int .i64 (n : Int), .slice wa (r.length + 1) wc, .tuple #[(.agg #[.int .i64 x0, .int .i64 x1, .int .i64 x2, .int .i64 x3]), .bool true], .slice wa (r.length + 1) wc, .tuple #[(.agg #[.int .i64 x0, .int .i64 x1, .int .i64 x2, .int .i64 x3]), .bool true], .agg #[.int .i64 x0, .int .i64 x1, .int .i64 x2, .int .i64 x3], .bool true, .bool true, .bool false, undef, pv, .agg #[.int .i64 x0, .int .i64 x1, .int .i64 x2, .int .i64 x3], u, v, undef, .int .i64 (n : Int), undef, undef, undef, undef, undef, undef, undef, undef, undef, undef, undef, undef, undef, undef, undef, undef, undef, undef, undef], defers := [] } W := by
        intro u v W hS
        refine (hT _ _ _ _).2 ?_
        refine wpAnyIn_ready (rs := [4, 6]) (by kernel_rfl) (by simp) ?_
        refine AllReadyIn.cons rfl (fun K hK => ?_) (AllReadyIn.cons rfl (fun K hK => ?_) AllReadyIn.nil)
        · have c6 := hS.q.b6.cell (j := 0) (v := nv) rfl
          go_simp
          refine hK _ _ ((hT _ _ _ _).1 ?_)
          exact k11120 u v _ hS
        · go_simp
          refine hK _ _ ((hT _ _ _ _).1 ?_)
          exact k11021 u v _ _ hS.build_n
      have k11111 : ∀ (u u' : Value) (W : World), Sg A lo B5 B6 B9 pv nv ps ns (x0, x1, x2, x3) (n : Int) 1 1 u undef u' undef W → T 4 #[true, true, true, false, true, true, true, false, false, false] { tmps := #[.string (strB s), undef, .pointer (some ⟨w.heap.size, 0, none⟩), .pointer (some ⟨w.heap.size + 1, 0, none⟩), .pointer (some ⟨w.heap.size + 1 + 1, 0, none⟩), .pointer (some ⟨B5, 0, none⟩), .pointer (some ⟨B6, 0, none⟩), .int .i64 (n : Int), .slice wa (r.length + 1) wc, .pointer (some ⟨B9, 0, none⟩), .bool true, undef, undef, .string (strB s), .int .i64 (s.length : Int), .bool false, .string (strB s), .func (.func 43) #[] #[.pointer (some ⟨lo, 0, none⟩)], .int .i64 (n : Int), .slice wa (r.length + 1) wc, .tuple #[(.agg #[.int .i64 x0, .int .i64 x1, .int .i64 x2, .int .i64 x3]), .bool true], .slice wa (r.length + 1) wc, .tuple #[(.agg #[.int .i64 x0, .int .i64 x1, .int .i64 x2, .int .i64 x3]), .bool true], .agg #[.int .i64 x0, .int .i64 x1, .int .i64 x2, .int .i64 x3], .bool true, .bool true, .bool false, undef, pv, .agg #[.int .i64 x0, .int .i64 x1, .int .i64 x2, .int .i64 x3], u, undef, nv, .int .i64 (n : Int), u', undef, undef, undef, undef, undef, undef, undef, undef, undef, undef, undef, undef, undef, undef, undef, undef, undef, undef], defers := [] } W := by
        intro u u' W hS
        refine (hT _ _ _ _).2 ?_
        refine wpAnyIn_ready (rs := [3]) (by kernel_rfl) (by simp) ?_
        refine AllReadyIn.cons rfl (fun K hK => ?_) AllReadyIn.nil
        · obtain ⟨v2, W2, hrun, hS2⟩ := hS.app_p hB9 hpA 23
          refine stepIn_app rfl (.tmp 28) (.tmp 30) rfl rfl rfl hrun ?_
          refine hK _ _ ((hT _ _ _ _).1 ?_)
          exact k11121 u _ u' _ hS2
      have k11110 : ∀ (u : Value) (W : World), Sg A lo B5 B6 B9 pv nv ps ns (x0, x1, x2, x3) (n : Int) 1 0 u undef undef undef W → T 5 #[true, true, true, false, true, true, false, false, false, false] { tmps := #[.string (strB s), undef, .pointer (some ⟨w.heap.size, 0, none⟩), .pointer (some ⟨w.heap.size + 1, 0, none⟩), .pointer (some ⟨w.heap.size + 1 + 1, 0, none⟩), .pointer (some ⟨B5, 0, none⟩), .pointer (some ⟨B6, 0, none⟩), .int .i64 (n : Int), .slice wa (r.length + 1) wc, .pointer (some ⟨B9, 0, none⟩), .bool true, undef, undef, .string (strB s), .int .i64 (s.length : Int), .bool false, .string (strB s), .func (.func 43) #[] #[.pointer (some ⟨lo, 0, none⟩)], .int .i64 (n : Int), .slice wa (r.length + 1) wc, .tuple #[(.agg #[.int .i64 x0, .int .i64 x1, .int .i64 x2, .int .i64 x3]), .bool true], .slice wa (r.length + 1) wc, .tuple #[(.agg #[.int .i64 x0, .int .i64 x1, .int .i64 x2, .int .i64 x3]), .bool true], .agg #[.int .i64 x0, .int .i64 x1, .int .i64 x2, .int .i64 x3], .bool true, .bool true, .bool false, undef, pv, .agg #[.int .i64 x0, .int .i64 x1, .int .i64 x2, .int .i64 x3], u, undef, nv, .int .i64 (n : Int), undef, undef, undef, undef, undef, undef, undef, undef, undef, undef, undef, undef, undef, undef, undef, undef, undef, undef, undef], defers := [] } W := by
        intro u W hS
        refine (hT _ _ _ _).2 ?_
        refine wpAnyIn_ready (rs := [3, 6]) (by kernel_rfl) (by simp) ?_
        refine AllReadyIn.cons rfl (fun K hK => ?_) (AllReadyIn.cons rfl (fun K hK => ?_) AllReadyIn.nil)
        · obtain ⟨v2, W2, hrun, hS2⟩ := hS.app_p hB9 hpA 23
          refine stepIn_app rfl (.tmp 28) (.tmp 30) rfl rfl rfl hrun ?_
          refine hK _ _ ((hT _ _ _ _).1 ?_)
          exact k11120 u _ _ hS2
        · go_simp
          refine hK _ _ ((hT _ _ _ _).1 ?_)
          exact k11111 u _ _ hS.build_n
      have k11011 : ∀ (u u' : Value) (W : World), Sg A lo B5 B6 B9 pv nv ps ns (x0, x1, x2, x3) (n : Int) 1 1 u undef u' undef W → T 5 #[true, true, true, false, false, true, true, false, false, false] { tmps := #[.string (strB s), undef, .pointer (some ⟨w.heap.size, 0, none⟩), .pointer (some ⟨w.heap.size + 1, 0, none⟩), .pointer (some ⟨w.heap.size + 1 + 1, 0, none⟩), .pointer (some ⟨B5, 0, none⟩), .pointer (some ⟨B6, 0, none⟩), .int .i64 (n : Int), .slice wa (r.length + 1) wc, .pointer (some ⟨B9, 0, none⟩), .bool true, undef, undef, .string (strB s), .int .i64 (s.length : Int), .bool false, .string (strB s), .func (.func 43) #[] #[.pointer (some ⟨lo, 0, none⟩)], .int .i64 (n : Int), .slice wa (r.length + 1) wc, .tuple #[(.agg #[.int .i64 x0, .int .i64 x1, .int .i64 x2, .int .i64 x3]), .bool true], .slice wa (r.length + 1) wc, .tuple #[(.agg #[.int .i64 x0, .int .i64 x1, .int .i64 x2, .int .i64 x3]), .bool true], .agg #[.int .i64 x0, .int .i64 x1, .int .i64 x2, .int .i64 x3], .bool true, .bool true, .bool false, undef, pv, .agg #[.int .i64 x0, .int .i64 x1, .int .i64 x2, .int .i64 x3], u, undef, undef, .int .i64 (n : Int), u', undef, undef, undef, undef, undef, undef, undef, undef, undef, undef, undef, undef, undef, undef, undef, undef, undef, undef], defers := [] } W := by
        intro u u' W hS
        refine (hT _ _ _ _).2 ?_
        refine wpAnyIn_ready (rs := [3, 4]) (by kernel_rfl) (by simp) ?_
        refine AllReadyIn.cons rfl (fun K hK => ?_) (AllReadyIn.cons rfl (fun K hK => ?_) AllReadyIn.nil)
        · obtain ⟨v2, W2, hrun, hS2⟩ := hS.app_p hB9 hpA 23
          refine stepIn_app rfl (.tmp 28) (.tmp 30) rfl rfl rfl hrun ?_
          refine hK _ _ ((hT _ _ _ _).1 ?_)
          exact k11021 u _ u' _ hS2
        · have c6 := hS.q.b6.cell (j := 0) (v := nv) rfl
          go_simp
          refine hK _ _ ((hT _ _ _ _).1 ?_)
          exact k11111 u u' _ hS
      have k11010 : ∀ (u : Value) (W : World), Sg A lo B5 B6 B9 pv nv ps ns (x0, x1, x2, x3) (n : Int) 1 0 u undef undef undef W → T 6 #[true, true, true, false, false, true, false, false, false, false] { tmps := #[.string (strB s), undef, .pointer (some ⟨w.heap.size, 0, none⟩), .pointer (some ⟨w.heap.size + 1, 0, none⟩), .pointer (some ⟨w.heap.size + 1 + 1, 0, none⟩), .pointer (some ⟨B5, 0, none⟩), .pointer (some ⟨B6, 0, none⟩), .int .i64 (n : Int), .slice wa (r.length + 1) wc, .pointer (some ⟨B9, 0, none⟩), .bool true, undef, undef, .string (strB s), .int .i64 (s.length : Int), .bool false, .string (strB s), .func (.func 43) #[] #[.pointer (some ⟨lo, 0, none⟩)], .int .i64 (n : Int), .slice wa (r.length + 1) wc, .tuple #[(.agg #[.int .i64 x0, .int .i64 x1, .int .i64 x2, .int .i64 x3]), .bool true], .slice wa (r.length + 1) wc, .tuple #[(.agg #[.int .i64 x0, .int .i64 x1, .int .i64 x2, .int .i64 x3]), .bool true], .agg #[.int .i64 x0, .int .i64 x1, .int .i64 x2, .int .i64 x3], .bool true, .bool true, .bool false, undef, pv, .agg #[.int .i64 x0, .int .i64 x1, .int .i64 x2, .int .i64 x3], u, undef, undef, .int .i64 (n : Int), undef, undef, undef, undef, undef, undef, undef, undef, undef, undef, undef, undef, undef, undef, undef, undef, undef, undef, undef], defers := [] } W := by
        intro u W hS
        refine (hT _ _ _ _).2 ?_
        refine wpAnyIn_ready (rs := [3, 4, 6]) (by kernel_rfl) (by simp) ?_
        refine AllReadyIn.cons rfl (fun K hK => ?_) (AllReadyIn.cons rfl (fun K hK => ?_) (AllReadyIn.cons rfl (fun K hK => ?_) AllReadyIn.nil))
        · obtain ⟨v2, W2, hrun, hS2⟩ := hS.app_p hB9 hpA 23
          refine stepIn_app rfl (.tmp 28) (.tmp 30) rfl rfl rfl hrun ?_
          refine hK _ _ ((hT _ _ _ _).1 ?_)
          exact k11020 u _ _ hS2
        · have c6 := hS.q.b6.cell (j := 0) (v := nv) rfl
          go_simp
          refine hK _ _ ((hT _ _ _ _).1 ?_)
          exact k11110 u _ hS
        · go_simp
          refine hK _ _ ((hT _ _ _ _).1 ?_)
          exact k11011 u _ _ hS.build_n
      have k11101 : ∀ (u' : Value) (W : World), Sg A lo B5 B6 B9 pv nv ps ns (x0, x1, x2, x3) (n : Int) 0 1 undef undef u' undef W → T 5 #[true, true, false, false, true, true, true, false, false, false] { tmps := #[.string (strB s), undef, .pointer (some ⟨w.heap.size, 0, none⟩), .pointer (some ⟨w.heap.size + 1, 0, none⟩), .pointer (some ⟨w.heap.size + 1 + 1, 0, none⟩), .pointer (some ⟨B5, 0, none⟩), .pointer (some ⟨B6, 0, none⟩), .int .i64 (n : Int), .slice wa (r.length + 1) wc, .pointer (some ⟨B9, 0, none⟩), .bool true, undef, undef, .string (strB s), .int .i64 (s.length : Int), .bool false, .string (strB s), .func (.func 43) #[] #[.pointer (some ⟨lo, 0, none⟩)], .int .i64 (n : Int), .slice wa (r.length + 1) wc, .tuple #[(.agg #[.int .i64 x0, .int .i64 x1, .int .i64 x2, .int .i64 x3]), .bool true], .slice wa (r.length + 1) wc, .tuple #[(.agg #[.int .i64 x0, .int .i64 x1, .int .i64 x2, .int .i64 x3]), .bool true], .agg #[.int .i64 x0, .int .i64 x1, .int .i64 x2, .int .i64 x3], .bool true, .bool true, .bool false, undef, pv, .agg #[.int .i64 x0, .int .i64 x1, .int .i64 x2, .int .i64 x3], undef, undef, nv, .int .i64 (n : Int), u', undef, undef, undef, undef, undef, undef, undef, undef, undef, undef, undef, undef, undef, undef, undef, undef, undef, undef], defers := [] } W := by
        intro u' W hS
        refine (hT _ _ _ _).2 ?_
        refine wpAnyIn_ready (rs := [2]) (by kernel_rfl) (by simp) ?_
        refine AllReadyIn.cons rfl (fun K hK => ?_) AllReadyIn.nil
        · go_simp
          refine hK _ _ ((hT _ _ _ _).1 ?_)
          exact k11111 _ u' _ hS.build_p
      have k11100 : ∀ (W : World), Sg A lo B5 B6 B9 pv nv ps ns (x0, x1, x2, x3) (n : Int) 0 0 undef undef undef undef W → T 6 #[true, true, false, false, true, true, false, false, false, false] { tmps := #[.string (strB s), undef, .pointer (some ⟨w.heap.size, 0, none⟩), .pointer (some ⟨w.heap.size + 1, 0, none⟩), .pointer (some ⟨w.heap.size + 1 + 1, 0, none⟩), .pointer (some ⟨B5, 0, none⟩), .pointer (some ⟨B6, 0, none⟩), .int .i64 (n : Int), .slice wa (r.length + 1) wc, .pointer (some ⟨B9, 0, none⟩), .bool true, undef, undef, .string (strB s), .int .i64 (s.length : Int), .bool false, .string (strB s), .func (.func 43) #[] #[.pointer (some ⟨lo, 0, none⟩)], .int .i64 (n : Int), .slice wa (r.length + 1) wc, .tuple #[(.agg #[.int .i64 x0, .int .i64 x1, .int .i64 x2, .int .i64 x3]), .bool true], .slice wa (r.length + 1) wc, .tuple #[(.agg #[.int .i64 x0, .int .i64 x1, .int .i64 x2, .int .i64 x3]), .bool true], .agg #[.int .i64 x0, .int .i64 x1, .int .i64 x2, .int .i64 x3], .bool true, .bool true, .bool false, undef, pv, .agg #[.int .i64 x0, .int .i64 x1, .int .i64 x2, .int .i64 x3], undef, undef, nv, .int .i64 (n : Int), undef, undef, undef, undef, undef, undef, undef, undef, undef, undef, undef, undef, undef, undef, undef, undef, undef, undef, undef], defers := [] } W := by
        intro W hS
        refine (hT _ _ _ _).2 ?_
        refine wpAnyIn_ready (rs := [2, 6]) (by kernel_rfl) (by simp) ?_
        refine AllReadyIn.cons rfl (fun K hK => ?_) (AllReadyIn.cons rfl (fun K hK => ?_) AllReadyIn.nil)
        · go_simp
          refine hK _ _ ((hT _ _ _ _).1 ?_)
          exact k11110 _ _ hS.build_p
        · go_simp
          refine hK _ _ ((hT _ _ _ _).1 ?_)
          exact k11101 _ _ hS.build_n
      have k11001 : ∀ (u' : Value) (W : World), Sg A lo B5 B6 B9 pv nv ps ns (x0, x1, x2, x3) (n : Int) 0 1 undef undef u' undef W → T 6 #[true, true, false, false, false, true, true, false, false, false] { tmps := #[.string (strB s), undef, .pointer (some ⟨w.heap.size, 0, none⟩), .pointer (some ⟨w.heap.size + 1, 0, none⟩), .pointer (some ⟨w.heap.size + 1 + 1, 0, none⟩), .pointer (some ⟨B5, 0, none⟩), .pointer (some ⟨B6, 0, none⟩), .int .i64 (n : Int), .slice wa (r.length + 1) wc, .pointer (some ⟨B9, 0, none⟩), .bool true, undef, undef, .string (strB s), .int .i64 (s.length : Int), .bool false, .string (strB s), .func (.func 43) #[] #[.pointer (some ⟨lo, 0, none⟩)], .int .i64 (n : Int), .slice wa (r.length + 1) wc, .tuple #[(.agg #[.int .i64 x0, .int .i64 x1, .int .i64 x2, .int .i64 x3]), .bool true], .slice wa (r.length + 1) wc, .tuple #[(.agg #[.int .i64 x0, .int .i64 x1, .int .i64 x2, .int .i64 x3]), .bool true], .agg #[.int .i64 x0, .int .i64 x1, .int .i64 x2, .int .i64 x3], .bool true, .bool true, .bool false, undef, pv, .agg #[.int .i64 x0, .int .i64 x1, .int .i64 x2, .int .i64 x3], undef, undef, undef, .int .i64 (n : Int), u', undef, undef, undef, undef, undef, undef, undef, undef, undef, undef, undef, undef, undef, undef, undef, undef, undef, undef], defers := [] } W := by
        intro u' W hS
        refine (hT _ _ _ _).2 ?_
        refine wpAnyIn_ready (rs := [2, 4]) (by kernel_rfl) (by simp) ?_
        refine AllReadyIn.cons rfl (fun K hK => ?_) (AllReadyIn.cons rfl (fun K hK => ?_) AllReadyIn.nil)
        · go_simp
          refine hK _ _ ((hT _ _ _ _).1 ?_)
          exact k11011 _ u' _ hS.build_p
        · have c6 := hS.q.b6.cell (j := 0) (v := nv) rfl
          go_simp
          refine hK _ _ ((hT _ _ _ _).1 ?_)
          exact k11101 u' _ hS
      have k11000 : ∀ (W : World), Sg A lo B5 B6 B9 pv nv ps ns (x0, x1, x2, x3) (n : Int) 0 0 undef undef undef undef W → T 7 #[true, true, false, false, false, true, false, false, false, false] { tmps := #[.string (strB s), undef, .pointer (some ⟨w.heap.size, 0, none⟩), .pointer (some ⟨w.heap.size + 1, 0, none⟩), .pointer (some ⟨w.heap.size + 1 + 1, 0, none⟩), .pointer (some ⟨B5, 0, none⟩), .pointer (some ⟨B6, 0, none⟩), .int .i64 (n : Int), .slice wa (r.length + 1) wc, .pointer (some ⟨B9, 0, none⟩), .bool true, undef, undef, .string (strB s), .int .i64 (s.length : Int), .bool false, .string (strB s), .func (.func 43) #[] #[.pointer (some ⟨lo, 0, none⟩)], .int .i64 (n : Int), .slice wa (r.length + 1) wc, .tuple #[(.agg #[.int .i64 x0, .int .i64 x1, .int .i64 x2, .int .i64 x3]), .bool true], .slice wa (r.length + 1) wc, .tuple #[(.agg #[.int .i64 x0, .int .i64 x1, .int .i64 x2, .int .i64 x3]), .bool true], .agg #[.int .i64 x0, .int .i64 x1, .int .i64 x2, .int .i64 x3], .bool true, .bool true, .bool false, undef, pv, .agg #[.int .i64 x0, .int .i64 x1, .int .i64 x2, .int .i64 x3], undef, undef, undef, .int .i64 (n : Int), undef, undef, undef, undef, undef, undef, undef, undef, undef, undef, undef, undef, undef, undef, undef, undef, undef, undef, undef], defers := [] } W := by
        intro W hS
        refine (hT _ _ _ _).2 ?_
        refine wpAnyIn_ready (rs := [2, 4, 6]) (by kernel_rfl) (by simp) ?_
        refine AllReadyIn.cons rfl (fun K hK => ?_) (AllReadyIn.cons rfl (fun K hK => ?_) (AllReadyIn.cons rfl (fun K hK => ?_) AllReadyIn.nil))
        · go_simp
          refine hK _ _ ((hT _ _ _ _).1 ?_)
          exact k11010 _ _ hS.build_p
        · have c6 := hS.q.b6.cell (j := 0) (v := nv) rfl
          go_simp
          refine hK _ _ ((hT _ _ _ _).1 ?_)
          exact k11100  _ hS
        · go_simp
          refine hK _ _ ((hT _ _ _ _).1 ?_)
          exact k11001 _ _ hS.build_n
      have k10101 : ∀ (u' : Value) (W : World), Sg A lo B5 B6 B9 pv nv ps ns (x0, x1, x2, x3) (n : Int) 0 1 undef undef u' undef W → T 6 #[true, false, false, false, true, true, true, false, false, false] { tmps := #[.string (strB s), undef, .pointer (some ⟨w.heap.size, 0, none⟩), .pointer (some ⟨w.heap.size + 1, 0, none⟩), .pointer (some ⟨w.heap.size + 1 + 1, 0, none⟩), .pointer (some ⟨B5, 0, none⟩), .pointer (some ⟨B6, 0, none⟩), .int .i64 (n : Int), .slice wa (r.length + 1) wc, .pointer (some ⟨B9, 0, none⟩), .bool true, undef, undef, .string (strB s), .int .i64 (s.length : Int), .bool false, .string (strB s), .func (.func 43) #[] #[.pointer (some ⟨lo, 0, none⟩)], .int .i64 (n : Int), .slice wa (r.length + 1) wc, .tuple #[(.agg #[.int .i64 x0, .int .i64 x1, .int .i64 x2, .int .i64 x3]), .bool true], .slice wa (r.length + 1) wc, .tuple #[(.agg #[.int .i64 x0, .int .i64 x1, .int .i64 x2, .int .i64 x3]), .bool true], .agg #[.int .i64 x0, .int .i64 x1, .int .i64 x2, .int .i64 x3], .bool true, .bool true, .bool false, undef, pv, undef, undef, undef, nv, .int .i64 (n : Int), u', undef, undef, undef, undef, undef, undef, undef, undef, undef, undef, undef, undef, undef, undef, undef, undef, undef, undef], defers := [] } W := by
        intro u' W hS
        refine (hT _ _ _ _).2 ?_
        refine wpAnyIn_ready (rs := [1]) (by kernel_rfl) (by simp) ?_
        refine AllReadyIn.cons rfl (fun K hK => ?_) AllReadyIn.nil
        · have y0 := hS.p.b9.cell (j := 0) (v := .int .i64 x0) rfl
          have y1 := hS.p.b9.cell (j := 1) (v := .int .i64 x1) rfl
          have y2 := hS.p.b9.cell (j := 2) (v := .int .i64 x2) rfl
          have y3 := hS.p.b9.cell (j := 3) (v := .int .i64 x3) rfl
          go_simp
          refine hK _ _ ((hT _ _ _ _).1 ?_)
          exact k11101 u' _ hS
      have k10100 : ∀ (W : World), Sg A lo B5 B6 B9 pv nv ps ns (x0, x1, x2, x3) (n : Int) 0 0 undef undef undef undef W → T 7 #[true, false, false, false, true, true, false, false, false, false] { tmps := #[.string (strB s), undef, .pointer (some ⟨w.heap.size, 0, none⟩), .pointer (some ⟨w.heap.size + 1, 0, none⟩), .pointer (some ⟨w.heap.size + 1 + 1, 0, none⟩), .pointer (some ⟨B5, 0, none⟩), .pointer (some ⟨B6, 0, none⟩), .int .i64 (n : Int), .slice wa (r.length + 1) wc, .pointer (some ⟨B9, 0, none⟩), .bool true, undef, undef, .string (strB s), .int .i64 (s.length : Int), .bool false, .string (strB s), .func (.func 43) #[] #[.pointer (some ⟨lo, 0, none⟩)], .int .i64 (n : Int), .slice wa (r.length + 1) wc, .tuple #[(.agg #[.int .i64 x0, .int .i64 x1, .int .i64 x2, .int .i64 x3]), .bool true], .slice wa (r.length + 1) wc, .tuple #[(.agg #[.int .i64 x0, .int .i64 x1, .int .i64 x2, .int .i64 x3]), .bool true], .agg #[.int .i64 x0, .int .i64 x1, .int .i64 x2, .int .i64 x3], .bool true, .bool true, .bool false, undef, pv, undef, undef, undef, nv, .int .i64 (n : Int), undef, undef, undef, undef, undef, undef, undef, undef, undef, undef, undef, undef, undef, undef, undef, undef, undef, undef, undef], defers := [] } W := by
        intro W hS
        refine (hT _ _ _ _).2 ?_
        refine wpAnyIn_ready (rs := [1, 6]) (by kernel_rfl) (by simp) ?_
        refine AllReadyIn.cons rfl (fun K hK => ?_) (AllReadyIn.cons rfl (fun K hK => ?_) AllReadyIn.nil)
        · have y0 := hS.p.b9.cell (j := 0) (v := .int .i64 x0) rfl
          have y1 := hS.p.b9.cell (j := 1) (v := .int .i64 x1) rfl
          have y2 := hS.p.b9.cell (j := 2) (v := .int .i64 x2) rfl
          have y3 := hS.p.b9.cell (j := 3) (v := .int .i64 x3) rfl
          go_simp
          refine hK _ _ ((hT _ _ _ _).1 ?_)
          exact k11100  _ hS
        · go_simp
          refine hK _ _ ((hT _ _ _ _).1 ?_)
          exact k10101 _ _ hS.build_n
      have k10001 : ∀ (u' : Value) (W : World), Sg A lo B5 B6 B9 pv nv ps ns (x0, x1, x2, x3) (n : Int) 0 1 undef undef u' undef W → T 7 #[true, false, false, false, false, true, true, false, false, false] { tmps := #[.string (strB s), undef, .pointer (some ⟨w.heap.size, 0, none⟩), .pointer (some ⟨w.heap.size + 1, 0, none⟩), .pointer (some ⟨w.heap.size + 1 + 1, 0, none⟩), .pointer (some ⟨B5, 0, none⟩), .pointer (some ⟨B6, 0, none⟩), .int .i64 (n : Int), .slice wa (r.length + 1) wc, .pointer (some ⟨B9, 0, none⟩), .bool true, undef, undef, .string (strB s), .int .i64 (s.length : Int), .bool false, .string (strB s), .func (.func 43) #[] #[.pointer (some ⟨lo, 0, none⟩)], .int .i64 (n : Int), .slice wa (r.length + 1) wc, .tuple #[(.agg #[.int .i64 x0, .int .i64 x1, .int .i64 x2, .int .i64 x3]), .bool true], .slice wa (r.length + 1) wc, .tuple #[(.agg #[.int .i64 x0, .int .i64 x1, .int .i64 x2, .int .i64 x3]), .bool true], .agg #[.int .i64 x0, .int .i64 x1, .int .i64 x2, .int .i64 x3], .bool true, .bool true, .bool false, undef, pv, undef, undef, undef, undef, .int .i64 (n : Int), u', undef, undef, undef, undef, undef, undef, undef, undef, undef, undef, undef, undef, undef, undef, undef, undef, undef, undef], defers := [] } W := by
        intro u' W hS
        refine (hT _ _ _ _).2 ?_
        refine wpAnyIn_ready (rs := [1, 4]) (by kernel_rfl) (by simp) ?_
        refine AllReadyIn.cons rfl (fun K hK => ?_) (AllReadyIn.cons rfl (fun K hK => ?_) AllReadyIn.nil)
        · have y0 := hS.p.b9.cell (j := 0) (v := .int .i64 x0) rfl
          have y1 := hS.p.b9.cell (j := 1) (v := .int .i64 x1) rfl
          have y2 := hS.p.b9.cell (j := 2) (v := .int .i64 x2) rfl
          have y3 := hS.p.b9.cell (j := 3) (v := .int .i64 x3) rfl
          go_simp
          refine hK _ _ ((hT _ _ _ _).1 ?_)
          exact k11001 u' _ hS
        · have c6 := hS.q.b6.cell (j := 0) (v := nv) rfl
          go_simp
          refine hK _ _ ((hT _ _ _ _).1 ?_)
          exact k10101 u' _ hS
      have k10000 : ∀ (W : World), Sg A lo B5 B6 B9 pv nv ps ns (x0, x1, x2, x3) (n : Int) 0 0 undef undef undef undef W → T 8 #[true, false, false, false, false, true, false, false, false, false] { tmps := #[.string (strB s), undef, .pointer (some ⟨w.heap.size, 0, none⟩), .pointer (some ⟨w.heap.size + 1, 0, none⟩), .pointer (some ⟨w.heap.size + 1 + 1, 0, none⟩), .pointer (some ⟨B5, 0, none⟩), .pointer (some ⟨B6, 0, none⟩), .int .i64 (n : Int), .slice wa (r.length + 1) wc, .pointer (some ⟨B9, 0, none⟩), .bool true, undef, undef, .string (strB s), .int .i64 (s.length : Int), .bool false, .string (strB s), .func (.func 43) #[] #[.pointer (some ⟨lo, 0, none⟩)], .int .i64 (n : Int), .slice wa (r.length + 1) wc, .tuple #[(.agg #[.int .i64 x0, .int .i64 x1, .int .i64 x2, .int .i64 x3]), .bool true], .slice wa (r.length + 1) wc, .tuple #[(.agg #[.int .i64 x0, .int .i64 x1, .int .i64 x2, .int .i64 x3]), .bool true], .agg #[.int .i64 x0, .int .i64 x1, .int .i64 x2, .int .i64 x3], .bool true, .bool true, .bool false, undef, pv, undef, undef, undef, undef, .int .i64 (n : Int), undef, undef, undef, undef, undef, undef, undef, undef, undef, undef, undef, undef, undef, undef, undef, undef, undef, undef, undef], defers := [] } W := by
        intro W hS
        refine (hT _ _ _ _).2 ?_
        refine wpAnyIn_ready (rs := [1, 4, 6]) (by kernel_rfl) (by simp) ?_
        refine AllReadyIn.cons rfl (fun K hK => ?_) (AllReadyIn.cons rfl (fun K hK => ?_) (AllReadyIn.cons rfl (fun K hK => ?_) AllReadyIn.nil))
        · have y0 := hS.p.b9.cell (j := 0) (v := .int .i64 x0) rfl
          have y1 := hS.p.b9.cell (j := 1) (v := .int .i64 x1) rfl
          have y2 := hS.p.b9.cell (j := 2) (v := .int .i64 x2) rfl
          have y3 := hS.p.b9.cell (j := 3) (v := .int .i64 x3) rfl
          go_simp
          refine hK _ _ ((hT _ _ _ _).1 ?_)
          exact k11000  _ hS
        · have c6 := hS.q.b6.cell (j := 0) (v := nv) rfl
          go_simp
          refine hK _ _ ((hT _ _ _ _).1 ?_)
          exact k10100  _ hS
        · go_simp
          refine hK _ _ ((hT _ _ _ _).1 ?_)
          exact k10001 _ _ hS.build_n
      have k01111 : ∀ (u u' : Value) (W : World), Sg A lo B5 B6 B9 pv nv ps ns (x0, x1, x2, x3) (n : Int) 1 1 u undef u' undef W → T 5 #[false, true, true, false, true, true, true, false, false, false] { tmps := #[.string (strB s), undef, .pointer (some ⟨w.heap.size, 0, none⟩), .pointer (some ⟨w.heap.size + 1, 0, none⟩), .pointer (some ⟨w.heap.size + 1 + 1, 0, none⟩), .pointer (some ⟨B5, 0, none⟩), .pointer (some ⟨B6, 0, none⟩), .int .i64 (n : Int), .slice wa (r.length + 1) wc, .pointer (some ⟨B9, 0, none⟩), .bool true, undef, undef, .string (strB s), .int .i64 (s.length : Int), .bool false, .string (strB s), .func (.func 43) #[] #[.pointer (some ⟨lo, 0, none⟩)], .int .i64 (n : Int), .slice wa (r.length + 1) wc, .tuple #[(.agg #[.int .i64 x0, .int .i64 x1, .int .i64 x2, .int .i64 x3]), .bool true], .slice wa (r.length + 1) wc, .tuple #[(.agg #[.int .i64 x0, .int .i64 x1, .int .i64 x2, .int .i64 x3]), .bool true], .agg #[.int .i64 x0, .int .i64 x1, .int .i64 x2, .int .i64 x3], .bool true, .bool true, .bool false, undef, undef, .agg #[.int .i64 x0, .int .i64 x1, .int .i64 x2, .int .i64 x3], u, undef, nv, .int .i64 (n : Int), u', undef, undef, undef, undef, undef, undef, undef, undef, undef, undef, undef, undef, undef, undef, undef, undef, undef, undef], defers := [] } W := by
        intro u u' W hS
        refine (hT _ _ _ _).2 ?_
        refine wpAnyIn_ready (rs := [0]) (by kernel_rfl) (by simp) ?_
        refine AllReadyIn.cons rfl (fun K hK => ?_) AllReadyIn.nil
        · have c5 := hS.p.b5.cell (j := 0) (v := pv) rfl
          go_simp
          refine hK _ _ ((hT _ _ _ _).1 ?_)
          exact k11111 u u' _ hS
      have k01110 : ∀ (u : Value) (W : World), Sg A lo B5 B6 B9 pv nv ps ns (x0, x1, x2, x3) (n : Int) 1 0 u undef undef undef W → T 6 #[false, true, true, false, true, true, false, false, false, false] { tmps := #[.string (strB s), undef, .pointer (some ⟨w.heap.size, 0, none⟩), .pointer (some ⟨w.heap.size + 1, 0, none⟩), .pointer (some ⟨w.heap.size + 1 + 1, 0, none⟩), .pointer (some ⟨B5, 0, none⟩), .pointer (some ⟨B6, 0, none⟩), .int .i64 (n : Int), .slice wa (r.length + 1) wc, .pointer (some ⟨B9, 0, none⟩), .bool true, undef, undef, .string (strB s), .int .i64 (s.length : Int), .bool false, .string (strB s), .func (.func 43) #[] #[.pointer (some ⟨lo, 0, none⟩)], .int .i64 (n : Int), .slice wa (r.length + 1) wc, .tuple #[(.agg #[.int .i64 x0, .int .i64 x1, .int .i64 x2, .int .i64 x3]), .bool true], .slice wa (r.length + 1) wc, .tuple #[(.agg #[.int .i64 x0, .int .i64 x1, .int .i64 x2, .int .i64 x3]), .bool true], .agg #[.int .i64 x0, .int .i64 x1, .int .i64 x2, .int .i64 x3], .bool true, .bool true, .bool false, undef, undef, .agg #[.int .i64 x0, .int .i64 x1, .int .i64 x2, .int .i64 x3], u, undef, nv, .int .i64 (n : Int), undef, undef, undef, undef, undef, undef, undef, undef, undef, undef, undef, undef, undef, undef, undef, undef, undef, undef, undef], defers := [] } W := by
        intro u W hS
        refine (hT _ _ _ _).2 ?_
        refine wpAnyIn_ready (rs := [0, 6]) (by kernel_rfl) (by simp) ?_
        refine AllReadyIn.cons rfl (fun K hK => ?_) (AllReadyIn.cons rfl (fun K hK => ?_) AllReadyIn.nil)
        · have c5 := hS.p.b5.cell (j := 0) (v := pv) rfl
          go_simp
          refine hK _ _ ((hT _ _ _ _).1 ?_)
          exact k11110 u _ hS
        · go_simp
          refine hK _ _ ((hT _ _ _ _).1 ?_)
          exact k01111 u _ _ hS.build_n
      have k01011 : ∀ (u u' : Value) (W : World), Sg A lo B5 B6 B9 pv nv ps ns (x0, x1, x2, x3) (n : Int) 1 1 u undef u' undef W → T 6 #[false, true, true, false, false, true, true, false, false, false] { tmps := #[.string (strB s), undef, .pointer (some ⟨w.heap.size, 0, none⟩), .pointer (some ⟨w.heap.size + 1, 0, none⟩), .pointer (some ⟨w.heap.size + 1 + 1, 0, none⟩), .pointer (some ⟨B5, 0, none⟩), .pointer (some ⟨B6, 0, none⟩), .int .i64 (n : Int), .slice wa (r.length + 1) wc, .pointer (some ⟨B9, 0, none⟩), .bool true, undef, undef, .string (strB s), .int .i64 (s.length : Int), .bool false, .string (strB s), .func (.func 43) #[] #[.pointer (some ⟨lo, 0, none⟩)], .int .i64 (n : Int), .slice wa (r.length + 1) wc, .tuple #[(.agg #[.int .i64 x0, .int .i64 x1, .int .i64 x2, .int .i64 x3]), .bool true], .slice wa (r.length + 1) wc, .tuple #[(.agg #[.int .i64 x0, .int .i64 x1, .int .i64 x2, .int .i64 x3]), .bool true], .agg #[.int .i64 x0, .int .i64 x1, .int .i64 x2, .int .i64 x3], .bool true, .bool true, .bool false, undef, undef, .agg #[.int .i64 x0, .int .i64 x1, .int .i64 x2, .int .i64 x3], u, undef, undef, .int .i64 (n : Int), u', undef, undef, undef, undef, undef, undef, undef, undef, undef, undef, undef, undef, undef, undef, undef, undef, undef, undef], defers := [] } W := by
        intro u u' W hS
        refine (hT _ _ _ _).2 ?_
        refine wpAnyIn_ready (rs := [0, 4]) (by kernel_rfl) (by simp) ?_
        refine AllReadyIn.cons rfl (fun K hK => ?_) (AllReadyIn.cons rfl (fun K hK => ?_) AllReadyIn.nil)
        · have c5 := hS.p.b5.cell (j := 0) (v := pv) rfl
          go_simp
          refine hK _ _ ((hT _ _ _ _).1 ?_)
          exact k11011 u u' _ hS
        · have c6 := hS.q.b6.cell (j := 0) (v := nv) rfl
          go_simp
          refine hK _ _ ((hT _ _ _ _).1 ?_)
          exact k01111 u u' _ hS
      have k01010 : ∀ (u : Value) (W : World), Sg A lo B5 B6 B9 pv nv ps ns (x0, x1, x2, x3) (n : Int) 1 0 u undef undef undef W → T 7 #[false, true, true, false, false, true, false, false, false, false] { tmps := #[.string (strB s), undef, .pointer (some ⟨w.heap.size, 0, none⟩), .pointer (some ⟨w.heap.size + 1, 0, none⟩), .pointer (some ⟨w.heap.size + 1 + 1, 0, none⟩), .pointer (some ⟨B5, 0, none⟩), .pointer (some ⟨B6, 0, none⟩), .int .i64 (n : Int), .slice wa (r.length + 1) wc, .pointer (some ⟨B9, 0, none⟩), .bool true, undef, undef, .string (strB s), .int .i64 (s.length : Int), .bool false, .string (strB s), .func (.func 43) #[] #[.pointer (some ⟨lo, 0, none⟩)], .int .i64 (n : Int), .slice wa (r.length + 1) wc, .tuple #[(.agg #[.int .i64 x0, .int .i64 x1, .int .i64 x2, .int .i64 x3]), .bool true], .slice wa (r.length + 1) wc, .tuple #[(.agg #[.int .i64 x0, .int .i64 x1, .int .i64 x2, .int .i64 x3]), .bool true], .agg #[.int .i64 x0, .int .i64 x1, .int .i64 x2, .int .i64 x3], .bool true, .bool true, .bool false, undef, undef, .agg #[.int .i64 x0, .int .i64 x1, .int .i64 x2, .int .i64 x3], u, undef, undef, .int .i64 (n : Int), undef, undef, undef, undef, undef, undef, undef, undef, undef, undef, undef, undef, undef, undef, undef, undef, undef, undef, undef], defers := [] } W := by
        intro u W hS
        refine (hT _ _ _ _).2 ?_
        refine wpAnyIn_ready (rs := [0, 4, 6]) (by kernel_rfl) (by simp) ?_
        refine AllReadyIn.cons rfl (fun K hK => ?_) (AllReadyIn.cons rfl (fun K hK => ?_) (AllReadyIn.cons rfl (fun K hK => ?_) AllReadyIn.nil))
        · have c5 := hS.p.b5.cell (j := 0) (v := pv) rfl
          go_simp
          refine hK _ _ ((hT _ _ _ _).1 ?_)
          exact k11010 u _ hS
        · have c6 := hS.q.b6.cell (j := 0) (v := nv) rfl
          go_simp
          refine hK _ _ ((hT _ _ _ _).1 ?_)
          exact k01110 u _ hS
        · go_simp
          refine hK _ _ ((hT _ _ _ _).1 ?_)
          exact k01011 u _ _ hS.build_n
      have k01101 : ∀ (u' : Value) (W : World), Sg A lo B5 B6 B9 pv nv ps ns (x0, x1, x2, x3) (n : Int) 0 1 undef undef u' undef W → T 6 #[false, true, false, false, true, true, true, false, false, false] { tmps := #[.string (strB s), undef, .pointer (some ⟨w.heap.size, 0, none⟩), .pointer (some ⟨w.heap.size + 1, 0, none⟩), .pointer (some ⟨w.heap.size + 1 + 1, 0, none⟩), .pointer (some ⟨B5, 0, none⟩), .pointer (some ⟨B6, 0, none⟩), .int .i64 (n : Int), .slice wa (r.length + 1) wc, .pointer (some ⟨B9, 0, none⟩), .bool true, undef, undef, .string (strB s), .int .i64 (s.length : Int), .bool false, .string (strB s), .func (.func 43) #[] #[.pointer (some ⟨lo, 0, none⟩)], .int .i64 (n : Int), .slice wa (r.length + 1) wc, .tuple #[(.agg #[.int .i64 x0, .int .i64 x1, .int .i64 x2, .int .i64 x3]), .bool true], .slice wa (r.length + 1) wc, .tuple #[(.agg #[.int .i64 x0, .int .i64 x1, .int .i64 x2, .int .i64 x3]), .bool true], .agg #[.int .i64 x0, .int .i64 x1, .int .i64 x2, .int .i64 x3], .bool true, .bool true, .bool false, undef, undef, .agg #[.int .i64 x0, .int .i64 x1, .int .i64 x2, .int .i64 x3], undef, undef, nv, .int .i64 (n : Int), u', undef, undef, undef, undef, undef, undef, undef, undef, undef, undef, undef, undef, undef, undef, undef, undef, undef, undef], defers := [] } W := by
        intro u' W hS
        refine (hT _ _ _ _).2 ?_
        refine wpAnyIn_ready (rs := [0, 2]) (by kernel_rfl) (by simp) ?_
        refine AllReadyIn.cons rfl (fun K hK => ?_) (AllReadyIn.cons rfl (fun K hK => ?_) AllReadyIn.nil)
        · have c5 := hS.p.b5.cell (j := 0) (v := pv) rfl
          go_simp
          refine hK _ _ ((hT _ _ _ _).1 ?_)
          exact k11101 u' _ hS
        · go_simp
          refine hK _ _ ((hT _ _ _ _).1 ?_)
          exact k01111 _ u' _ hS.build_p
      have k01100 : ∀ (W : World), Sg A lo B5 B6 B9 pv nv ps ns (x0, x1, x2, x3) (n : Int) 0 0 undef undef undef undef W → T 7 #[false, true, false, false, true, true, false, false, false, false] { tmps := #[.string (strB s), undef, .pointer (some ⟨w.heap.size, 0, none⟩), .pointer (some ⟨w.heap.size + 1, 0, none⟩), .pointer (some ⟨w.heap.size + 1 + 1, 0, none⟩), .pointer (some ⟨B5, 0, none⟩), .pointer (some ⟨B6, 0, none⟩), .int .i64 (n : Int), .slice wa (r.length + 1) wc, .pointer (some ⟨B9, 0, none⟩), .bool true, undef, undef, .string (strB s), .int .i64 (s.length : Int), .bool false, .string (strB s), .func (.func 43) #[] #[.pointer (some ⟨lo, 0, none⟩)], .int .i64 (n : Int), .slice wa (r.length + 1) wc, .tuple #[(.agg #[.int .i64 x0, .int .i64 x1, .int .i64 x2, .int .i64 x3]), .bool true], .slice wa (r.length + 1) wc, .tuple #[(.agg #[.int .i64 x0, .int .i64 x1, .int .i64 x2, .int .i64 x3]), .bool true], .agg #[.int .i64 x0, .int .i64 x1, .int .i64 x2, .int .i64 x3], .bool true, .bool true, .bool false, undef, undef, .agg #[.int .i64 x0, .int .i64 x1, .int .i64 x2, .int .i64 x3], undef, undef, nv, .int .i64 (n : Int), undef, undef, undef, undef, undef, undef, undef, undef, undef, undef, undef, undef, undef, undef, undef, undef, undef, undef, undef], defers := [] } W := by
        intro W hS
        refine (hT _ _ _ _).2 ?_
        refine wpAnyIn_ready (rs := [0, 2, 6]) (by kernel_rfl) (by simp) ?_
        refine AllReadyIn.cons rfl (fun K hK => ?_) (AllReadyIn.cons rfl (fun K hK => ?_) (AllReadyIn.cons rfl (fun K hK => ?_) AllReadyIn.nil))
        · have c5 := hS.p.b5.cell (j := 0) (v := pv) rfl
          go_simp
          refine hK _ _ ((hT _ _ _ _).1 ?_)
          exact k11100  _ hS
        · go_simp
          refine hK _ _ ((hT _ _ _ _).1 ?_)
          exact k01110 _ _ hS.build_p
        · go_simp
          refine hK _ _ ((hT _ _ _ _).1 ?_)
          exact k01101 _ _ hS.build_n
      have k01001 : ∀ (u' : Value) (W : World), Sg A lo B5 B6 B9 pv nv ps ns (x0, x1, x2, x3) (n : Int) 0 1 undef undef u' undef W → T 7 #[false, true, false, false, false, true, true, false, false, false] { tmps := #[.string (strB s), undef, .pointer (some ⟨w.heap.size, 0, none⟩), .pointer (some ⟨w.heap.size + 1, 0, none⟩), .pointer (some ⟨w.heap.size + 1 + 1, 0, none⟩), .pointer (some ⟨B5, 0, none⟩), .pointer (some ⟨B6, 0, none⟩), .int .i64 (n : Int), .slice wa (r.length + 1) wc, .pointer (some ⟨B9, 0, none⟩), .bool true, undef, undef, .string (strB s), .int .i64 (s.length : Int), .bool false, .string (strB s), .func (.func 43) #[] #[.pointer (some ⟨lo, 0, none⟩)], .int .i64 (n : Int), .slice wa (r.length + 1) wc, .tuple #[(.agg #[.int .i64 x0, .int .i64 x1, .int .i64 x2, .int .i64 x3]), .bool true], .slice wa (r.length + 1) wc, .tuple #[(.agg #[.int .i64 x0, .int .i64 x1, .int .i64 x2, .int .i64 x3]), .bool true], .agg #[.int .i64 x0, .int .i64 x1, .int .i64 x2, .int .i64 x3], .bool true, .bool true, .bool false, undef, undef, .agg #[.int .i64 x0, .int .i64 x1, .int .i64 x2, .int .i64 x3], undef, undef, undef, .int .i64 (n : Int), u', undef, undef, undef, undef, undef, undef, undef, undef, undef, undef, undef, undef, undef, undef, undef, undef, undef, undef], defers := [] } W := by
        intro u' W hS
        refine (hT _ _ _ _).2 ?_
        refine wpAnyIn_ready (rs := [0, 2, 4]) (by kernel_rfl) (by simp) ?_
        refine AllReadyIn.cons rfl (fun K hK => ?_) (AllReadyIn.cons rfl (fun K hK => ?_) (AllReadyIn.cons rfl (fun K hK => ?_) AllReadyIn.nil))
        · have c5 := hS.p.b5.cell (j := 0) (v := pv) rfl
          go_simp
          refine hK _ _ ((hT _ _ _ _).1 ?_)
          exact k11001 u' _ hS
        · go_simp
          refine hK _ _ ((hT _ _ _ _).1 ?_)
          exact k01011 _ u' _ hS.build_p
        · have c6 := hS.q.b6.cell (j := 0) (v := nv) rfl
          go_simp
          refine hK _ _ ((hT _ _ _ _).1 ?_)
          exact k01101 u' _ hS
      have k01000 : ∀ (W : World), Sg A lo B5 B6 B9 pv nv ps ns (x0, x1, x2, x3) (n : Int) 0 0 undef undef undef undef W → T 8 #[false, true, false, false, false, true, false, false, false, false] { tmps := #[.string (strB s), undef, .pointer (some ⟨w.heap.size, 0, none⟩), .pointer (some ⟨w.heap.size + 1, 0, none⟩), .pointer (some ⟨w.heap.size + 1 + 1, 0, none⟩), .pointer (some ⟨B5, 0, none⟩), .pointer (some ⟨B6, 0, none⟩), .int .i64 (n : Int), .slice wa (r.length + 1) wc, .pointer (some ⟨B9, 0, none⟩), .bool true, undef, undef, .string (strB s), .int .i64 (s.length : Int), .bool false, .string (strB s), .func (.func 43) #[] #[.pointer (some ⟨lo, 0, none⟩)], .int .i64 (n : Int), .slice wa (r.length + 1) wc, .tuple #[(.agg #[.int .i64 x0, .int .i64 x1, .int .i64 x2, .int .i64 x3]), .bool true], .slice wa (r.length + 1) wc, .tuple #[(.agg #[.int .i64 x0, .int .i64 x1, .int .i64 x2, .int .i64 x3]), .bool true], .agg #[.int .i64 x0, .int .i64 x1, .int .i64 x2, .int .i64 x3], .bool true, .bool true, .bool false, undef, undef, .agg #[.int .i64 x0, .int .i64 x1, .int .i64 x2, .int .i64 x3], undef, undef, undef, .int .i64 (n : Int), undef, undef, undef, undef, undef, undef, undef, undef, undef, undef, undef, undef, undef, undef, undef, undef, undef, undef, undef], defers := [] } W := by
        intro W hS
        refine (hT _ _ _ _).2 ?_
        refine wpAnyIn_ready (rs := [0, 2, 4, 6]) (by kernel_rfl) (by simp) ?_
        refine AllReadyIn.cons rfl (fun K hK => ?_) (AllReadyIn.cons rfl (fun K hK => ?_) (AllReadyIn.cons rfl (fun K hK => ?_) (AllReadyIn.cons rfl (fun K hK => ?_) AllReadyIn.nil)))
        · have c5 := hS.p.b5.cell (j := 0) (v := pv) rfl
          go_simp
          refine hK _ _ ((hT _ _ _ _).1 ?_)
          exact k11000  _ hS
        · go_simp
          refine hK _ _ ((hT _ _ _ _).1 ?_)
          exact k01010 _ _ hS.build_p
        · have c6 := hS.q.b6.cell (j := 0) (v := nv) rfl
          go_simp
          refine hK _ _ ((hT _ _ _ _).1 ?_)
          exact k01100  _ hS
        · go_simp
          refine hK _ _ ((hT _ _ _ _).1 ?_)
          exact k01001 _ _ hS.build_n
      have k00101 : ∀ (u' : Value) (W : World), Sg A lo B5 B6 B9 pv nv ps ns (x0, x1, x2, x3) (n : Int) 0 1 undef undef u' undef W → T 7 #[false, false, false, false, true, true, true, false, false, false] { tmps := #[.string (strB s), undef, .pointer (some ⟨w.heap.size, 0, none⟩), .pointer (some ⟨w.heap.size + 1, 0, none⟩), .pointer (some ⟨w.heap.size + 1 + 1, 0, none⟩), .pointer (some ⟨B5, 0, none⟩), .pointer (some ⟨B6, 0, none⟩), .int .i64 (n : Int), .slice wa (r.length + 1) wc, .pointer (some ⟨B9, 0, none⟩), .bool true, undef, undef, .string (strB s), .int .i64 (s.length : Int), .bool false, .string (strB s), .func (.func 43) #[] #[.pointer (some ⟨lo, 0, none⟩)], .int .i64 (n : Int), .slice wa (r.length + 1) wc, .tuple #[(.agg #[.int .i64 x0, .int .i64 x1, .int .i64 x2, .int .i64 x3]), .bool true], .slice wa (r.length + 1) wc, .tuple #[(.agg #[.int .i64 x0, .int .i64 x1, .int .i64 x2, .int .i64 x3]), .bool true], .agg #[.int .i64 x0, .int .i64 x1, .int .i64 x2, .int .i64 x3], .bool true, .bool true, .bool false, undef, undef, undef, undef, undef, nv, .int .i64 (n : Int), u', undef, undef, undef, undef, undef, undef, undef, undef, undef, undef, undef, undef, undef, undef, undef, undef, undef, undef], defers := [] } W := by
        intro u' W hS
        refine (hT _ _ _ _).2 ?_
        refine wpAnyIn_ready (rs := [0, 1]) (by kernel_rfl) (by simp) ?_
        refine AllReadyIn.cons rfl (fun K hK => ?_) (AllReadyIn.cons rfl (fun K hK => ?_) AllReadyIn.nil)
        · have c5 := hS.p.b5.cell (j := 0) (v := pv) rfl
          go_simp
          refine hK _ _ ((hT _ _ _ _).1 ?_)
          exact k10101 u' _ hS
        · have y0 := hS.p.b9.cell (j := 0) (v := .int .i64 x0) rfl
          have y1 := hS.p.b9.cell (j := 1) (v := .int .i64 x1) rfl
          have y2 := hS.p.b9.cell (j := 2) (v := .int .i64 x2) rfl
          have y3 := hS.p.b9.cell (j := 3) (v := .int .i64 x3) rfl
          go_simp
          refine hK _ _ ((hT _ _ _ _).1 ?_)
          exact k01101 u' _ hS
      have k00100 : ∀ (W : World), Sg A lo B5 B6 B9 pv nv ps ns (x0, x1, x2, x3) (n : Int) 0 0 undef undef undef undef W → T 8 #[false, false, false, false, true, true, false, false, false, false] { tmps := #[.string (strB s), undef, .pointer (some ⟨w.heap.size, 0, none⟩), .pointer (some ⟨w.heap.size + 1, 0, none⟩), .pointer (some ⟨w.heap.size + 1 + 1, 0, none⟩), .pointer (some ⟨B5, 0, none⟩), .pointer (some ⟨B6, 0, none⟩), .int .i64 (n : Int), .slice wa (r.length + 1) wc, .pointer (some ⟨B9, 0, none⟩), .bool true, undef, undef, .string (strB s), .int .i64 (s.length : Int), .bool false, .string (strB s), .func (.func 43) #[] #[.pointer (some ⟨lo, 0, none⟩)], .int .i64 (n : Int), .slice wa (r.length + 1) wc, .tuple #[(.agg #[.int .i64 x0, .int .i64 x1, .int .i64 x2, .int .i64 x3]), .bool true], .slice wa (r.length + 1) wc, .tuple #[(.agg #[.int .i64 x0, .int .i64 x1, .int .i64 x2, .int .i64 x3]), .bool true], .agg #[.int .i64 x0, .int .i64 x1, .int .i64 x2, .int .i64 x3], .bool true, .bool true, .bool false, undef, undef, undef, undef, undef, nv, .int .i64 (n : Int), undef, undef, undef, undef, undef, undef, undef, undef, undef, undef, undef, undef, undef, undef, undef, undef, undef, undef, undef], defers := [] } W := by
        intro W hS
        refine (hT _ _ _ _).2 ?_
        refine wpAnyIn_ready (rs := [0, 1, 6]) (by kernel_rfl) (by simp) ?_
        refine AllReadyIn.cons rfl (fun K hK => ?_) (AllReadyIn.cons rfl (fun K hK => ?_) (AllReadyIn.cons rfl (fun K hK => ?_) AllReadyIn.nil))
        · have c5 := hS.p.b5.cell (j := 0) (v := pv) rfl
          go_simp
          refine hK _ _ ((hT _ _ _ _).1 ?_)
          exact k10100  _ hS
        · have y0 := hS.p.b9.cell (j := 0) (v := .int .i64 x0) rfl
          have y1 := hS.p.b9.cell (j := 1) (v := .int .i64 x1) rfl
          have y2 := hS.p.b9.cell (j := 2) (v := .int .i64 x2) rfl
          have y3 := hS.p.b9.cell (j := 3) (v := .int .i64 x3) rfl
          go_simp
          refine hK _ _ ((hT _ _ _ _).1 ?_)
          exact k01100  _ hS
        · go_simp
          refine hK _ _ ((hT _ _ _ _).1 ?_)
          exact k00101 _ _ hS.build_n
      have k00001 : ∀ (u' : Value) (W : World), Sg A lo B5 B6 B9 pv nv ps ns (x0, x1, x2, x3) (n : Int) 0 1 undef undef u' undef W → T 8 #[false, false, false, false, false, true, true, false, false, false] { tmps := #[.string (strB s), undef, .pointer (some ⟨w.heap.size, 0, none⟩), .pointer (some ⟨w.heap.size + 1, 0, none⟩), .pointer (some ⟨w.heap.size + 1 + 1, 0, none⟩), .pointer (some ⟨B5, 0, none⟩), .pointer (some ⟨B6, 0, none⟩), .int .i64 (n : Int), .slice wa (r.length + 1) wc, .pointer (some ⟨B9, 0, none⟩), .bool true, undef, undef, .string (strB s), .int .i64 (s.length : Int), .bool false, .string (strB s), .func (.func 43) #[] #[.pointer (some ⟨lo, 0, none⟩)], .int .i64 (n : Int), .slice wa (r.length + 1) wc, .tuple #[(.agg #[.int .i64 x0, .int .i64 x1, .int .i64 x2, .int .i64 x3]), .bool true], .slice wa (r.length + 1) wc, .tuple #[(.agg #[.int .i64 x0, .int .i64 x1, .int .i64 x2, .int .i64 x3]), .bool true], .agg #[.int .i64 x0, .int .i64 x1, .int .i64 x2, .int .i64 x3], .bool true, .bool true, .bool false, undef, undef, undef, undef, undef, undef, .int .i64 (n : Int), u', undef, undef, undef, undef, undef, undef, undef, undef, undef, undef, undef, undef, undef, undef, undef, undef, undef, undef], defers := [] } W := by
        intro u' W hS
        refine (hT _ _ _ _).2 ?_
        refine wpAnyIn_ready (rs := [0, 1, 4]) (by kernel_rfl) (by simp) ?_
        refine AllReadyIn.cons rfl (fun K hK => ?_) (AllReadyIn.cons rfl (fun K hK => ?_) (AllReadyIn.cons rfl (fun K hK => ?_) AllReadyIn.nil))
        · have c5 := hS.p.b5.cell (j := 0) (v := pv) rfl
          go_simp
          refine hK _ _ ((hT _ _ _ _).1 ?_)
          exact k10001 u' _ hS
        · have y0 := hS.p.b9.cell (j := 0) (v := .int .i64 x0) rfl
          have y1 := hS.p.b9.cell (j := 1) (v := .int .i64 x1) rfl
          have y2 := hS.p.b9.cell (j := 2) (v := .int .i64 x2) rfl
          have y3 := hS.p.b9.cell (j := 3) (v := .int .i64 x3) rfl
          go_simp
          refine hK _ _ ((hT _ _ _ _).1 ?_)
          exact k01001 u' _ hS
        · have c6 := hS.q.b6.cell (j := 0) (v := nv) rfl
          go_simp
          refine hK _ _ ((hT _ _ _ _).1 ?_)
          exact k00101 u' _ hS
      have k00000 : ∀ (W : World), Sg A lo B5 B6 B9 pv nv ps ns (x0, x1, x2, x3) (n : Int) 0 0 undef undef undef undef W → T 9 #[false, false, false, false, false, true, false, false, false, false] { tmps := #[.string (strB s), undef, .pointer (some ⟨w.heap.size, 0, none⟩), .pointer (some ⟨w.heap.size + 1, 0, none⟩), .pointer (some ⟨w.heap.size + 1 + 1, 0, none⟩), .pointer (some ⟨B5, 0, none⟩), .pointer (some ⟨B6, 0, none⟩), .int .i64 (n : Int), .slice wa (r.length + 1) wc, .pointer (some ⟨B9, 0, none⟩), .bool true, undef, undef, .string (strB s), .int .i64 (s.length : Int), .bool false, .string (strB s), .func (.func 43) #[] #[.pointer (some ⟨lo, 0, none⟩)], .int .i64 (n : Int), .slice wa (r.length + 1) wc, .tuple #[(.agg #[.int .i64 x0, .int .i64 x1, .int .i64 x2, .int .i64 x3]), .bool true], .slice wa (r.length + 1) wc, .tuple #[(.agg #[.int .i64 x0, .int .i64 x1, .int .i64 x2, .int .i64 x3]), .bool true], .agg #[.int .i64 x0, .int .i64 x1, .int .i64 x2, .int .i64 x3], .bool true, .bool true, .bool false, undef, undef, undef, undef, undef, undef, .int .i64 (n : Int), undef, undef, undef, undef, undef, undef, undef, undef, undef, undef, undef, undef, undef, undef, undef, undef, undef, undef, undef], defers := [] } W := by
        intro W hS
        refine (hT _ _ _ _).2 ?_
        refine wpAnyIn_ready (rs := [0, 1, 4, 6]) (by kernel_rfl) (by simp) ?_
        refine AllReadyIn.cons rfl (fun K hK => ?_) (AllReadyIn.cons rfl (fun K hK => ?_) (AllReadyIn.cons rfl (fun K hK => ?_) (AllReadyIn.cons rfl (fun K hK => ?_) AllReadyIn.nil)))
        · have c5 := hS.p.b5.cell (j := 0) (v := pv) rfl
          go_simp
          refine hK _ _ ((hT _ _ _ _).1 ?_)
          exact k10000  _ hS
        · have y0 := hS.p.b9.cell (j := 0) (v := .int .i64 x0) rfl
          have y1 := hS.p.b9.cell (j := 1) (v := .int .i64 x1) rfl
          have y2 := hS.p.b9.cell (j := 2) (v := .int .i64 x2) rfl
          have y3 := hS.p.b9.cell (j := 3) (v := .int .i64 x3) rfl
          go_simp
          refine hK _ _ ((hT _ _ _ _).1 ?_)
          exact k01000  _ hS
        · have c6 := hS.q.b6.cell (j := 0) (v := nv) rfl
          go_simp
          refine hK _ _ ((hT _ _ _ _).1 ?_)
          exact k00100  _ hS
        · go_simp
          refine hK _ _ ((hT _ _ _ _).1 ?_)
          exact k00001 _ _ hS.build_n
      exact k00000 _ hS0
      -- DAG END
  case done =>
    intro D A hD hS hK
    obtain ⟨ps, ns, pv, nv, hRed, h5, h6, hp, hn⟩ := hS.lists
    rw [List.take_length] at hRed
    obtain ⟨lp, ln⟩ := hRed.len
    have hel := ents_len s
    obtain ⟨m, hm⟩ : ∃ m, ps.length = m := ⟨_, rfl⟩
    have hmn : ns.length = m := by omega
    have hm4 : (m : Int) ≤ 4097 := by omega
    have hm4' : m ≤ 4097 := by omega
    obtain ⟨pa, pc, ev, hpv⟩ := ow_sl hp hm
    subst ev
    obtain ⟨na, nc, ev, _, hnr, _⟩ := owns_rw hn
    rw [hmn] at ev
    subst ev
    have c6 := h6.cell (j := 0) (v := .slice na m nc) rfl
    have HRed := Hid.mk hRed
    have Hm := Hid.mk hm
    have Hmn := Hid.mk hmn
    have Hnr := Hid.mk hnr
    have Hpv := Hid.mk hpv
    have hDl := (Array.getElem?_eq_some_iff.1 hK).1
    have hMk : ∀ W', But [w.heap.size, w.heap.size + 1, w.heap.size + 1 + 1] A W' → Marks W6.heap.size [D] W' := fun W' hb => ⟨by simp, fun y hy => by
      simp at hy
      subst hy
      exact ⟨hD, (hb.block y hDl (by simp; omega)).trans hK⟩⟩
    have HMk := Hid.mk hMk
    clear hm hmn hRed lp ln hel hnr hpv hMk
    have hTA := hT.on hS.bel
    gi_wp2_with fail
    gi_loopw [38, 11, 12] (fun p _ _ wr => ∃ k : Nat, p = .int .i64 k ∧ k ≤ m ∧ Hid (∀ j, j < k → goodAt ps (j : Int) = true) ∧ Below A.heap.size A wr) (fun p _ _ _ => m - (intOf p).toNat)
    case atStart => exact ⟨0, rfl, by omega, Hid.mk (fun j hj => by omega), Below.refl _ _⟩
    case round =>
      obtain ⟨k, rfl, hkm, hall, hbw⟩ := hrel
      have g5 := (h5.below hbw).cell (j := 0) (v := .slice pa m pc) rfl
      have r2 := hS.r2.below hbw
      have r3 := hS.r3.below hbw
      have r4 := hS.r4.below hbw
      have g2 := r2.cell (j := 0) (v := .slice none 0 0) rfl
      have g3 := r3.cell (j := 0) (v := .int .i64 0) rfl
      have g4 := r4.cell (j := 0) (v := .int .i64 0) rfl
      have z2 := r2.fz 0
      have z3 := r3.fz 0
      have z4 := r4.fz 0
      by_cases hk : k < m
      · have hk2 : (k : Int) < (m : Int) := by omega
        have hk0 : (0 : Int) ≤ (k : Int) := by omega
        obtain ⟨z, hz2⟩ : ∃ z, ns[k]? = some z := ⟨_, List.getElem?_eq_getElem (by rw [Hmn.out]; exact hk)⟩
        obtain ⟨nb, no, ena, hnc⟩ := Hnr.out k (.int .i64 z) (by simp [hz2])
        subst ena
        have hncw := cell_on hbw hnc
        have HG := good_any (ps := ps) pc (k : Int) (Hpv.out.below hbw) (hTA.on hbw)
        rw [Hm.out] at HG
        cases hgd : goodAt ps (k : Int) with
        | true =>
          rw [hgd] at HG
          have hall2 := Hid.mk (show ∀ j, j < k + 1 → goodAt ps (j : Int) = true from fun j hj => by
            by_cases e : j = k
            · subst e; exact hgd
            · exact hall.out j (by omega))
          clear hgd hall hz2 hnc
          gi_wp2_with (refine ⟨trivial, ?_⟩; gi_at_call 16; refine (callsIn_wide.2 HG).mono ?_; rintro e w1 ⟨rfl, hb1⟩)
          exact ⟨⟨k + 1, by simp, by omega, hall2, hbw.trans (hb1.mono hbw.size)⟩, by simp [intOf]; omega⟩
        | false =>
          rw [hgd] at HG
          obtain ⟨zn, hzn, hsv⟩ := scan_bad hs HRed.out (i := k) (by rw [Hm.out]; exact hk) hall.out hgd
          rw [hz2] at hzn
          cases hzn
          have HSV := Hid.mk hsv
          clear hgd hall hz2 hnc hsv
          gi_wp2_with (refine ⟨trivial, ?_⟩; gi_at_call 16; refine (callsIn_wide.2 HG).mono ?_; rintro e w1 ⟨rfl, hb1⟩; have r2 := r2.below hb1; have r3 := r3.below hb1; have r4 := r4.below hb1; have g2 := r2.cell (j := 0) (v := .slice none 0 0) rfl; have g3 := r3.cell (j := 0) (v := .int .i64 0) rfl; have g4 := r4.cell (j := 0) (v := .int .i64 0) rfl; have z2 := r2.fz 0; have z3 := r3.fz 0; have z4 := r4.fz 0)
          obtain ⟨s1, s2, s3, s4⟩ := three (w := w) (hbw.trans (hb1.mono hbw.size)) hS.r2 hS.r3 hS.r4 rfl rfl rfl (.slice none 0 0) (.int .i64 (zn : Nat)) (.int .i64 10)
          refine post_marks (Ds := [D]) (HMk.out _ s1) (fun W' hb' => ⟨_, results_c3 rfl _ _ w.heap.size (w.heap.size + 1) (w.heap.size + 1 + 1) _ _ _ rfl rfl rfl (hb'.cell' s2 (by simp; omega)) (hb'.cell' s3 (by simp; omega)) (hb'.cell' s4 (by simp; omega)), ?_, (hS.bel.trans (s1.below hS.bel.size (by simp; omega))).trans (hb'.below (Nat.le_trans hS.bel.size s1.size) (by simp; omega))⟩)
          unfold ScanV
          rw [HSV.out]
          exact ⟨_, rfl, Ow.nil _ _⟩
      · obtain rfl : k = m := by omega
        have hsv := scan_end hs HRed.out (by rw [Hm.out]; exact hall.out)
        rw [Hm.out] at hsv
        have HSV := Hid.mk hsv
        clear hsv hall
        by_cases h64 : (64 : Int) < (k : Int)
        · gi_wp2_with fail
          obtain ⟨s1, s2, s3, s4⟩ := three (w := w) hbw hS.r2 hS.r3 hS.r4 rfl rfl rfl (.slice none 0 0) (.int .i64 0) (.int .i64 12)
          refine post_marks (Ds := [D]) (HMk.out _ s1) (fun W' hb' => ⟨_, results_c3 rfl _ _ w.heap.size (w.heap.size + 1) (w.heap.size + 1 + 1) _ _ _ rfl rfl rfl (hb'.cell' s2 (by simp; omega)) (hb'.cell' s3 (by simp; omega)) (hb'.cell' s4 (by simp; omega)), ?_, (hS.bel.trans (s1.below hS.bel.size (by simp; omega))).trans (hb'.below (Nat.le_trans hS.bel.size s1.size) (by simp; omega))⟩)
          unfold ScanV
          rw [HSV.out, if_pos (by omega)]
          exact ⟨_, rfl, Ow.nil _ _⟩
        · gi_wp2_with fail
          obtain ⟨s1, s2, s3, s4⟩ := three (w := w) hbw hS.r2 hS.r3 hS.r4 rfl rfl rfl (.slice pa k pc) (.int .i64 0) (.int .i64 0)
          refine post_marks (Ds := [D]) (HMk.out _ s1) (fun W' hb' => ⟨_, results_c3 rfl _ _ w.heap.size (w.heap.size + 1) (w.heap.size + 1 + 1) _ _ _ rfl rfl rfl (hb'.cell' s2 (by simp; omega)) (hb'.cell' s3 (by simp; omega)) (hb'.cell' s4 (by simp; omega)), ?_, (hS.bel.trans (s1.below hS.bel.size (by simp; omega))).trans (hb'.below (Nat.le_trans hS.bel.size s1.size) (by simp; omega))⟩)
          unfold ScanV
          rw [HSV.out, if_neg (by omega)]
          refine ⟨_, rfl, Ow.lower (B' := w.heap.size + 5) ?_ (by omega)⟩
          have hOA := hp
          refine hOA.put (fun b hb2 => ?_)
          have hlt := hOA.lt hb2
          have hbD : b ≠ D := fun e => by
            obtain ⟨o, ho, hc⟩ := ow_blk hOA hb2
            rw [e, hK] at ho
            cases ho
            cases hc
          exact (hb'.block b (Nat.lt_of_lt_of_le hlt.2 s1.size) (by simpa using hbD)).trans (s1.block b hlt.2 (by simp; omega))
  case stop =>
    rintro D c' A hD ⟨rfl, n, h1, h2, h3, h4, h5⟩ hK
    gi_wp2_with fail
    have hMk : Marks W6.heap.size [D] A := ⟨by simp, fun y hy => by simp at hy; subst hy; exact ⟨hD, hK⟩⟩
    refine post_marks (Ds := [D]) hMk (fun W' hb => ⟨_, results_c3 rfl _ _ w.heap.size (w.heap.size + 1) (w.heap.size + 1 + 1) _ _ _ rfl rfl rfl ((h3.but hb (by simp; omega)).cell rfl) ((h4.but hb (by simp; omega)).cell rfl) ((h5.but hb (by simp; omega)).cell rfl), ?_, h2.trans (hb.below h2.size (by simp; omega))⟩)
    unfold ScanV
    rw [h1]
    exact ⟨_, rfl, Ow.nil _ _⟩

set_option maxRecDepth 100000 in
set_option maxHeartbeats 2000000 in
theorem scan_any (s : List UInt8) (w : World) (hT : Tab w) {mx : Int} (hM : w.cell? ⟨mxB, 0, none⟩ = some (.int .i64 mx)) :
    Calls Tryz.prog 9 #[.string (strB s)] w fun e w' => ScanV s w.heap.size e w' ∧ Below w.heap.size w w' := by
  by_cases hs : s.length ≤ 4096
  · obtain ⟨mc, mt, mf, h1, h2⟩ : ∃ mc mt mf, w.heap[mxB]? = some (.cells mc mt mf) ∧ mc[0]? = some (Value.int .i64 mx) := by
      simp only [World.cell?] at hM
      cases hh : w.heap[mxB]? with
      | none => rw [hh] at hM; simp at hM
      | some o =>
        rw [hh] at hM
        cases o with
        | cells mc mt mf => exact ⟨mc, mt, mf, rfl, by simpa using hM⟩
        | _ => simp at hM
    exact callsIn_wide.1 (scan_in s hs w hT h1 h2)
  · have hz := strB_size s
    have hl2 : (4096 : Int) < (s.length : Int) := by omega
    have hsv := Hid.mk (scan_long (s := s) (by omega))
    clear hs hM
    go_enter Tryz.func9, Tryz.ntmps9
    go_wp2_with fail
    have e2 : (((w.alloc (.cells #[.slice none 0 0] 23)).alloc (.cells #[.int .i64 0] 3)).alloc (.cells #[.int .i64 12] 27)).cell? ⟨w.heap.size, 0, none⟩ = some (.slice none 0 0) := by simp [go_sem]
    have e3 : (((w.alloc (.cells #[.slice none 0 0] 23)).alloc (.cells #[.int .i64 0] 3)).alloc (.cells #[.int .i64 12] 27)).cell? ⟨w.heap.size + 1, 0, none⟩ = some (.int .i64 0) := by simp [go_sem]
    have e4 : (((w.alloc (.cells #[.slice none 0 0] 23)).alloc (.cells #[.int .i64 0] 3)).alloc (.cells #[.int .i64 12] 27)).cell? ⟨w.heap.size + 1 + 1, 0, none⟩ = some (.int .i64 12) := by simp [go_sem]
    refine bodyPost_ret (results_c3 rfl _ _ w.heap.size (w.heap.size + 1) (w.heap.size + 1 + 1) _ _ _ rfl rfl rfl e2 e3 e4) rfl ⟨?_, ?_⟩
    · unfold ScanV
      rw [hsv.out]
      exact ⟨_, rfl, Ow.nil _ _⟩
    · exact (((Below.refl _ w).alloc (Nat.le_refl _) _).alloc (by simp) _).alloc (by simp; omega) _

end Go.Proofs.YtbcdjpafdmgbmaaGreatDoor
namespace Go.Proofs.YtbcdjpafdmgbmaaGreatDoor
open Go.RowKit

theorem u8_dig {u : Nat} (h : u < 10) : (UInt8.ofNat (48 + u)).toNat = 48 + u := by
  rw [UInt8.toNat_ofNat']
  omega
theorem dec_all : ∀ (f u : Nat), u ≤ f → (Lib.decDigits u).all digB = true ∧ magF 0 (Lib.decDigits u) = u ∧ Lib.decDigits u ≠ []
  | f, u, h => by
    by_cases h10 : u < 10
    · rw [dec_small h10]
      refine ⟨?_, ?_, by simp⟩
      · simp only [List.all_cons, List.all_nil, Bool.and_true]
        exact dig_iff.2 (by rw [u8_dig h10]; omega)
      · simp only [magF, List.foldl_cons, List.foldl_nil, u8_dig h10]
        omega
    · match f, h with
      | 0, h => omega
      | f + 1, h =>
        have hm : u % 10 < 10 := Nat.mod_lt _ (by omega)
        obtain ⟨i1, i2, i3⟩ := dec_all f (u / 10) (by omega)
        rw [dec_big h10, dec_small hm]
        refine ⟨?_, ?_, by simp⟩
        · rw [List.all_append, i1]
          simp only [List.all_cons, List.all_nil, Bool.and_true, Bool.true_and]
          exact dig_iff.2 (by rw [u8_dig hm]; omega)
        · rw [magF_snoc, i2, u8_dig hm]
          omega
theorem dig_ne {c : UInt8} (h : digB c = true) : c ≠ 32 ∧ c ≠ 10 ∧ c ≠ 45 ∧ c ≠ 35 := by
  have := dig_iff.1 h
  refine ⟨?_, ?_, ?_, ?_⟩ <;> rintro rfl <;> revert this <;> decide
/-- A number's text: no blank, no line's end, not empty. -/
theorem itoa_plain (v : Int) : (∀ c ∈ Lib.itoa v, c ≠ 32 ∧ c ≠ 10) ∧ Lib.itoa v ≠ [] := by
  unfold Lib.itoa
  split
  · obtain ⟨i1, _, _⟩ := dec_all _ v.natAbs (Nat.le_refl _)
    refine ⟨fun c hc => ?_, by simp⟩
    rcases List.mem_cons.1 hc with rfl | hc
    · decide
    · exact ⟨(dig_ne (List.all_eq_true.1 i1 c hc)).1, (dig_ne (List.all_eq_true.1 i1 c hc)).2.1⟩
  · obtain ⟨i1, _, i3⟩ := dec_all _ v.toNat (Nat.le_refl _)
    exact ⟨fun c hc => ⟨(dig_ne (List.all_eq_true.1 i1 c hc)).1, (dig_ne (List.all_eq_true.1 i1 c hc)).2.1⟩, i3⟩
theorem numW_itoa {v : Int} (h1 : -1099511627776 ≤ v) (h2 : v ≤ 1099511627776) : numW (Lib.itoa v) = some v := by
  have h13 : (10 : Nat) ^ 13 = 10000000000000 := by decide
  have hmag : ∀ u : Nat, u ≤ 1099511627776 → magB (Lib.decDigits u) = true := fun u hu => by
    obtain ⟨i1, _, i3⟩ := dec_all _ u (Nat.le_refl _)
    have hl := nDigits_le 12 u (by rw [h13]; omega)
    rw [← Lib.decDigits_length] at hl
    have hp : 1 ≤ (Lib.decDigits u).length := List.length_pos_iff.2 i3
    unfold magB
    rw [i1]
    simp
    omega
  by_cases hv : v < 0
  · have e : Lib.itoa v = 45 :: Lib.decDigits v.natAbs := by unfold Lib.itoa; rw [if_pos hv]
    obtain ⟨_, i2, _⟩ := dec_all _ v.natAbs (Nat.le_refl _)
    have hn : negB (45 :: Lib.decDigits v.natAbs) = true := rfl
    have hm : magOf (45 :: Lib.decDigits v.natAbs) = Lib.decDigits v.natAbs := by unfold magOf; rw [hn]; rfl
    unfold numW
    rw [e, hm, hmag _ (by omega), hn, i2]
    simp
    omega
  · have e : Lib.itoa v = Lib.decDigits v.toNat := by unfold Lib.itoa; rw [if_neg hv]
    obtain ⟨i1, i2, i3⟩ := dec_all _ v.toNat (Nat.le_refl _)
    have hn : negB (Lib.decDigits v.toNat) = false := by
      unfold negB
      cases hd : Lib.decDigits v.toNat with
      | nil => exact absurd hd i3
      | cons c t =>
        have := (dig_ne (List.all_eq_true.1 i1 c (by rw [hd]; simp))).2.2.1
        simpa using this
    have hm : magOf (Lib.decDigits v.toNat) = Lib.decDigits v.toNat := by unfold magOf; rw [hn]; rfl
    unfold numW
    rw [e, hm, hmag _ (by omega), hn, i2]
    simp
    omega
theorem numsW_itoa : ∀ {vs : List Int}, (∀ v ∈ vs, -1099511627776 ≤ v ∧ v ≤ 1099511627776) → numsW (vs.map Lib.itoa) = some vs
  | [], _ => rfl
  | v :: vs, h => by
    have h1 := h v List.mem_cons_self
    rw [List.map_cons, numsW, numW_itoa h1.1 h1.2, numsW_itoa (fun x hx => h x (List.mem_cons_of_mem _ hx))]
/-- Words of a line. -/
theorem words_go : ∀ (vs : List Int) (cur : List UInt8), cur ≠ [] → wordsG cur (vs.flatMap (fun v => 32 :: Lib.itoa v)) = cur :: vs.map Lib.itoa
  | [], cur, h => by
    rw [List.flatMap_nil, wordsG, if_neg h]
    rfl
  | v :: vs, cur, h => by
    obtain ⟨i1, i2⟩ := itoa_plain v
    rw [List.flatMap_cons, List.cons_append, wordsG, if_pos rfl, if_neg h, wordsG_many (fun c hc => (i1 c hc).1), List.nil_append, words_go vs _ i2]
    rfl
def lineI (x : Ins) : List UInt8 := nmL x.1 ++ numsL x
theorem nm_plain : ∀ k : Fin 27, nmT.getD k.1 [] ≠ [] ∧ ∀ c ∈ nmT.getD k.1 [], c ≠ 32 ∧ c ≠ 10 ∧ c ≠ 35 := by decide
theorem nmL_plain {op : Int} (h : opB op = true) : nmL op ≠ [] ∧ ∀ c ∈ nmL op, c ≠ 32 ∧ c ≠ 10 ∧ c ≠ 35 := by
  obtain ⟨k, rfl, hk⟩ := opB_nat h
  rw [nmL_nat hk]
  exact nm_plain ⟨k, hk⟩
theorem line_words {x : Ins} (h : opB x.1 = true) : wordsB (lineI x) = nmL x.1 :: (usedL x).map Lib.itoa := by
  obtain ⟨h1, h2⟩ := nmL_plain h
  unfold wordsB lineI numsL
  rw [wordsG_many (fun c hc => (h2 c hc).1), List.nil_append, words_go _ _ h1]
theorem line_says {x : Ins} (h : opB x.1 = true) : saysB (lineI x) = true := by
  obtain ⟨h1, h2⟩ := nmL_plain h
  unfold saysB
  rw [line_words h]
  have : (lineI x).headD 0 ≠ 35 := by
    unfold lineI
    cases hn : nmL x.1 with
    | nil => exact absurd hn h1
    | cons c t =>
      have := (h2 c (by rw [hn]; simp)).2.2
      simpa using this
  simpa using this
theorem lines_many {h : List UInt8} (hh : ∀ c ∈ h, c ≠ 10) (cur t : List UInt8) : linesG cur (h ++ t) = linesG (cur ++ h) t := by
  induction h generalizing cur with
  | nil => simp
  | cons c h ih =>
    have hc := hh c List.mem_cons_self
    rw [List.cons_append, linesG, if_neg hc, ih (fun x hx => hh x (List.mem_cons_of_mem _ hx))]
    simp
theorem line_plain {x : Ins} (h : opB x.1 = true) : ∀ c ∈ lineI x, c ≠ 10 := by
  intro c hc
  unfold lineI at hc
  rcases List.mem_append.1 hc with hc | hc
  · exact ((nmL_plain h).2 c hc).2.1
  · unfold numsL at hc
    obtain ⟨v, _, hv⟩ := List.mem_flatMap.1 hc
    rcases List.mem_cons.1 hv with rfl | hv
    · decide
    · exact ((itoa_plain v).1 c hv).2
theorem lines_print : ∀ {p : List Ins}, (∀ x ∈ p, opB x.1 = true) → linesG [] (printL p) = p.map lineI ++ [[]]
  | [], _ => rfl
  | x :: p, h => by
    have e : printL (x :: p) = lineI x ++ (10 :: printL p) := by
      unfold printL
      rw [List.flatMap_cons]
      unfold printI lineI
      simp
    rw [e, lines_many (line_plain (h x List.mem_cons_self)), linesG, if_pos rfl, lines_print (fun y hy => h y (List.mem_cons_of_mem _ hy))]
    rfl
/-- The words say the instruction. -/
theorem nk_set {f : Nat → Int} {k : Nat} (hk : k < 3) : ∀ (q : List Nat) (y : Ins), (∀ j ∈ q, j < 3) → nk (setQ q (q.map f) y) k = if k ∈ q then f k else nk y k
  | [], y, _ => by simp [setQ]
  | a :: q, y, h => by
    have ha := h a List.mem_cons_self
    have e : setQ (a :: q) ((a :: q).map f) y = setQ q (q.map f) (nset y a (f a)) := rfl
    rw [e, nk_set hk q _ (fun j hj => h j (List.mem_cons_of_mem _ hj))]
    by_cases hq : k ∈ q
    · simp [hq]
    · by_cases hka : k = a
      · subst hka
        simp [hq, nset_same ha]
      · simp [hq, hka, nset_ne ha hk hka]
theorem line_ins {n : Nat} {x : Ins} (hn : n ≤ 64) (h : goodB n x = true) : insW (nmL x.1 :: (usedL x).map Lib.itoa) = some x := by
  have ho : opB x.1 = true := by unfold goodB at h; simp only [Bool.and_eq_true] at h; exact h.1
  obtain ⟨k, hk, hlt⟩ := opB_nat ho
  have hw : opW (nmL x.1) = some k := by rw [hk, nmL_nat hlt]; exact opW_some hlt rfl
  rw [insW_some hw (numsW_itoa (fun v hv => used_small hn h hv)) (by unfold usedL; rw [List.length_map, List.length_map, hk]), ← hk]
  congr 1
  refine ins_ext (setQ_op _ _ _) (fun j hj => ?_)
  unfold usedL
  rw [nk_set hj _ _ (usQ_lt _)]
  split
  · rfl
  · rename_i hq
    rw [good_unused h hj hq]
    match j, hj with
    | 0, _ => rfl
    | 1, _ => rfl
    | 2, _ => rfl
theorem ents_print {n : Nat} (hn : n ≤ 64) : ∀ {p : List Ins} (m : Nat), (∀ x ∈ p, goodB n x = true) → ∃ ns, Red (entsN m (p.map lineI ++ [[]])) p ns
  | [], m, _ => ⟨[], by simp [entsN, saysB, wordsB, wordsG]; exact Red.nil⟩
  | x :: p, m, h => by
    have hg := h x List.mem_cons_self
    have ho : opB x.1 = true := by unfold goodB at hg; simp only [Bool.and_eq_true] at hg; exact hg.1
    obtain ⟨ns, hr⟩ := ents_print hn (m + 1) (fun y hy => h y (List.mem_cons_of_mem _ hy))
    have e : entsN m ((x :: p).map lineI ++ [[]]) = (m, nmL x.1 :: (usedL x).map Lib.itoa) :: entsN (m + 1) (p.map lineI ++ [[]]) := by
      rw [List.map_cons, List.cons_append, entsN, if_pos (line_says ho), line_words ho]
    rw [e]
    have hi := line_ins hn hg
    refine ⟨(m : Int) :: ns, fun e' he => ?_, ?_, ?_⟩
    · rcases List.mem_cons.1 he with rfl | he
      · simp [hi]
      · exact hr.ok e' he
    · unfold progE
      rw [List.filterMap_cons]
      simp only [hi]
      have := hr.ps
      unfold progE at this
      rw [this]
    · rw [List.map_cons, hr.ns]
/-- A program that may be comes back from its text. -/
theorem scan_print {p : List Ins} (h : wholeB p = true) : scanV (printL p) = (p, 0, 0) := by
  have hm := whole_mem h
  obtain ⟨h64, hat⟩ := wholeB_iff.1 h
  have hlen := printL_len h64 hm
  obtain ⟨ns, hr⟩ := ents_print h64 1 hm
  rw [← lines_print (fun x hx => by have hg := hm x hx; unfold goodB at hg; simp only [Bool.and_eq_true] at hg; exact hg.1)] at hr
  have he := scan_end (s := printL p) (by omega) hr (fun j hj => by rw [goodAt_nat hj]; exact hat j hj)
  rw [he, if_neg (by omega)]
/-- What is read may be. -/
theorem scan_whole {s : List UInt8} (h : (scanV s).2.2 = 0) : wholeB (scanV s).1 = true := by
  unfold scanV at h ⊢
  split at h
  · cases h
  · rename_i hl
    rw [if_neg hl]
    split at h
    · cases h
    · split at h
      · cases h
      · rename_i hf
        split at h
        · cases h
        · rename_i h64
          first
            | rw [if_neg h64]
            | skip
          simp only
          refine wholeB_iff.2 ⟨by omega, fun i hi => ?_⟩
          rw [List.find?_eq_none] at hf
          have := hf i (by simpa using hi)
          simp only [Bool.not_eq_eq_eq_not, Bool.not_true, Bool.not_eq_false] at this
          rw [goodAt_nat hi] at this
          exact this

end Go.Proofs.YtbcdjpafdmgbmaaGreatDoor
