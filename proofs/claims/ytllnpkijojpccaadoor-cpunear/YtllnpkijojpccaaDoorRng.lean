/- Ranges over functions where an iterator ranges over another one: iterators told by places of a list, and the law of the loop. -/
import Derived.RangeFuncNested
import Derived.RangeFuncBound
import Derived.RangeFuncCalls
import Derived.RangeFuncLeaves
import Derived.Shelf.Abstract
import Derived.Shelf.RegionOpen
import Derived.WalkKit
import Derived.OwnWalkIn
import Derived.TacticsInMore
import Derived.LoopNIn
import Derived.LoopIn
import Derived.Test.YtllnpkijojpccaaDoorRows
namespace Go.Proofs.YtllnpkijojpccaaDoor
open Go.RowKit Go.Shelf

theorem RoundIn.deep {m m' : Nat} {P : Program} {l : Nat} {f : FuncId} {tmps : Array Value} {assign body : Code} {w : World} {R : Ending → World → Prop}
    (h : RoundIn Fence.wide m P l f tmps assign body w R) : RoundIn Fence.wide m' P l f tmps assign body w R := ⟨h.1, fun c cs _ => h.2 c cs (room_wide _)⟩
theorem YieldAt.deep {m m' : Nat} {P : Program} {l : Nat} {args : Array Value} {W : World} {R : Ending → World → Prop} (h : YieldAt Fence.wide m P l args W R) : YieldAt Fence.wide m' P l args W R := by
  obtain ⟨fn, tmps, assign, body, hy, hR⟩ := h
  exact ⟨fn, tmps, assign, body, hy, RoundIn.deep hR⟩

/-- What a round keeps: cells that are not the caller's own, and (from base on) what is no cells. -/
structure Kp (own : World → List Nat) (base : Nat) (A B : World) : Prop where
  from_ : KeepsFrom base A B
  cells : ∀ (k : Nat) (o : Obj), A.heap[k]? = some o → o.isCells = true → k ∉ own A → B.heap[k]? = some o
  safe : ∀ k, k < A.heap.size → k ∉ own A → k ∉ own B

/-- The caller's own blocks are there. -/
def OwnIn (own : World → List Nat) (A : World) : Prop := ∀ k ∈ own A, ∃ o : Obj, A.heap[k]? = some o ∧ o.isCells = true
/-- The caller's own blocks do not hang on what is no cells, nor on what is new. -/
def Stab (own : World → List Nat) : Prop :=
  ∀ (A B : World) (row : Option Nat), OwnIn own A → A.grownBy B row → (∀ r, row = some r → ∃ o : Obj, A.heap[r]? = some o ∧ o.isCells = false) → own B = own A
theorem Stab.put {own : World → List Nat} (h : Stab own) {A : World} {l : Nat} {o : Obj} (o' : Obj) (hA : OwnIn own A) (hl : A.heap[l]? = some o) (hn : o.isCells = false) : own (A.putObj l o') = own A :=
  h A _ (some l) hA (grownBy_putObj' A l o') (fun r e => by cases e; exact ⟨o, hl, hn⟩)
theorem stab_const (S : List Nat) : Stab (fun _ => S) := fun _ _ _ _ _ _ => rfl

/-- An iterator that tells the elements of q, one by one, or fewer, if a round says no. -/
def SeqR {α : Type} (P : Program) (own : World → List Nat) (g : Nat) (lb : Array Value) (encs : α → Array Value) (q : List α) (w : World) : Prop :=
  ∀ (l : Nat) (J : Nat → World → Prop) (Jx : World → Prop) (W : World), Below w.heap.size w W → l < W.heap.size → OwnFrom W.heap.size J → OwnFrom W.heap.size (fun (_ : Unit) => Jx) →
    (∀ i A, J i A → OwnIn own A) →
    (∀ i x W1, q[i]? = some x → J i W1 → YieldAt Fence.wide 9 P l (encs x) W1 fun e W' =>
      (e = .returned (.bool true) ∧ J (i + 1) W' ∧ Kp own W.heap.size W1 W') ∨ (e = .returned (.bool false) ∧ Jx W' ∧ KeepsFrom W.heap.size W1 W')) →
    J 0 W →
    CallsIn Fence.wide 9 P g (#[.func (.yield l) #[] #[]] ++ lb) W fun e W' => (∃ v, e = .returned v) ∧ (J q.length W' ∨ Jx W')

/-- How the body of a round may be left. -/
def rPost (own : World → List Nat) (B : Nat) (I : Nat → World → Prop) (Ix : Code → World → Prop) (i : Nat) (W : World) : Exit → Act → World → Prop
  | .normal, _, W' => Kp own B W W' ∧ I i W'
  | .ret, _, W' => KeepsFrom B W W' ∧ Ix .ret W'
  | .exit id, _, W' => KeepsFrom B W W' ∧ Ix (.exit id) W'
  | .goto t, _, W' => KeepsFrom B W W' ∧ Ix (.goto t) W'
  | .panic _, _, _ => False
  | .outgrown, _, _ => False

theorem Kp.mono {own : World → List Nat} {b b' : Nat} {A B : World} (h : Kp own b A B) (hb : b ≤ b') : Kp own b' A B :=
  ⟨⟨h.from_.size, fun k o hk => h.from_.same k o (Nat.le_trans hb hk)⟩, h.cells, h.safe⟩
theorem KeepsFrom.mono {b b' : Nat} {A B : World} (h : KeepsFrom b A B) (hb : b ≤ b') : KeepsFrom b' A B := ⟨h.size, fun k o hk => h.same k o (Nat.le_trans hb hk)⟩

/-- A round, seen from without: its record is as it was. -/
theorem keeps_round {b l : Nat} {A B : World} {o o1 : Obj} (hl : A.heap[l]? = some o) (h : KeepsFrom b (A.putObj l o1) B) (_ : b ≤ l) : KeepsFrom b A (B.putObj l o) := by
  have hlt := (Array.getElem?_eq_some_iff.1 hl).1
  have hsz := h.size
  rw [World.putObj_size] at hsz
  refine ⟨by rw [World.putObj_size]; exact hsz, fun k u hk hu hc => ?_⟩
  by_cases e : k = l
  · subst e
    rw [hl] at hu
    cases hu
    exact World.putObj_heap_same (by omega)
  · rw [World.putObj_heap_other e]
    exact h.same k u hk ((World.putObj_heap_other e).trans hu) hc
/-- The same, where the record does not end as it was: what lies beyond it. -/
theorem keeps_beyond {b l : Nat} {A B : World} {o1 o2 : Obj} (h : KeepsFrom b (A.putObj l o1) B) {b' : Nat} (hb : b ≤ b') (hl : l < b') : KeepsFrom b' A (B.putObj l o2) := by
  have hsz := h.size
  rw [World.putObj_size] at hsz
  refine ⟨by rw [World.putObj_size]; exact hsz, fun k u hk hu hc => ?_⟩
  rw [World.putObj_heap_other (by omega)]
  exact h.same k u (by omega) ((World.putObj_heap_other (by omega)).trans hu) hc

theorem kp_round {own : World → List Nat} (hst : Stab own) {b l : Nat} {A B : World} {o o1 : Obj} (hA : OwnIn own A) (hB' : OwnIn own B) (hl : A.heap[l]? = some o) (hn : o.isCells = false) (hn1 : o1.isCells = false) (h : Kp own b (A.putObj l o1) B) (hb : b ≤ l) : Kp own b A (B.putObj l o) := by
  have hlt := (Array.getElem?_eq_some_iff.1 hl).1
  have hB : B.heap[l]? = some o1 := h.from_.same l o1 hb (World.putObj_heap_same hlt) hn1
  have e1 : own (A.putObj l o1) = own A := hst.put o1 hA hl hn
  have e2 : own (B.putObj l o) = own B := hst.put o hB' hB hn1
  refine ⟨keeps_round hl h.from_ hb, fun k u hu hc hk => ?_, fun k hk hs => ?_⟩
  · have e : k ≠ l := by
      rintro rfl
      rw [hl] at hu
      cases hu
      rw [hn] at hc
      cases hc
    rw [World.putObj_heap_other e]
    exact h.cells k u ((World.putObj_heap_other e).trans hu) hc (by rw [e1]; exact hk)
  · rw [e2]
    exact h.safe k (by rw [World.putObj_size]; exact hk) (by rw [e1]; exact hs)

/-- The loop. -/
theorem wp_range {α : Type} {P : Program} {own : World → List Nat} (hst : Stab own) {q : List α} {encs : α → Array Value} {g : Operand} {ps : Array Tmp} {assign body : Code} {Q : Exit → Act → World → Prop} {a : Act} {w w0 : World} {gf : Nat} {lb : Array Value}
    (hg : a.eval g = .func (.func gf) #[] lb) (eg : ∀ args w, (callFunc gf args).run P w = .ok (.enter gf args) w)
    (hseq : SeqR P own gf lb encs q w0) (hb0 : Below w0.heap.size w0 w) (hps : ∀ x, (encs x).size = ps.size)
    (I : Nat → World → Prop) (Ix : Code → World → Prop) (hI : OwnFrom w.heap.size I) (hIx : ∀ c, OwnFrom w.heap.size (fun (_ : Unit) => Ix c)) (hin : ∀ i A, I i A → OwnIn own A) (h0 : I 0 w) (a₁ : α → Act)
    (hassign : ∀ (l : Nat) (x : α) (W : World) (K : Act → World → Prop), K (a₁ x) W →
      assign.wpIn (Fence.wide.inRound l) 9 P (Exit.then K (fun _ _ _ => False)) { tmps := (ps.zip (encs x)).foldl (fun t (p, v) => t.setIfInBounds p v) a.tmps, defers := [] } W)
    (hbody : ∀ (l i : Nat) (x : α) (W : World), q[i]? = some x → I i W → body.wpIn (Fence.wide.inRound l) 9 P (rPost own w.heap.size I Ix (i + 1) W) (a₁ x) W)
    (hdone : ∀ (D : Nat) (W : World), w.heap.size ≤ D → I q.length W → W.heap[D]? = some (.deferred (some [])) → Q .normal { a with defers := { target := .collected D, args := #[] } :: a.defers } W)
    (hstop : ∀ (D : Nat) (c : Code) (W : World), w.heap.size ≤ D → Ix c W → W.heap[D]? = some (.deferred (some [])) → c.wpIn Fence.wide 9 P Q { a with defers := { target := .collected D, args := #[] } :: a.defers } W) :
    (Code.rangeFunc g ps assign body).wpIn Fence.wide 9 P Q a w := by
  refine wpIn_rangeFunc fun fn hfn => ?_
  -- two new blocks: D for deferred calls, and the record behind it
  obtain ⟨D, hD⟩ : ∃ D, D = w.heap.size := ⟨_, rfl⟩
  obtain ⟨mk, hmk⟩ : ∃ mk : LoopState → Option Code → Loop, mk = fun s p => { state := s, pending := p, fn := fn, tmps := a.tmps, params := ps, assign := assign, body := body, defers := D } := ⟨_, rfl⟩
  obtain ⟨W1, hW1⟩ : ∃ W1, W1 = (w.alloc (.deferred (some []))).alloc (.loop (mk .ready none)) := ⟨_, rfl⟩
  have bel : Below w.heap.size w W1 := by
    rw [hW1]
    exact ((Below.refl _ w).alloc (Nat.le_refl _) _).alloc (by simp) _
  have sz : W1.heap.size = D + 2 := by rw [hW1, hD]; simp
  have atD : W1.heap[D]? = some (.deferred (some [])) := by
    rw [hW1, hD]
    exact (Below.heap_alloc _ _ _ (by simp)).trans (World.alloc_heap_new w _)
  have atL : W1.heap[D + 1]? = some (.loop (mk .ready none)) := by
    have := World.alloc_heap_new (w.alloc (.deferred (some []))) (.loop (mk .ready none))
    rw [World.size_alloc, ← hD, ← hW1] at this
    exact this
  have I1 : I 0 W1 := by rw [hW1]; exact hI.alloc _ (hI.alloc _ h0)
  have hcall := hseq (D + 1)
    (fun i W => I i W ∧ W.heap[D + 1]? = some (.loop (mk .ready none)) ∧ W.heap[D]? = some (.deferred (some [])))
    (fun W => ∃ c, Ix c W ∧ W.heap[D + 1]? = some (.loop (mk .done (some c))) ∧ W.heap[D]? = some (.deferred (some [])))
    W1 (hb0.trans (bel.mono hb0.size)) (by omega)
    (fun i A B row hs hg hr => by
      have hr' : ∀ r, row = some r → w.heap.size ≤ r ∧ ∃ o : Obj, A.heap[r]? = some o ∧ o.isCells = false := fun r e => ⟨by have := (hr r e).1; omega, (hr r e).2⟩
      have old : ∀ k o, k < D + 2 → A.heap[k]? = some o → B.heap[k]? = some o := fun k o hk ho =>
        (hg.block k (Array.getElem?_eq_some_iff.1 ho).1 (fun e => by have := (hr k e.symm).1; omega)).trans ho
      exact ⟨hI i A B row hs.1 hg hr', old _ _ (by omega) hs.2.1, old _ _ (by omega) hs.2.2⟩)
    (fun u A B row hs hg hr => by
      obtain ⟨c, hc, h1, h2⟩ := hs
      have hr' : ∀ r, row = some r → w.heap.size ≤ r ∧ ∃ o : Obj, A.heap[r]? = some o ∧ o.isCells = false := fun r e => ⟨by have := (hr r e).1; omega, (hr r e).2⟩
      have old : ∀ k o, k < D + 2 → A.heap[k]? = some o → B.heap[k]? = some o := fun k o hk ho =>
        (hg.block k (Array.getElem?_eq_some_iff.1 ho).1 (fun e => by have := (hr k e.symm).1; omega)).trans ho
      exact ⟨c, hIx c u A B row hc hg hr', old _ _ (by omega) h1, old _ _ (by omega) h2⟩)
    (fun i A hs => hin i A hs.1)
    (fun i x W hx hs => by
      obtain ⟨hi, hl, hd⟩ := hs
      have hlt := (Array.getElem?_eq_some_iff.1 hl).1
      have hy := run_yield (P := P) (args := encs x) hl (by rw [hmk]; exact hps x)
      rw [hmk] at hy
      refine ⟨fn, _, assign, body, hy, roundIn_of_wpIn hfn (hassign _ x W _ ⟨_, run_beginRound hl (by rw [hmk]), ?_⟩)⟩
      have hnb : (Obj.loop { mk .ready none with state := .busy }).isCells = false := rfl
      have hnl : (Obj.loop (mk .ready none)).isCells = false := rfl
      have hl2 : (W.putObj (D + 1) (.loop { mk .ready none with state := .busy })).heap[D + 1]? = some (.loop { mk .ready none with state := .busy }) := World.putObj_heap_same hlt
      have hd2 : (W.putObj (D + 1) (.loop { mk .ready none with state := .busy })).heap[D]? = some (.deferred (some [])) := (World.putObj_heap_other (by omega)).trans hd
      refine wpIn_mono (hbody (D + 1) i x _ hx (hI.putObj _ hi (by omega) hl rfl)) ?_
      -- how the round ends
      have fin : ∀ (j : Option Code) (W3 : World), KeepsFrom w.heap.size (W.putObj (D + 1) (.loop { mk .ready none with state := .busy })) W3 →
          (Instr.endRound (D + 1) j).run P W3 = .ok (.bool j.isNone) (W3.putObj (D + 1) (.loop (mk (if j.isNone then .ready else .done) j))) ∧
          W3.heap[D + 1]? = some (.loop { mk .ready none with state := .busy }) ∧
          (W3.putObj (D + 1) (.loop (mk (if j.isNone then .ready else .done) j))).heap[D + 1]? = some (.loop (mk (if j.isNone then .ready else .done) j)) ∧
          (W3.putObj (D + 1) (.loop (mk (if j.isNone then .ready else .done) j))).heap[D]? = some (.deferred (some [])) := by
        intro j W3 k3
        have h3 := k3.same _ _ (by omega) hl2 rfl
        have d3 := k3.same _ _ (by omega) hd2 rfl
        have h3lt := (Array.getElem?_eq_some_iff.1 h3).1
        have r3 := run_endRound (P := P) j h3
        rw [hmk] at r3
        refine ⟨by rw [hmk]; exact r3, h3, World.putObj_heap_same h3lt, (World.putObj_heap_other (by omega)).trans d3⟩
      have leave : ∀ (c : Code) (W3 : World), KeepsFrom w.heap.size (W.putObj (D + 1) (.loop { mk .ready none with state := .busy })) W3 → Ix c W3 →
          ∃ v W', (Instr.endRound (D + 1) (some c)).run P W3 = .ok v W' ∧
            ((Ending.returned v = .returned (.bool true) ∧ (I (i + 1) W' ∧ W'.heap[D + 1]? = some (.loop (mk .ready none)) ∧ W'.heap[D]? = some (.deferred (some []))) ∧ Kp own W1.heap.size W W') ∨
             (Ending.returned v = .returned (.bool false) ∧ (∃ c, Ix c W' ∧ W'.heap[D + 1]? = some (.loop (mk .done (some c))) ∧ W'.heap[D]? = some (.deferred (some []))) ∧ KeepsFrom W1.heap.size W W')) := by
        intro c W3 k3 hc
        obtain ⟨r, h3, h4, h5⟩ := fin (some c) W3 k3
        exact ⟨_, _, r, .inr ⟨rfl, ⟨c, (hIx c).putObj (s := ()) _ hc (by omega) h3 rfl, h4, h5⟩, keeps_beyond k3 (by omega) (by omega)⟩⟩
      rintro e a3 W3 hp
      cases e with
      | normal =>
        obtain ⟨kp3, hi3⟩ := hp
        obtain ⟨r, h3, h4, h5⟩ := fin none W3 kp3.from_
        refine ⟨_, _, r, .inl ⟨rfl, ⟨hI.putObj _ hi3 (by omega) h3 rfl, h4, h5⟩, ?_⟩⟩
        exact (kp_round hst (hin _ _ hi) (hin _ _ hi3) hl hnl hnb kp3 (by omega)).mono (by omega)
      | ret => exact leave .ret W3 hp.1 hp.2
      | exit id => exact leave (.exit id) W3 hp.1 hp.2
      | goto t => exact leave (.goto t) W3 hp.1 hp.2
      | panic ch => exact hp.elim
      | outgrown => exact hp.elim)
    ⟨I1, atL, atD⟩
  refine ⟨D + 1, [{ target := .collected D, args := #[] }], W1, { target := .fn (.func gf) lb, args := #[.func (.yield (D + 1)) #[] #[]] }, W1, gf, #[.func (.yield (D + 1)) #[] #[]] ++ lb, W1, ?_, ?_, ?_, ?_, (fun _ => by omega), ?_⟩
  · have := run_enterLoop_outer (P := P) (w := w) fn a.tmps ps assign body
    rw [hW1, hmk, hD]
    exact this
  · simp only [resolve, hg]
    simp [go_sem]
  · intro f' hf'
    simp [Target.leads] at hf'
    subst hf'
    trivial
  · simp [invoke, go_sem, eg]
  · refine (callsIn_wide.2 (callsIn_wide.1 hcall)).mono ?_
    rintro e W2 ⟨⟨v, rfl⟩, hend⟩
    rcases hend with ⟨hi, hl, hd⟩ | ⟨c, hi, hl, hd⟩
    · have r2 := run_endLoop (P := P) hl (by rw [hmk]; simp)
      have e2 : (mk .ready none).pending = none := by rw [hmk]
      rw [e2] at r2
      exact ⟨none, _, r2, hdone D _ (by omega) (hI.putObj _ hi (by omega) hl rfl) ((World.putObj_heap_other (by omega)).trans hd)⟩
    · have r2 := run_endLoop (P := P) hl (by rw [hmk]; simp)
      have e2 : (mk .done (some c)).pending = some c := by rw [hmk]
      rw [e2] at r2
      exact ⟨some c, _, r2, hstop D c _ (by omega) ((hIx c).putObj (s := ()) _ hi (by omega) hl rfl) ((World.putObj_heap_other (by omega)).trans hd)⟩

end Go.Proofs.YtllnpkijojpccaaDoor
