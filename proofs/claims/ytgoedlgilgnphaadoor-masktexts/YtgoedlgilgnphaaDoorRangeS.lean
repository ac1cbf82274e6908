/- A range over a function whose iterator keeps its state in a captured variable: what the iterator itself does between two rounds is a relation of worlds (Mv) that the loop's own word abides. The body goes on or returns. -/
import Derived.RangeFuncNested
import Derived.RangeFuncCalls
import Derived.RangeFuncLeaves
namespace Go.Proofs.YtgoedlgilgnphaaDoor
open Go Go.RowKit

/-- The loop's two blocks lie as they lay. -/
def Two (B : Nat) (W W' : World) : Prop := W'.heap[B]? = W.heap[B]? ∧ W'.heap[B + 1]? = W.heap[B + 1]?

/-- How a round may be left. -/
def statePost {α : Type} (B : Nat) (Kq : World → World → Prop) (I Ix : List α → World → Prop) (xs : List α) (W : World) : Exit → Act → World → Prop
  | .normal, _, W' => Two B W W' ∧ Kq W W' ∧ I xs W'
  | .ret, _, W' => Two B W W' ∧ Ix xs W'
  | _, _, _ => False

/-- What such an iterator does. -/
def SeqState {α : Type} (n : Nat) (P : Program) (gf : Nat) (lb : Array Value) (encs : α → Array Value) (Kq Mv : World → World → Prop) (S Sp : List α → Prop) (N : Nat) (w : World) : Prop :=
  ∀ (l : Nat) (J Jx : List α → World → Prop) (W : World), Below w.heap.size w W → (∀ s A B, J s A → Mv A B → J s B) → (∀ s A B, Jx s A → Mv A B → Jx s B) →
    (∀ pre x W1, J pre W1 → pre.length < N → YieldAt Fence.wide (n - 1) P l (encs x) W1 fun e W' =>
      (e = .returned (.bool true) ∧ J (pre ++ [x]) W' ∧ Kq W1 W') ∨ (e = .returned (.bool false) ∧ Jx (pre ++ [x]) W')) → J [] W →
    CallsIn Fence.wide n P gf (#[.func (.yield l) #[] #[]] ++ lb) W fun e W' => (∃ v, e = .returned v) ∧ ((∃ xs, S xs ∧ J xs W') ∨ (∃ pre, Sp pre ∧ Jx pre W'))

set_option maxHeartbeats 1000000 in
theorem range_state {P : Program} {n : Nat} (h1 : 1 ≤ n) {α : Type} {g : Operand} {ps : Array Tmp} {assign body : Code} {Q : Exit → Act → World → Prop} {a : Act} {w : World} {gf : Nat} {lb : Array Value}
    (hg : a.eval g = .func (.func gf) #[] lb) (eg : ∀ args w, (callFunc gf args).run P w = .ok (.enter gf args) w) {encs : α → Array Value} (hps : ∀ x, (encs x).size = ps.size) {S Sp : List α → Prop} {N : Nat} {Kq Mv : World → World → Prop}
    (hseq : SeqState (n - 1) P gf lb encs Kq Mv S Sp N w)
    (hMv : ∀ A B, Mv A B → ∀ k, w.heap.size ≤ k → k ≤ w.heap.size + 1 → B.heap[k]? = A.heap[k]?)
    (hKt : ∀ A B C, Kq A B → Kq B C → Kq A C) (hKp : ∀ W l o, w.heap.size ≤ l → Kq W (W.putObj l o))
    (I Ix : List α → World → Prop) (hI : ∀ s A B, I s A → Mv A B → I s B) (hIx : ∀ s A B, Ix s A → Mv A B → Ix s B)
    (hIp : ∀ s W l o, I s W → w.heap.size ≤ l → I s (W.putObj l o)) (hIxp : ∀ s W l o, Ix s W → w.heap.size ≤ l → Ix s (W.putObj l o))
    (h0 : ∀ o1 o2, I [] ((w.alloc o1).alloc o2)) (a₁ : α → Act)
    (hassign : ∀ (l : Nat) (x : α) (W : World) (K : Act → World → Prop), K (a₁ x) W →
      assign.wpIn (Fence.wide.inRound l) (n - 1 - 1) P (Exit.then K (fun _ _ _ => False)) { tmps := (ps.zip (encs x)).foldl (fun t (p, v) => t.setIfInBounds p v) a.tmps, defers := [] } W)
    (hbody : ∀ (l : Nat) (pre : List α) (x : α) (W : World), I pre W → pre.length < N → body.wpIn (Fence.wide.inRound l) (n - 1 - 1) P (statePost w.heap.size Kq I Ix (pre ++ [x]) W) (a₁ x) W)
    (hdone : ∀ (xs : List α) (W : World), S xs → I xs W → W.heap[w.heap.size]? = some (.deferred (some [])) → Q .normal { a with defers := { target := .collected w.heap.size, args := #[] } :: a.defers } W)
    (hstop : ∀ (pre : List α) (W : World), Sp pre → Ix pre W → W.heap[w.heap.size]? = some (.deferred (some [])) → Code.ret.wpIn Fence.wide n P Q { a with defers := { target := .collected w.heap.size, args := #[] } :: a.defers } W) :
    (Code.rangeFunc g ps assign body).wpIn Fence.wide n P Q a w := by
  refine wpIn_rangeFunc (fun fn hfn => ?_)
  have start := run_enterLoop_outer (P := P) (w := w) fn a.tmps ps assign body
  obtain ⟨rd, hrd⟩ : ∃ r : Loop, r = { state := .ready, pending := none, fn, tmps := a.tmps, params := ps, assign, body, defers := w.heap.size } := ⟨_, rfl⟩
  rw [← hrd] at start
  have s1 : rd.state = .ready := by rw [hrd]
  have s2 : rd.params = ps := by rw [hrd]
  have s3 : rd.tmps = a.tmps := by rw [hrd]
  have s4 : rd.fn = fn := by rw [hrd]
  have s5 : rd.assign = assign := by rw [hrd]
  have s6 : rd.body = body := by rw [hrd]
  have s7 : rd.pending = none := by rw [hrd]
  clear hrd
  have base : ((w.alloc (.deferred (some []))).alloc (.loop rd)).heap[w.heap.size + 1]? = some (.loop rd) := by
    have := World.alloc_heap_new (w.alloc (.deferred (some []))) (.loop rd)
    rwa [World.size_alloc] at this
  have base2 : ((w.alloc (.deferred (some []))).alloc (.loop rd)).heap[w.heap.size]? = some (.deferred (some [])) :=
    (Below.heap_alloc _ _ _ (by simp)).trans (World.alloc_heap_new w _)
  have hb : Below w.heap.size w ((w.alloc (.deferred (some []))).alloc (.loop rd)) := ((Below.refl _ w).alloc (Nat.le_refl _) _).alloc (by simp) _
  have hbeg := h0 (.deferred (some [])) (.loop rd)
  generalize (w.alloc (.deferred (some []))).alloc (.loop rd) = W1 at start base base2 hb hbeg
  refine ⟨w.heap.size + 1, [{ target := .collected w.heap.size, args := #[] }], W1, { target := .fn (.func gf) lb, args := #[.func (.yield (w.heap.size + 1)) #[] #[]] }, W1, gf,
    #[.func (.yield (w.heap.size + 1)) #[] #[]] ++ lb, W1, start, ?_, fun _ _ => trivial, ?_, fun _ => h1, ?_⟩
  · simp only [resolve, hg]
    simp [go_sem]
  · simp [invoke, go_sem, eg]
  · have key := hseq (w.heap.size + 1)
      (fun pre W => I pre W ∧ W.heap[w.heap.size + 1]? = some (.loop rd) ∧ W.heap[w.heap.size]? = some (.deferred (some [])))
      (fun pre W => Ix pre W ∧ W.heap[w.heap.size + 1]? = some (.loop { rd with state := .done, pending := some .ret }) ∧ W.heap[w.heap.size]? = some (.deferred (some [])))
      W1 hb
      (fun s A B h hm => ⟨hI s A B h.1 hm, (hMv A B hm _ (by omega) (by omega)).trans h.2.1, (hMv A B hm _ (by omega) (by omega)).trans h.2.2⟩)
      (fun s A B h hm => ⟨hIx s A B h.1 hm, (hMv A B hm _ (by omega) (by omega)).trans h.2.1, (hMv A B hm _ (by omega) (by omega)).trans h.2.2⟩)
      ?_ ⟨hbeg, base, base2⟩
    · refine key.mono ?_
      rintro e W2 ⟨⟨v, rfl⟩, (⟨xs, hS, hi, hl, hk⟩ | ⟨pre, hSp, hi, hl, hk⟩)⟩
      · refine ⟨rd.pending, _, run_endLoop (P := P) hl (by rw [s1]; simp), ?_⟩
        rw [s7]
        exact hdone xs _ hS (hIp _ _ _ _ hi (by omega)) ((World.putObj_heap_other (by omega)).trans hk)
      · refine ⟨some .ret, _, run_endLoop (P := P) hl (by simp), ?_⟩
        exact hstop pre _ hSp (hIxp _ _ _ _ hi (by omega)) ((World.putObj_heap_other (by omega)).trans hk)
    · rintro pre x W ⟨hi, hl, hk⟩ hlen
      have hlt : w.heap.size + 1 < W.heap.size := (Array.getElem?_eq_some_iff.1 hl).1
      have hy := run_yield (P := P) (args := encs x) hl (by rw [s2]; exact hps x)
      rw [s2, s3, s4, s5, s6] at hy
      refine ⟨fn, _, assign, body, hy, roundIn_of_wpIn hfn (hassign _ x W _ ⟨_, run_beginRound hl s1, ?_⟩)⟩
      have hl2 : (W.putObj (w.heap.size + 1) (.loop { rd with state := .busy })).heap[w.heap.size + 1]? = some (.loop { rd with state := .busy }) := World.putObj_heap_same hlt
      have hk2 : (W.putObj (w.heap.size + 1) (.loop { rd with state := .busy })).heap[w.heap.size]? = some (.deferred (some [])) := (World.putObj_heap_other (by omega)).trans hk
      refine wpIn_mono (hbody _ pre x _ (hIp _ _ _ _ hi (by omega)) hlen) ?_
      rintro e a3 W3 hp
      cases e with
      | normal =>
        obtain ⟨h2, hkq, hi3⟩ := hp
        have hl3 := h2.2.trans hl2
        have hr := run_endRound (P := P) none hl3
        have hlt3 := (Array.getElem?_eq_some_iff.1 hl3).1
        refine ⟨_, _, hr, .inl ⟨rfl, ⟨hIp _ _ _ _ hi3 (by omega), ?_, (World.putObj_heap_other (by omega)).trans (h2.1.trans hk2)⟩, hKt _ _ _ (hKp _ _ _ (by omega)) (hKt _ _ _ hkq (hKp _ _ _ (by omega)))⟩⟩
        rw [World.putObj_heap_same hlt3]
        congr 2
        cases rd
        simp_all
      | ret =>
        obtain ⟨h2, hi3⟩ := hp
        have hl3 := h2.2.trans hl2
        have hr := run_endRound (P := P) (some .ret) hl3
        have hlt3 := (Array.getElem?_eq_some_iff.1 hl3).1
        refine ⟨_, _, hr, .inr ⟨rfl, hIxp _ _ _ _ hi3 (by omega), ?_, (World.putObj_heap_other (by omega)).trans (h2.1.trans hk2)⟩⟩
        rw [World.putObj_heap_same hlt3]
        rfl
      | exit id => exact hp.elim
      | goto t => exact hp.elim
      | panic ch => exact hp.elim
      | outgrown => exact hp.elim

end Go.Proofs.YtgoedlgilgnphaaDoor
