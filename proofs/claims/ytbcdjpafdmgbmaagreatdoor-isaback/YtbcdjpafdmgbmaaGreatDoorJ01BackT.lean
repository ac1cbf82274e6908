/- Ranges over functions where an iterator ranges over another one: iterators told by places of a list, and the law of the loop. -/
/- Numbers as bytes, one way alone, and what bytes tell: plain lists. -/
import Derived.RangeFuncNested
import Derived.RangeFuncBound
import Derived.RangeFuncCalls
import Derived.RangeFuncLeaves
import Derived.Shelf.Abstract
import Derived.Shelf.RegionOpen
import Derived.WalkKit
import Derived.OwnWalkIn
import Derived.TacticsInMore
import Derived.LoopNIn
import Derived.LoopIn
import Derived.Test.YtbcdjpafdmgbmaaGreatDoorRows
namespace Go.Proofs.YtbcdjpafdmgbmaaGreatDoor
open Go.RowKit Go.Shelf

theorem RoundIn.deep {m m' : Nat} {P : Program} {l : Nat} {f : FuncId} {tmps : Array Value} {assign body : Code} {w : World} {R : Ending → World → Prop}
    (h : RoundIn Fence.wide m P l f tmps assign body w R) : RoundIn Fence.wide m' P l f tmps assign body w R := ⟨h.1, fun c cs _ => h.2 c cs (room_wide _)⟩
theorem YieldAt.deep {m m' : Nat} {P : Program} {l : Nat} {args : Array Value} {W : World} {R : Ending → World → Prop} (h : YieldAt Fence.wide m P l args W R) : YieldAt Fence.wide m' P l args W R := by
  obtain ⟨fn, tmps, assign, body, hy, hR⟩ := h
  exact ⟨fn, tmps, assign, body, hy, RoundIn.deep hR⟩

/-- What a round keeps: cells that are not the caller's own, and (from base on) what is no cells. -/
structure Kp (own : World → List Nat) (base : Nat) (A B : World) : Prop where
  from_ : KeepsFrom base A B
  cells : ∀ (k : Nat) (o : Obj), A.heap[k]? = some o → o.isCells = true → k ∉ own A → B.heap[k]? = some o
  safe : ∀ k, k < A.heap.size → k ∉ own A → k ∉ own B

/-- The caller's own blocks are there. -/
def OwnIn (own : World → List Nat) (A : World) : Prop := ∀ k ∈ own A, ∃ o : Obj, A.heap[k]? = some o ∧ o.isCells = true
/-- The caller's own blocks do not hang on what is no cells, nor on what is new. -/
def Stab (own : World → List Nat) : Prop :=
  ∀ (A B : World) (row : Option Nat), OwnIn own A → A.grownBy B row → (∀ r, row = some r → ∃ o : Obj, A.heap[r]? = some o ∧ o.isCells = false) → own B = own A
theorem Stab.put {own : World → List Nat} (h : Stab own) {A : World} {l : Nat} {o : Obj} (o' : Obj) (hA : OwnIn own A) (hl : A.heap[l]? = some o) (hn : o.isCells = false) : own (A.putObj l o') = own A :=
  h A _ (some l) hA (grownBy_putObj' A l o') (fun r e => by cases e; exact ⟨o, hl, hn⟩)
theorem stab_const (S : List Nat) : Stab (fun _ => S) := fun _ _ _ _ _ _ => rfl

/-- An iterator that tells the elements of q, one by one, or fewer, if a round says no. -/
def SeqR {α : Type} (P : Program) (own : World → List Nat) (g : Nat) (lb : Array Value) (encs : α → Array Value) (q : List α) (w : World) : Prop :=
  ∀ (l : Nat) (J : Nat → World → Prop) (Jx : World → Prop) (W : World), Below w.heap.size w W → l < W.heap.size → OwnFrom W.heap.size J → OwnFrom W.heap.size (fun (_ : Unit) => Jx) →
    (∀ i A, J i A → OwnIn own A) →
    (∀ i x W1, q[i]? = some x → J i W1 → YieldAt Fence.wide 9 P l (encs x) W1 fun e W' =>
      (e = .returned (.bool true) ∧ J (i + 1) W' ∧ Kp own W.heap.size W1 W') ∨ (e = .returned (.bool false) ∧ Jx W' ∧ KeepsFrom W.heap.size W1 W')) →
    J 0 W →
    CallsIn Fence.wide 9 P g (#[.func (.yield l) #[] #[]] ++ lb) W fun e W' => (∃ v, e = .returned v) ∧ (J q.length W' ∨ Jx W')

/-- How the body of a round may be left. -/
def rPost (own : World → List Nat) (B : Nat) (I : Nat → World → Prop) (Ix : Code → World → Prop) (i : Nat) (W : World) : Exit → Act → World → Prop
  | .normal, _, W' => Kp own B W W' ∧ I i W'
  | .ret, _, W' => KeepsFrom B W W' ∧ Ix .ret W'
  | .exit id, _, W' => KeepsFrom B W W' ∧ Ix (.exit id) W'
  | .goto t, _, W' => KeepsFrom B W W' ∧ Ix (.goto t) W'
  | .panic _, _, _ => False
  | .outgrown, _, _ => False

theorem Kp.mono {own : World → List Nat} {b b' : Nat} {A B : World} (h : Kp own b A B) (hb : b ≤ b') : Kp own b' A B :=
  ⟨⟨h.from_.size, fun k o hk => h.from_.same k o (Nat.le_trans hb hk)⟩, h.cells, h.safe⟩
theorem KeepsFrom.mono {b b' : Nat} {A B : World} (h : KeepsFrom b A B) (hb : b ≤ b') : KeepsFrom b' A B := ⟨h.size, fun k o hk => h.same k o (Nat.le_trans hb hk)⟩

/-- A round, seen from without: its record is as it was. -/
theorem keeps_round {b l : Nat} {A B : World} {o o1 : Obj} (hl : A.heap[l]? = some o) (h : KeepsFrom b (A.putObj l o1) B) (_ : b ≤ l) : KeepsFrom b A (B.putObj l o) := by
  have hlt := (Array.getElem?_eq_some_iff.1 hl).1
  have hsz := h.size
  rw [World.putObj_size] at hsz
  refine ⟨by rw [World.putObj_size]; exact hsz, fun k u hk hu hc => ?_⟩
  by_cases e : k = l
  · subst e
    rw [hl] at hu
    cases hu
    exact World.putObj_heap_same (by omega)
  · rw [World.putObj_heap_other e]
    exact h.same k u hk ((World.putObj_heap_other e).trans hu) hc
/-- The same, where the record does not end as it was: what lies beyond it. -/
theorem keeps_beyond {b l : Nat} {A B : World} {o1 o2 : Obj} (h : KeepsFrom b (A.putObj l o1) B) {b' : Nat} (hb : b ≤ b') (hl : l < b') : KeepsFrom b' A (B.putObj l o2) := by
  have hsz := h.size
  rw [World.putObj_size] at hsz
  refine ⟨by rw [World.putObj_size]; exact hsz, fun k u hk hu hc => ?_⟩
  rw [World.putObj_heap_other (by omega)]
  exact h.same k u (by omega) ((World.putObj_heap_other (by omega)).trans hu) hc

theorem kp_round {own : World → List Nat} (hst : Stab own) {b l : Nat} {A B : World} {o o1 : Obj} (hA : OwnIn own A) (hB' : OwnIn own B) (hl : A.heap[l]? = some o) (hn : o.isCells = false) (hn1 : o1.isCells = false) (h : Kp own b (A.putObj l o1) B) (hb : b ≤ l) : Kp own b A (B.putObj l o) := by
  have hlt := (Array.getElem?_eq_some_iff.1 hl).1
  have hB : B.heap[l]? = some o1 := h.from_.same l o1 hb (World.putObj_heap_same hlt) hn1
  have e1 : own (A.putObj l o1) = own A := hst.put o1 hA hl hn
  have e2 : own (B.putObj l o) = own B := hst.put o hB' hB hn1
  refine ⟨keeps_round hl h.from_ hb, fun k u hu hc hk => ?_, fun k hk hs => ?_⟩
  · have e : k ≠ l := by
      rintro rfl
      rw [hl] at hu
      cases hu
      rw [hn] at hc
      cases hc
    rw [World.putObj_heap_other e]
    exact h.cells k u ((World.putObj_heap_other e).trans hu) hc (by rw [e1]; exact hk)
  · rw [e2]
    exact h.safe k (by rw [World.putObj_size]; exact hk) (by rw [e1]; exact hs)

/-- The loop. -/
theorem wp_range {α : Type} {P : Program} {own : World → List Nat} (hst : Stab own) {q : List α} {encs : α → Array Value} {g : Operand} {ps : Array Tmp} {assign body : Code} {Q : Exit → Act → World → Prop} {a : Act} {w w0 : World} {gf : Nat} {lb : Array Value}
    (hg : a.eval g = .func (.func gf) #[] lb) (eg : ∀ args w, (callFunc gf args).run P w = .ok (.enter gf args) w)
    (hseq : SeqR P own gf lb encs q w0) (hb0 : Below w0.heap.size w0 w) (hps : ∀ x, (encs x).size = ps.size)
    (I : Nat → World → Prop) (Ix : Code → World → Prop) (hI : OwnFrom w.heap.size I) (hIx : ∀ c, OwnFrom w.heap.size (fun (_ : Unit) => Ix c)) (hin : ∀ i A, I i A → OwnIn own A) (h0 : I 0 w) (a₁ : α → Act)
    (hassign : ∀ (l : Nat) (x : α) (W : World) (K : Act → World → Prop), K (a₁ x) W →
      assign.wpIn (Fence.wide.inRound l) 9 P (Exit.then K (fun _ _ _ => False)) { tmps := (ps.zip (encs x)).foldl (fun t (p, v) => t.setIfInBounds p v) a.tmps, defers := [] } W)
    (hbody : ∀ (l i : Nat) (x : α) (W : World), q[i]? = some x → I i W → body.wpIn (Fence.wide.inRound l) 9 P (rPost own w.heap.size I Ix (i + 1) W) (a₁ x) W)
    (hdone : ∀ (D : Nat) (W : World), w.heap.size ≤ D → I q.length W → W.heap[D]? = some (.deferred (some [])) → Q .normal { a with defers := { target := .collected D, args := #[] } :: a.defers } W)
    (hstop : ∀ (D : Nat) (c : Code) (W : World), w.heap.size ≤ D → Ix c W → W.heap[D]? = some (.deferred (some [])) → c.wpIn Fence.wide 9 P Q { a with defers := { target := .collected D, args := #[] } :: a.defers } W) :
    (Code.rangeFunc g ps assign body).wpIn Fence.wide 9 P Q a w := by
  refine wpIn_rangeFunc fun fn hfn => ?_
  -- two new blocks: D for deferred calls, and the record behind it
  obtain ⟨D, hD⟩ : ∃ D, D = w.heap.size := ⟨_, rfl⟩
  obtain ⟨mk, hmk⟩ : ∃ mk : LoopState → Option Code → Loop, mk = fun s p => { state := s, pending := p, fn := fn, tmps := a.tmps, params := ps, assign := assign, body := body, defers := D } := ⟨_, rfl⟩
  obtain ⟨W1, hW1⟩ : ∃ W1, W1 = (w.alloc (.deferred (some []))).alloc (.loop (mk .ready none)) := ⟨_, rfl⟩
  have bel : Below w.heap.size w W1 := by
    rw [hW1]
    exact ((Below.refl _ w).alloc (Nat.le_refl _) _).alloc (by simp) _
  have sz : W1.heap.size = D + 2 := by rw [hW1, hD]; simp
  have atD : W1.heap[D]? = some (.deferred (some [])) := by
    rw [hW1, hD]
    exact (Below.heap_alloc _ _ _ (by simp)).trans (World.alloc_heap_new w _)
  have atL : W1.heap[D + 1]? = some (.loop (mk .ready none)) := by
    have := World.alloc_heap_new (w.alloc (.deferred (some []))) (.loop (mk .ready none))
    rw [World.size_alloc, ← hD, ← hW1] at this
    exact this
  have I1 : I 0 W1 := by rw [hW1]; exact hI.alloc _ (hI.alloc _ h0)
  have hcall := hseq (D + 1)
    (fun i W => I i W ∧ W.heap[D + 1]? = some (.loop (mk .ready none)) ∧ W.heap[D]? = some (.deferred (some [])))
    (fun W => ∃ c, Ix c W ∧ W.heap[D + 1]? = some (.loop (mk .done (some c))) ∧ W.heap[D]? = some (.deferred (some [])))
    W1 (hb0.trans (bel.mono hb0.size)) (by omega)
    (fun i A B row hs hg hr => by
      have hr' : ∀ r, row = some r → w.heap.size ≤ r ∧ ∃ o : Obj, A.heap[r]? = some o ∧ o.isCells = false := fun r e => ⟨by have := (hr r e).1; omega, (hr r e).2⟩
      have old : ∀ k o, k < D + 2 → A.heap[k]? = some o → B.heap[k]? = some o := fun k o hk ho =>
        (hg.block k (Array.getElem?_eq_some_iff.1 ho).1 (fun e => by have := (hr k e.symm).1; omega)).trans ho
      exact ⟨hI i A B row hs.1 hg hr', old _ _ (by omega) hs.2.1, old _ _ (by omega) hs.2.2⟩)
    (fun u A B row hs hg hr => by
      obtain ⟨c, hc, h1, h2⟩ := hs
      have hr' : ∀ r, row = some r → w.heap.size ≤ r ∧ ∃ o : Obj, A.heap[r]? = some o ∧ o.isCells = false := fun r e => ⟨by have := (hr r e).1; omega, (hr r e).2⟩
      have old : ∀ k o, k < D + 2 → A.heap[k]? = some o → B.heap[k]? = some o := fun k o hk ho =>
        (hg.block k (Array.getElem?_eq_some_iff.1 ho).1 (fun e => by have := (hr k e.symm).1; omega)).trans ho
      exact ⟨c, hIx c u A B row hc hg hr', old _ _ (by omega) h1, old _ _ (by omega) h2⟩)
    (fun i A hs => hin i A hs.1)
    (fun i x W hx hs => by
      obtain ⟨hi, hl, hd⟩ := hs
      have hlt := (Array.getElem?_eq_some_iff.1 hl).1
      have hy := run_yield (P := P) (args := encs x) hl (by rw [hmk]; exact hps x)
      rw [hmk] at hy
      refine ⟨fn, _, assign, body, hy, roundIn_of_wpIn hfn (hassign _ x W _ ⟨_, run_beginRound hl (by rw [hmk]), ?_⟩)⟩
      have hnb : (Obj.loop { mk .ready none with state := .busy }).isCells = false := rfl
      have hnl : (Obj.loop (mk .ready none)).isCells = false := rfl
      have hl2 : (W.putObj (D + 1) (.loop { mk .ready none with state := .busy })).heap[D + 1]? = some (.loop { mk .ready none with state := .busy }) := World.putObj_heap_same hlt
      have hd2 : (W.putObj (D + 1) (.loop { mk .ready none with state := .busy })).heap[D]? = some (.deferred (some [])) := (World.putObj_heap_other (by omega)).trans hd
      refine wpIn_mono (hbody (D + 1) i x _ hx (hI.putObj _ hi (by omega) hl rfl)) ?_
      -- how the round ends
      have fin : ∀ (j : Option Code) (W3 : World), KeepsFrom w.heap.size (W.putObj (D + 1) (.loop { mk .ready none with state := .busy })) W3 →
          (Instr.endRound (D + 1) j).run P W3 = .ok (.bool j.isNone) (W3.putObj (D + 1) (.loop (mk (if j.isNone then .ready else .done) j))) ∧
          W3.heap[D + 1]? = some (.loop { mk .ready none with state := .busy }) ∧
          (W3.putObj (D + 1) (.loop (mk (if j.isNone then .ready else .done) j))).heap[D + 1]? = some (.loop (mk (if j.isNone then .ready else .done) j)) ∧
          (W3.putObj (D + 1) (.loop (mk (if j.isNone then .ready else .done) j))).heap[D]? = some (.deferred (some [])) := by
        intro j W3 k3
        have h3 := k3.same _ _ (by omega) hl2 rfl
        have d3 := k3.same _ _ (by omega) hd2 rfl
        have h3lt := (Array.getElem?_eq_some_iff.1 h3).1
        have r3 := run_endRound (P := P) j h3
        rw [hmk] at r3
        refine ⟨by rw [hmk]; exact r3, h3, World.putObj_heap_same h3lt, (World.putObj_heap_other (by omega)).trans d3⟩
      have leave : ∀ (c : Code) (W3 : World), KeepsFrom w.heap.size (W.putObj (D + 1) (.loop { mk .ready none with state := .busy })) W3 → Ix c W3 →
          ∃ v W', (Instr.endRound (D + 1) (some c)).run P W3 = .ok v W' ∧
            ((Ending.returned v = .returned (.bool true) ∧ (I (i + 1) W' ∧ W'.heap[D + 1]? = some (.loop (mk .ready none)) ∧ W'.heap[D]? = some (.deferred (some []))) ∧ Kp own W1.heap.size W W') ∨
             (Ending.returned v = .returned (.bool false) ∧ (∃ c, Ix c W' ∧ W'.heap[D + 1]? = some (.loop (mk .done (some c))) ∧ W'.heap[D]? = some (.deferred (some []))) ∧ KeepsFrom W1.heap.size W W')) := by
        intro c W3 k3 hc
        obtain ⟨r, h3, h4, h5⟩ := fin (some c) W3 k3
        exact ⟨_, _, r, .inr ⟨rfl, ⟨c, (hIx c).putObj (s := ()) _ hc (by omega) h3 rfl, h4, h5⟩, keeps_beyond k3 (by omega) (by omega)⟩⟩
      rintro e a3 W3 hp
      cases e with
      | normal =>
        obtain ⟨kp3, hi3⟩ := hp
        obtain ⟨r, h3, h4, h5⟩ := fin none W3 kp3.from_
        refine ⟨_, _, r, .inl ⟨rfl, ⟨hI.putObj _ hi3 (by omega) h3 rfl, h4, h5⟩, ?_⟩⟩
        exact (kp_round hst (hin _ _ hi) (hin _ _ hi3) hl hnl hnb kp3 (by omega)).mono (by omega)
      | ret => exact leave .ret W3 hp.1 hp.2
      | exit id => exact leave (.exit id) W3 hp.1 hp.2
      | goto t => exact leave (.goto t) W3 hp.1 hp.2
      | panic ch => exact hp.elim
      | outgrown => exact hp.elim)
    ⟨I1, atL, atD⟩
  refine ⟨D + 1, [{ target := .collected D, args := #[] }], W1, { target := .fn (.func gf) lb, args := #[.func (.yield (D + 1)) #[] #[]] }, W1, gf, #[.func (.yield (D + 1)) #[] #[]] ++ lb, W1, ?_, ?_, ?_, ?_, (fun _ => by omega), ?_⟩
  · have := run_enterLoop_outer (P := P) (w := w) fn a.tmps ps assign body
    rw [hW1, hmk, hD]
    exact this
  · simp only [resolve, hg]
    simp [go_sem]
  · intro f' hf'
    simp [Target.leads] at hf'
    subst hf'
    trivial
  · simp [invoke, go_sem, eg]
  · refine (callsIn_wide.2 (callsIn_wide.1 hcall)).mono ?_
    rintro e W2 ⟨⟨v, rfl⟩, hend⟩
    rcases hend with ⟨hi, hl, hd⟩ | ⟨c, hi, hl, hd⟩
    · have r2 := run_endLoop (P := P) hl (by rw [hmk]; simp)
      have e2 : (mk .ready none).pending = none := by rw [hmk]
      rw [e2] at r2
      exact ⟨none, _, r2, hdone D _ (by omega) (hI.putObj _ hi (by omega) hl rfl) ((World.putObj_heap_other (by omega)).trans hd)⟩
    · have r2 := run_endLoop (P := P) hl (by rw [hmk]; simp)
      have e2 : (mk .done (some c)).pending = some c := by rw [hmk]
      rw [e2] at r2
      exact ⟨some c, _, r2, hstop D c _ (by omega) ((hIx c).putObj (s := ()) _ hi (by omega) hl rfl) ((World.putObj_heap_other (by omega)).trans hd)⟩

end Go.Proofs.YtbcdjpafdmgbmaaGreatDoor
namespace Go.Proofs.YtbcdjpafdmgbmaaGreatDoor

/-- The bytes of a number, at most so many and one. -/
def numF : Nat → Nat → List UInt8
  | 0, n => [UInt8.ofNat n]
  | k + 1, n => if n < 128 then [UInt8.ofNat n] else UInt8.ofNat (n % 128 + 128) :: numF k (n / 128)
def numL (n : Nat) : List UInt8 := numF 10 n

theorem numF_small {k n : Nat} (h : n < 128) : numF k n = [UInt8.ofNat n] := by
  cases k with
  | zero => rfl
  | succ k => simp [numF, h]
theorem numF_great {k n : Nat} (h : ¬ n < 128) : numF (k + 1) n = UInt8.ofNat (n % 128 + 128) :: numF k (n / 128) := by simp [numF, h]
theorem numF_len : ∀ (k n : Nat), (numF k n).length ≤ k + 1
  | 0, n => by simp [numF]
  | k + 1, n => by
    by_cases h : n < 128
    · simp [numF, h]
    · rw [numF_great h]
      have := numF_len k (n / 128)
      simp only [List.length_cons]
      omega
theorem numL_len (n : Nat) : (numL n).length ≤ 11 := numF_len 10 n
theorem numF_pos (k n : Nat) : 0 < (numF k n).length := by
  cases k with
  | zero => simp [numF]
  | succ k =>
    by_cases h : n < 128
    · simp [numF, h]
    · rw [numF_great h]
      simp

theorem u8_small {n : Nat} (h : n < 256) : (UInt8.ofNat n).toNat = n := by
  rw [UInt8.toNat_ofNat']
  omega

/-- A byte that may not stand there. -/
def badB (sh : Nat) (c : UInt8) : Bool := (decide (0 < sh) && decide (c.toNat = 0)) || (decide (sh = 63) && decide (1 < c.toNat))

/-- What bytes tell of a number: an error, the number, the bytes behind it. -/
def numG (sh acc : Nat) : List UInt8 → Nat × Nat × List UInt8
  | [] => (9, 0, [])
  | c :: t => if badB sh c then (10, 0, []) else if c.toNat < 128 then (0, acc + c.toNat * 2 ^ sh, t) else numG (sh + 7) (acc + c.toNat % 128 * 2 ^ sh) t

theorem numG_nil (sh acc : Nat) : numG sh acc [] = (9, 0, []) := rfl
theorem numG_bad {sh acc : Nat} {c : UInt8} {t : List UInt8} (h : badB sh c = true) : numG sh acc (c :: t) = (10, 0, []) := by simp [numG, h]
theorem numG_last {sh acc : Nat} {c : UInt8} {t : List UInt8} (h : badB sh c = false) (k : c.toNat < 128) : numG sh acc (c :: t) = (0, acc + c.toNat * 2 ^ sh, t) := by simp [numG, h, k]
theorem numG_more {sh acc : Nat} {c : UInt8} {t : List UInt8} (h : badB sh c = false) (k : ¬ c.toNat < 128) : numG sh acc (c :: t) = numG (sh + 7) (acc + c.toNat % 128 * 2 ^ sh) t := by simp [numG, h, k]

theorem badB_no {sh : Nat} {c : UInt8} (h0 : 0 < sh → c.toNat ≠ 0) (h1 : sh = 63 → c.toNat ≤ 1) : badB sh c = false := by
  unfold badB
  simp
  exact ⟨h0, h1⟩
theorem badB_out {sh : Nat} {c : UInt8} (h : badB sh c = false) : (0 < sh → c.toNat ≠ 0) ∧ (sh = 63 → c.toNat ≤ 1) := by
  unfold badB at h
  simp at h
  exact h

/-- What was put is got. -/
theorem numG_of (t : List UInt8) : ∀ (k i n acc : Nat), k + i = 9 → n < 2 ^ (64 - 7 * i) → (0 < i → 0 < n) → numG (7 * i) acc (numF k n ++ t) = (0, acc + n * 2 ^ (7 * i), t)
  | 0, i, n, acc, hk, hn, hp => by
    obtain rfl : i = 9 := by omega
    have h2 : n < 2 := hn
    have e : (UInt8.ofNat n).toNat = n := u8_small (by omega)
    show numG _ acc (UInt8.ofNat n :: t) = _
    rw [numG_last (badB_no (by rw [e]; intro _; have := hp (by omega); omega) (by rw [e]; omega)) (by rw [e]; omega), e]
  | k + 1, i, n, acc, hk, hn, hp => by
    by_cases h : n < 128
    · rw [numF_small h]
      have e : (UInt8.ofNat n).toNat = n := u8_small (by omega)
      show numG _ acc (UInt8.ofNat n :: t) = _
      rw [numG_last (badB_no (by rw [e]; intro h0; have := hp (by omega); omega) (by omega)) (by rw [e]; omega), e]
    · rw [numF_great h]
      have e : (UInt8.ofNat (n % 128 + 128)).toNat = n % 128 + 128 := u8_small (by omega)
      show numG _ acc (UInt8.ofNat (n % 128 + 128) :: (numF k (n / 128) ++ t)) = _
      rw [numG_more (badB_no (by rw [e]; omega) (by omega)) (by rw [e]; omega), e]
      have e7 : 7 * i + 7 = 7 * (i + 1) := by omega
      rw [e7, numG_of t k (i + 1) (n / 128) _ (by omega) ?_ (by omega)]
      · have hp2 : 2 ^ (7 * (i + 1)) = 128 * 2 ^ (7 * i) := by rw [← e7, Nat.pow_add]; omega
        rw [hp2]
        have hd := Nat.div_add_mod n 128
        have e3 : (n % 128 + 128) % 128 = n % 128 := by omega
        rw [e3]
        congr 2
        have : n * 2 ^ (7 * i) = (128 * (n / 128) + n % 128) * 2 ^ (7 * i) := by rw [hd]
        rw [this, Nat.add_mul, Nat.mul_assoc 128, ← Nat.mul_assoc (n / 128), Nat.mul_comm (n / 128) 128, Nat.mul_assoc 128]
        omega
      · have hq : 64 - 7 * i = 64 - 7 * (i + 1) + 7 := by omega
        rw [hq, Nat.pow_add] at hn
        exact Nat.div_lt_of_lt_mul (by omega)

theorem numF_more : ∀ (k n : Nat), n < 128 ^ (k + 1) → numF (k + 1) n = numF k n
  | 0, n, h => by
    rw [numF_small (by omega)]
    rfl
  | k + 1, n, h => by
    by_cases hn : n < 128
    · rw [numF_small hn, numF_small hn]
    · rw [numF_great hn, numF_great hn, numF_more k (n / 128) (Nat.div_lt_of_lt_mul (by rw [Nat.pow_succ] at h; omega))]
theorem numL_nine {n : Nat} (h : n < 2 ^ 64) : numL n = numF 9 n := numF_more 9 n (by omega)
theorem numG_put {n : Nat} (h : n < 2 ^ 64) (t : List UInt8) : numG 0 0 (numL n ++ t) = (0, n, t) := by
  rw [numL_nine h]
  have := numG_of t 9 0 n 0 rfl (by simpa using h) (by omega)
  simpa using this

/-- Any bytes that are a number are that number's. -/
theorem numG_is : ∀ (x t : List UInt8) (k i acc N : Nat), k + i = 9 → numG (7 * i) acc x = (0, N, t) → ∃ m, N = acc + m * 2 ^ (7 * i) ∧ x = numF k m ++ t ∧ m < 2 ^ (64 - 7 * i) ∧ (0 < i → 0 < m)
  | [], t, k, i, acc, N, hk, h => by simp [numG] at h
  | c :: x, t, k, i, acc, N, hk, h => by
    cases hb : badB (7 * i) c with
    | true =>
      rw [numG_bad hb] at h
      simp at h
    | false =>
      obtain ⟨b0, b1⟩ := badB_out hb
      by_cases hc : c.toNat < 128
      · rw [numG_last hb hc] at h
        simp only [Prod.mk.injEq, true_and] at h
        obtain ⟨rfl, rfl⟩ := h
        refine ⟨c.toNat, rfl, by rw [numF_small hc]; simp, ?_, fun hi => by have := b0 (by omega); omega⟩
        by_cases h9 : i = 9
        · subst h9
          have := b1 (by omega)
          show c.toNat < 2
          omega
        · have : 2 ^ 7 ≤ 2 ^ (64 - 7 * i) := Nat.pow_le_pow_right (by omega) (by omega)
          omega
      · rw [numG_more hb hc] at h
        have h9 : i ≠ 9 := fun e => by have := b1 (by omega); omega
        obtain ⟨k', rfl⟩ : ∃ k', k = k' + 1 := ⟨k - 1, by omega⟩
        have e7 : 7 * i + 7 = 7 * (i + 1) := by omega
        rw [e7] at h
        obtain ⟨m, hN, hx, hm, hp⟩ := numG_is x t k' (i + 1) _ N (by omega) h
        have hc2 : c.toNat < 256 := c.toNat_lt
        have hm0 := hp (by omega)
        have hd : (c.toNat % 128 + 128 * m) / 128 = m := by omega
        have hr : (c.toNat % 128 + 128 * m) % 128 = c.toNat % 128 := by omega
        refine ⟨c.toNat % 128 + 128 * m, ?_, ?_, ?_, fun _ => by omega⟩
        · have hp2 : 2 ^ (7 * (i + 1)) = 128 * 2 ^ (7 * i) := by rw [← e7, Nat.pow_add]; omega
          rw [hN, hp2, Nat.add_mul, ← Nat.mul_assoc, Nat.mul_comm m 128]
          omega
        · rw [numF_great (by omega), hd, hr]
          have hc3 : c.toNat % 128 + 128 = c.toNat := by omega
          rw [hc3, hx]
          simp
        · have hq : 64 - 7 * i = 64 - 7 * (i + 1) + 7 := by omega
          rw [hq, Nat.pow_add]
          omega

theorem numG_back {x t : List UInt8} {n : Nat} (h : numG 0 0 x = (0, n, t)) : x = numL n ++ t ∧ n < 2 ^ 64 := by
  obtain ⟨m, hN, hx, hm, _⟩ := numG_is x t 9 0 0 n rfl h
  simp at hN hm
  subst hN
  exact ⟨by rw [numL_nine (by omega)]; exact hx, by omega⟩

theorem numG_err : ∀ (x : List UInt8) (sh acc : Nat), (numG sh acc x).1 ≠ 0 → (numG sh acc x).2 = (0, [])
  | [], sh, acc, _ => rfl
  | c :: x, sh, acc, h => by
    cases hb : badB sh c with
    | true => rw [numG_bad hb]
    | false =>
      by_cases hc : c.toNat < 128
      · rw [numG_last hb hc] at h
        exact absurd rfl h
      · rw [numG_more hb hc] at h ⊢
        exact numG_err x _ _ h
theorem numG_e : ∀ (x : List UInt8) (sh acc : Nat), (numG sh acc x).1 = 0 ∨ (numG sh acc x).1 = 9 ∨ (numG sh acc x).1 = 10
  | [], sh, acc => .inr (.inl rfl)
  | c :: x, sh, acc => by
    cases hb : badB sh c with
    | true => rw [numG_bad hb]; exact .inr (.inr rfl)
    | false =>
      by_cases hc : c.toNat < 128
      · rw [numG_last hb hc]; exact .inl rfl
      · rw [numG_more hb hc]
        exact numG_e x _ _
theorem numG_short : ∀ (x : List UInt8) (sh acc : Nat), (numG sh acc x).2.2.length ≤ x.length
  | [], sh, acc => by simp [numG]
  | c :: x, sh, acc => by
    cases hb : badB sh c with
    | true => rw [numG_bad hb]; simp
    | false =>
      by_cases hc : c.toNat < 128
      · rw [numG_last hb hc]; simp
      · rw [numG_more hb hc]
        have := numG_short x (sh + 7) (acc + c.toNat % 128 * 2 ^ sh)
        simp only [List.length_cons]
        omega

/-- An int as a number, and back. -/
def zigN (i : Int) : Nat := if i < 0 then 2 * (-i - 1).toNat + 1 else 2 * i.toNat
def unzig (u : Nat) : Int := if u % 2 = 1 then -((u / 2 : Nat) : Int) - 1 else ((u / 2 : Nat) : Int)
theorem unzig_zig (i : Int) : unzig (zigN i) = i := by
  unfold unzig zigN
  split <;> split <;> omega
theorem zig_unzig (u : Nat) : zigN (unzig u) = u := by
  unfold unzig zigN
  split <;> split <;> omega
theorem zigN_lt {i : Int} (h1 : -9223372036854775808 ≤ i) (h2 : i ≤ 9223372036854775807) : zigN i < 2 ^ 64 := by
  unfold zigN
  split <;> omega
theorem unzig_in {u : Nat} (h : u < 2 ^ 64) : -9223372036854775808 ≤ unzig u ∧ unzig u ≤ 9223372036854775807 := by
  unfold unzig
  split <;> omega

def intsF (xs : List Int) : List UInt8 := xs.flatMap (fun i => numL (zigN i))
def intsL (xs : List Int) : List UInt8 := numL xs.length ++ intsF xs
theorem intsF_cons (x : Int) (xs : List Int) : intsF (x :: xs) = numL (zigN x) ++ intsF xs := rfl
theorem intsF_app (xs ys : List Int) : intsF (xs ++ ys) = intsF xs ++ intsF ys := by simp [intsF]
theorem intsF_len : ∀ xs : List Int, (intsF xs).length ≤ 11 * xs.length
  | [] => by simp [intsF]
  | x :: xs => by
    rw [intsF_cons, List.length_append, List.length_cons]
    have := intsF_len xs
    have := numL_len (zigN x)
    omega

/-- What bytes tell, by what is asked: an error, the value, the bytes behind it. -/
def numT (most : Nat) (bs : List UInt8) : Nat × Nat × List UInt8 :=
  let r := numG 0 0 bs
  if r.1 = 0 then (if most < r.2.1 then (8, 0, []) else r) else r
def intT (least most : Int) (bs : List UInt8) : Nat × Int × List UInt8 :=
  let r := numG 0 0 bs
  if r.1 = 0 then (if unzig r.2.1 < least ∨ most < unzig r.2.1 then (8, 0, []) else (0, unzig r.2.1, r.2.2)) else (r.1, 0, [])
/-- How many may follow. -/
def upN (most : Int) : Nat := most.toNat
def textT (most : Int) (bs : List UInt8) : Nat × List UInt8 × List UInt8 :=
  let r := numT (upN most) bs
  if r.1 = 0 then (if r.2.2.length < r.2.1 then (9, [], []) else (0, r.2.2.take r.2.1, r.2.2.drop r.2.1)) else (r.1, [], [])
def byteT : List UInt8 → Nat × UInt8 × List UInt8
  | [] => (9, 0, [])
  | c :: t => (0, c, t)
def flagT : List UInt8 → Nat × Bool × List UInt8
  | [] => (9, false, [])
  | c :: t => if 1 < c.toNat then (10, false, []) else (0, decide (c.toNat = 1), t)
def intsG (least most : Int) : Nat → List UInt8 → Nat × List Int × List UInt8
  | 0, bs => (0, [], bs)
  | n + 1, bs =>
    let r := intT least most bs
    if r.1 = 0 then
      let q := intsG least most n r.2.2
      if q.1 = 0 then (0, r.2.1 :: q.2.1, q.2.2) else (q.1, [], [])
    else (r.1, [], [])
def intsT (count least most : Int) (bs : List UInt8) : Nat × List Int × List UInt8 :=
  let r := numT (upN count) bs
  if r.1 = 0 then intsG least most r.2.1 r.2.2 else (r.1, [], [])

/-- A source: its error, and the bytes that are left. -/
def getS {α : Type} (f : List UInt8 → Nat × α × List UInt8) (z : α) (st : Nat × List UInt8) : α × Nat × List UInt8 :=
  if st.1 = 0 then ((f st.2).2.1, (f st.2).1, (f st.2).2.2) else (z, st)

end Go.Proofs.YtbcdjpafdmgbmaaGreatDoor
