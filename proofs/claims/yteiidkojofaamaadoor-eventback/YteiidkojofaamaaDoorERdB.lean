/- Events of bytes, plain: put and read again, read and put again. -/
import Derived.Test.YteiidkojofaamaaDoorERd
namespace Go.Proofs.YteiidkojofaamaaDoor
open Go

/-- Numbers set, one behind the other. -/
def setL : Ev → List Nat → List Int → Ev
  | e, k :: q, v :: vs => setL (eset e k v) q vs
  | e, _, _ => e
theorem fillN_put {M : Nat} : ∀ (q : List Nat) (vs : List Int) (e : Ev) (t : List UInt8), q.length = vs.length → (∀ v ∈ vs, 0 ≤ v ∧ v.toNat ≤ M ∧ v.toNat < 2 ^ 63) → fillN M q e (0, vs.flatMap numI ++ t) = (setL e q vs, (0, t))
  | [], [], e, t, _, _ => rfl
  | k :: q, v :: vs, e, t, hl, h => by
    obtain ⟨h1, h2, h3⟩ := h v (by simp)
    unfold fillN
    rw [List.flatMap_cons, List.append_assoc, gC_put h1 h2 h3]
    exact fillN_put q vs (eset e k v) t (by simpa using hl) (fun x hx => h x (by simp [hx]))
theorem fillI_put : ∀ (q : List Nat) (vs : List Int) (e : Ev) (t : List UInt8), q.length = vs.length → (∀ v ∈ vs, -9223372036854775808 ≤ v ∧ v ≤ 9223372036854775807) → fillI q e (0, intsF vs ++ t) = (setL e q vs, (0, t))
  | [], [], e, t, _, _ => rfl
  | k :: q, v :: vs, e, t, hl, h => by
    unfold fillI
    rw [intsF_cons, List.append_assoc, gI_put (h v (by simp))]
    exact fillI_put q vs (eset e k v) t (by simpa using hl) (fun x hx => h x (by simp [hx]))
/-- The values that are read. -/
def valsN (M : Nat) : List Nat → St → List Int
  | [], _ => []
  | _ :: q, st => (gC M st).1 :: valsN M q (gC M st).2
def valsI : List Nat → St → List Int
  | [], _ => []
  | _ :: q, st => (gI st).1 :: valsI q (gI st).2
theorem fillN_vals {M : Nat} : ∀ (q : List Nat) (e : Ev) (st : St), (fillN M q e st).1 = setL e q (valsN M q st)
  | [], _, _ => rfl
  | k :: q, e, st => fillN_vals q (eset e k (gC M st).1) (gC M st).2
theorem fillI_vals : ∀ (q : List Nat) (e : Ev) (st : St), (fillI q e st).1 = setL e q (valsI q st)
  | [], _, _ => rfl
  | k :: q, e, st => fillI_vals q (eset e k (gI st).1) (gI st).2
theorem fillN_back {M : Nat} : ∀ (q : List Nat) (e : Ev) (st : St) (r : List UInt8), (fillN M q e st).2 = (0, r) → (∀ v ∈ valsN M q st, v < 9223372036854775807) → st = (0, (valsN M q st).flatMap numI ++ r)
  | [], e, st, r, h, _ => h
  | k :: q, e, st, r, h, hv => by
    have ih := fillN_back q (eset e k (gC M st).1) (gC M st).2 r h (fun v hx => hv v (by unfold valsN; simp [hx]))
    have hb := (gC_back (M := M) (st := st) (n := (gC M st).1) (t := (valsN M q (gC M st).2).flatMap numI ++ r) (by rw [← ih]) (hv _ (by unfold valsN; simp))).1
    unfold valsN
    rw [List.flatMap_cons, List.append_assoc]
    exact hb
theorem fillI_back : ∀ (q : List Nat) (e : Ev) (st : St) (r : List UInt8), (fillI q e st).2 = (0, r) → st = (0, intsF (valsI q st) ++ r)
  | [], e, st, r, h => h
  | k :: q, e, st, r, h => by
    have ih := fillI_back q (eset e k (gI st).1) (gI st).2 r h
    have hb := (gI_back (st := st) (n := (gI st).1) (t := intsF (valsI q (gI st).2) ++ r) (by rw [← ih])).1
    unfold valsI
    rw [intsF_cons, List.append_assoc]
    exact hb
theorem valsI_in : ∀ (q : List Nat) (st : St), ∀ v ∈ valsI q st, -9223372036854775808 ≤ v ∧ v ≤ 9223372036854775807
  | [], _, v, h => by simp [valsI] at h
  | k :: q, st, v, h => by
    unfold valsI at h
    rcases List.mem_cons.1 h with rfl | h
    · exact gI_in st
    · exact valsI_in q _ v h
/-- The next one, by its kind. -/
theorem next_is (M : Nat) (c : UInt8) (t : List UInt8) : nextE M (0, c :: t) = fillI (rq c.toNat) (fillN M (hq c.toNat) (e0 c.toNat) (0, t)).1 (fillN M (hq c.toNat) (e0 c.toNat) (0, t)).2 := rfl
set_option maxHeartbeats 4000000 in
theorem next_put {M : Nat} (hM : 1099511627776 ≤ M) (e : Ev) (hg : goodE e = true) (hR : RgE e) (t : List UInt8) : ∃ e', nextE M (0, byt e ++ t) = (e', (0, t)) ∧ evI e' = evI e := by
  have hk : kindB e.kd = true := by
    cases hk : kindB e.kd with
    | true => rfl
    | false => rw [good_kind hk] at hg; cases hg
  obtain ⟨k, he, h1, h7⟩ := kind_nat hk
  rw [row_good h1 h7 he] at hg
  clear hk
  rcases (show k = 1 ∨ k = 2 ∨ k = 3 ∨ k = 4 ∨ k = 5 ∨ k = 6 ∨ k = 7 by omega) with rfl | rfl | rfl | rfl | rfl | rfl | rfl
  · simp [rowB, inB, aLo, aHi, tLo, tHi, vHi, cxK, cxI, zC] at hg
    have hb : byt e = UInt8.ofNat 1 :: ([e.ac].flatMap numI ++ []) := by
      unfold byt thL vaL cxL thrB valB
      rw [he]
      simp
    have hf := fillN_put (M := M) [1] [e.ac] (e0 1) (t) rfl (fun v hv => by simp at hv; subst hv; omega)
    refine ⟨setL (e0 1) [1] [e.ac], ?_, ?_⟩
    · rw [hb, List.append_nil, List.cons_append, next_is]
      show fillI (rq 1) (fillN M [1] (e0 1) _).1 (fillN M [1] (e0 1) _).2 = _
      rw [hf]
      rfl
    · unfold evI
      simp [setL, eset, e0]
      omega
  · simp [rowB, inB, aLo, aHi, tLo, tHi, vHi, cxK, ctxB] at hg
    have hb : byt e = UInt8.ofNat 2 :: ([e.ac, e.th, e.pg, e.pc, e.dp].flatMap numI ++ regL e) := by
      unfold byt thL vaL cxL thrB valB
      rw [he]
      simp
    have hf := fillN_put (M := M) [1, 2, 4, 5, 14] [e.ac, e.th, e.pg, e.pc, e.dp] (e0 2) (regL e ++ t) rfl (fun v hv => by simp at hv; rcases hv with rfl | rfl | rfl | rfl | rfl <;> omega)
    have hi := fillI_put [6, 7, 8, 9, 10, 11, 12, 13] (rgL e) (setL (e0 2) [1, 2, 4, 5, 14] [e.ac, e.th, e.pg, e.pc, e.dp]) t rfl (fun v hv => by
      simp [rgL] at hv
      rcases hv with rfl | rfl | rfl | rfl | rfl | rfl | rfl | rfl <;> exact hR.reg (by decide))
    refine ⟨setL (setL (e0 2) [1, 2, 4, 5, 14] [e.ac, e.th, e.pg, e.pc, e.dp]) [6, 7, 8, 9, 10, 11, 12, 13] (rgL e), ?_, ?_⟩
    · rw [hb, List.cons_append, next_is, List.append_assoc]
      show fillI (rq 2) (fillN M [1, 2, 4, 5, 14] (e0 2) _).1 (fillN M [1, 2, 4, 5, 14] (e0 2) _).2 = _
      rw [hf]
      exact hi
    · unfold evI
      simp [setL, eset, e0, rgL]
      omega
  · simp [rowB, inB, aLo, aHi, tLo, tHi, vHi, cxK, cxI, zC] at hg
    have hb : byt e = UInt8.ofNat 3 :: ([e.ac, e.th].flatMap numI ++ []) := by
      unfold byt thL vaL cxL thrB valB
      rw [he]
      simp
    have hf := fillN_put (M := M) [1, 2] [e.ac, e.th] (e0 3) (t) rfl (fun v hv => by simp at hv; rcases hv with rfl | rfl <;> omega)
    refine ⟨setL (e0 3) [1, 2] [e.ac, e.th], ?_, ?_⟩
    · rw [hb, List.append_nil, List.cons_append, next_is]
      show fillI (rq 3) (fillN M [1, 2] (e0 3) _).1 (fillN M [1, 2] (e0 3) _).2 = _
      rw [hf]
      rfl
    · unfold evI
      simp [setL, eset, e0]
      omega
  · simp [rowB, inB, aLo, aHi, tLo, tHi, vHi, cxK, cxI, zC] at hg
    have hb : byt e = UInt8.ofNat 4 :: ([e.ac, e.th, e.va].flatMap numI ++ []) := by
      unfold byt thL vaL cxL thrB valB
      rw [he]
      simp
    have hf := fillN_put (M := M) [1, 2, 3] [e.ac, e.th, e.va] (e0 4) (t) rfl (fun v hv => by simp at hv; rcases hv with rfl | rfl | rfl <;> omega)
    refine ⟨setL (e0 4) [1, 2, 3] [e.ac, e.th, e.va], ?_, ?_⟩
    · rw [hb, List.append_nil, List.cons_append, next_is]
      show fillI (rq 4) (fillN M [1, 2, 3] (e0 4) _).1 (fillN M [1, 2, 3] (e0 4) _).2 = _
      rw [hf]
      rfl
    · unfold evI
      simp [setL, eset, e0]
      omega
  · simp [rowB, inB, aLo, aHi, tLo, tHi, vHi, cxK, cxI, zC] at hg
    have hb : byt e = UInt8.ofNat 5 :: ([e.ac, e.va].flatMap numI ++ []) := by
      unfold byt thL vaL cxL thrB valB
      rw [he]
      simp
    have hf := fillN_put (M := M) [1, 3] [e.ac, e.va] (e0 5) (t) rfl (fun v hv => by simp at hv; rcases hv with rfl | rfl <;> omega)
    refine ⟨setL (e0 5) [1, 3] [e.ac, e.va], ?_, ?_⟩
    · rw [hb, List.append_nil, List.cons_append, next_is]
      show fillI (rq 5) (fillN M [1, 3] (e0 5) _).1 (fillN M [1, 3] (e0 5) _).2 = _
      rw [hf]
      rfl
    · unfold evI
      simp [setL, eset, e0]
      omega
  · simp [rowB, inB, aLo, aHi, tLo, tHi, vHi, cxK, cxI, zC] at hg
    have hb : byt e = UInt8.ofNat 6 :: ([e.ac].flatMap numI ++ []) := by
      unfold byt thL vaL cxL thrB valB
      rw [he]
      simp
    have hf := fillN_put (M := M) [1] [e.ac] (e0 6) (t) rfl (fun v hv => by simp at hv; subst hv; omega)
    refine ⟨setL (e0 6) [1] [e.ac], ?_, ?_⟩
    · rw [hb, List.append_nil, List.cons_append, next_is]
      show fillI (rq 6) (fillN M [1] (e0 6) _).1 (fillN M [1] (e0 6) _).2 = _
      rw [hf]
      rfl
    · unfold evI
      simp [setL, eset, e0]
      omega
  · simp [rowB, inB, aLo, aHi, tLo, tHi, vHi, cxK, cxI, zC] at hg
    have hb : byt e = UInt8.ofNat 7 :: ([e.ac].flatMap numI ++ []) := by
      unfold byt thL vaL cxL thrB valB
      rw [he]
      simp
    have hf := fillN_put (M := M) [1] [e.ac] (e0 7) (t) rfl (fun v hv => by simp at hv; subst hv; omega)
    refine ⟨setL (e0 7) [1] [e.ac], ?_, ?_⟩
    · rw [hb, List.append_nil, List.cons_append, next_is]
      show fillI (rq 7) (fillN M [1] (e0 7) _).1 (fillN M [1] (e0 7) _).2 = _
      rw [hf]
      rfl
    · unfold evI
      simp [setL, eset, e0]
      omega
end Go.Proofs.YteiidkojofaamaaDoor
