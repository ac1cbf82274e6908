/- Rows of events of bytes, plain: what reading tells. -/
import Derived.Test.YteiidkojofaamaaDoorERdB
namespace Go.Proofs.YteiidkojofaamaaDoor
open Go

theorem next_kd (M : Nat) (st : St) : (nextE M st).1.kd = ((getS byteT 0 st).1.toNat : Int) := by
  unfold nextE
  generalize (getS byteT 0 st).1.toNat = k
  generalize (getS byteT 0 st).2 = s
  by_cases h : k < 8
  · rcases (show k = 0 ∨ k = 1 ∨ k = 2 ∨ k = 3 ∨ k = 4 ∨ k = 5 ∨ k = 6 ∨ k = 7 by omega) with rfl | rfl | rfl | rfl | rfl | rfl | rfl | rfl <;> rfl
  · have h1 : hq k = [] := by
      unfold hq
      rw [List.getD_eq_getElem?_getD, List.getElem?_eq_none (by simp; omega)]
      rfl
    have h2 : rq k = [] := by
      unfold rq
      rw [if_neg (by omega)]
    rw [h1, h2]
    rfl
set_option maxHeartbeats 4000000 in
theorem good_rg {e : Ev} (hg : goodE e = true) (hr : e.kd = 2 → ∀ j, j < 8 → -9223372036854775808 ≤ e.rs j ∧ e.rs j ≤ 9223372036854775807) : RgE e := by
  have hk : kindB e.kd = true := by
    cases hk : kindB e.kd with
    | true => rfl
    | false => rw [good_kind hk] at hg; cases hg
  obtain ⟨k, he, h1, h7⟩ := kind_nat hk
  rw [row_good h1 h7 he] at hg
  intro x hx
  unfold evI at hx
  simp only [List.mem_cons, List.not_mem_nil, or_false] at hx
  rcases (show k = 1 ∨ k = 2 ∨ k = 3 ∨ k = 4 ∨ k = 5 ∨ k = 6 ∨ k = 7 by omega) with rfl | rfl | rfl | rfl | rfl | rfl | rfl
  · simp [rowB, inB, aLo, aHi, tLo, tHi, vHi, cxK, cxI, zC] at hg
    rcases hx with rfl | rfl | rfl | rfl | rfl | rfl | rfl | rfl | rfl | rfl | rfl | rfl | rfl | rfl | rfl <;> omega
  · simp [rowB, inB, aLo, aHi, tLo, tHi, vHi, cxK, ctxB] at hg
    have hr' := hr he
    rcases hx with rfl | rfl | rfl | rfl | rfl | rfl | rfl | rfl | rfl | rfl | rfl | rfl | rfl | rfl | rfl
    · omega
    · omega
    · omega
    · omega
    · omega
    · omega
    · exact hr' 0 (by decide)
    · exact hr' 1 (by decide)
    · exact hr' 2 (by decide)
    · exact hr' 3 (by decide)
    · exact hr' 4 (by decide)
    · exact hr' 5 (by decide)
    · exact hr' 6 (by decide)
    · exact hr' 7 (by decide)
    · omega
  · simp [rowB, inB, aLo, aHi, tLo, tHi, vHi, cxK, cxI, zC] at hg
    rcases hx with rfl | rfl | rfl | rfl | rfl | rfl | rfl | rfl | rfl | rfl | rfl | rfl | rfl | rfl | rfl <;> omega
  · simp [rowB, inB, aLo, aHi, tLo, tHi, vHi, cxK, cxI, zC] at hg
    rcases hx with rfl | rfl | rfl | rfl | rfl | rfl | rfl | rfl | rfl | rfl | rfl | rfl | rfl | rfl | rfl <;> omega
  · simp [rowB, inB, aLo, aHi, tLo, tHi, vHi, cxK, cxI, zC] at hg
    rcases hx with rfl | rfl | rfl | rfl | rfl | rfl | rfl | rfl | rfl | rfl | rfl | rfl | rfl | rfl | rfl <;> omega
  · simp [rowB, inB, aLo, aHi, tLo, tHi, vHi, cxK, cxI, zC] at hg
    rcases hx with rfl | rfl | rfl | rfl | rfl | rfl | rfl | rfl | rfl | rfl | rfl | rfl | rfl | rfl | rfl <;> omega
  · simp [rowB, inB, aLo, aHi, tLo, tHi, vHi, cxK, cxI, zC] at hg
    rcases hx with rfl | rfl | rfl | rfl | rfl | rfl | rfl | rfl | rfl | rfl | rfl | rfl | rfl | rfl | rfl <;> omega
set_option maxHeartbeats 4000000 in
theorem good_small {e : Ev} (hg : goodE e = true) : e.ac < 9223372036854775807 ∧ e.th < 9223372036854775807 ∧ e.va < 9223372036854775807 ∧ e.pg < 9223372036854775807 ∧ e.pc < 9223372036854775807 ∧ e.dp < 9223372036854775807 := by
  have hk : kindB e.kd = true := by
    cases hk : kindB e.kd with
    | true => rfl
    | false => rw [good_kind hk] at hg; cases hg
  obtain ⟨k, he, h1, h7⟩ := kind_nat hk
  rw [row_good h1 h7 he] at hg
  rcases (show k = 1 ∨ k = 2 ∨ k = 3 ∨ k = 4 ∨ k = 5 ∨ k = 6 ∨ k = 7 by omega) with rfl | rfl | rfl | rfl | rfl | rfl | rfl
  · simp [rowB, inB, aLo, aHi, tLo, tHi, vHi, cxK, cxI, zC] at hg
    omega
  · simp [rowB, inB, aLo, aHi, tLo, tHi, vHi, cxK, ctxB] at hg
    omega
  · simp [rowB, inB, aLo, aHi, tLo, tHi, vHi, cxK, cxI, zC] at hg
    omega
  · simp [rowB, inB, aLo, aHi, tLo, tHi, vHi, cxK, cxI, zC] at hg
    omega
  · simp [rowB, inB, aLo, aHi, tLo, tHi, vHi, cxK, cxI, zC] at hg
    omega
  · simp [rowB, inB, aLo, aHi, tLo, tHi, vHi, cxK, cxI, zC] at hg
    omega
  · simp [rowB, inB, aLo, aHi, tLo, tHi, vHi, cxK, cxI, zC] at hg
    omega
set_option maxHeartbeats 4000000 in
theorem next_back {M : Nat} {st : St} {e : Ev} {r : List UInt8} (h : nextE M st = (e, (0, r))) (hg : goodE e = true) : st = (0, byt e ++ r) ∧ RgE e := by
  have hs : (getS byteT 0 st).2.1 = 0 := by
    have h2 : (nextE M st).2.1 = 0 := by rw [h]
    exact fillN_err (fillI_err h2)
  have hkd := next_kd M st
  rw [h] at hkd
  dsimp only at hkd
  obtain ⟨x, bs⟩ := st
  have hx : x = 0 := by
    unfold getS at hs
    by_cases h0 : x = 0
    · exact h0
    · rw [if_neg h0] at hs
      exact hs
  subst hx
  cases bs with
  | nil => cases hs
  | cons c t =>
    have hc1 : (getS byteT 0 ((0, c :: t) : St)).1 = c := rfl
    rw [hc1] at hkd
    clear hs hc1
    have hk : kindB e.kd = true := by
      cases hk : kindB e.kd with
      | true => rfl
      | false => rw [good_kind hk] at hg; cases hg
    obtain ⟨k, he, h1, h7⟩ := kind_nat hk
    have hck : c.toNat = k := by omega
    have hc : c = UInt8.ofNat k := by rw [← hck]; simp
    rw [next_is, hck] at h
    rcases (show k = 1 ∨ k = 2 ∨ k = 3 ∨ k = 4 ∨ k = 5 ∨ k = 6 ∨ k = 7 by omega) with rfl | rfl | rfl | rfl | rfl | rfl | rfl
    · have h' : fillN M [1] (e0 1) (0, t) = (e, (0, r)) := h
      have hv : e = setL (e0 1) [1] (valsN M [1] (0, t)) := by rw [← fillN_vals, h']
      have hvb : ∀ v ∈ valsN M [1] (0, t), v < 9223372036854775807 := fun v hx => by
        have hs := good_small hg
        have hl : valsN M [1] (0, t) = [e.ac] := by rw [hv]; rfl
        rw [hl] at hx
        simp only [List.mem_cons, List.not_mem_nil, or_false] at hx
        rw [hx]; omega
      have hb := fillN_back [1] (e0 1) (0, t) r (by rw [h']) hvb
      refine ⟨?_, good_rg hg (fun h2 => by rw [he] at h2; simp at h2)⟩
      have hby : byt e = UInt8.ofNat 1 :: (valsN M [1] (0, t)).flatMap numI := by
        rw [hv]
        simp [byt, thL, vaL, cxL, thrB, valB, setL, valsN, eset, e0]
      rw [hby, hc, List.cons_append]
      simp only [Prod.mk.injEq] at hb
      rw [← hb.2]
    · have h' : fillI [6, 7, 8, 9, 10, 11, 12, 13] (fillN M [1, 2, 4, 5, 14] (e0 2) (0, t)).1 (fillN M [1, 2, 4, 5, 14] (e0 2) (0, t)).2 = (e, (0, r)) := h
      have hi := fillI_back [6, 7, 8, 9, 10, 11, 12, 13] (fillN M [1, 2, 4, 5, 14] (e0 2) (0, t)).1 (fillN M [1, 2, 4, 5, 14] (e0 2) (0, t)).2 r (by rw [h'])
      have hv : e = setL (setL (e0 2) [1, 2, 4, 5, 14] (valsN M [1, 2, 4, 5, 14] (0, t))) [6, 7, 8, 9, 10, 11, 12, 13] (valsI [6, 7, 8, 9, 10, 11, 12, 13] (fillN M [1, 2, 4, 5, 14] (e0 2) (0, t)).2) := by rw [← fillN_vals, ← fillI_vals, h']
      have hvb : ∀ v ∈ valsN M [1, 2, 4, 5, 14] (0, t), v < 9223372036854775807 := fun v hx => by
        have hs := good_small hg
        have hl : valsN M [1, 2, 4, 5, 14] (0, t) = [e.ac, e.th, e.pg, e.pc, e.dp] := by rw [hv]; rfl
        rw [hl] at hx
        simp only [List.mem_cons, List.not_mem_nil, or_false] at hx
        rcases hx with rfl | rfl | rfl | rfl | rfl <;> omega
      have hb := fillN_back [1, 2, 4, 5, 14] (e0 2) (0, t) _ hi hvb
      have hin := valsI_in [6, 7, 8, 9, 10, 11, 12, 13] (fillN M [1, 2, 4, 5, 14] (e0 2) (0, t)).2
      generalize (fillN M [1, 2, 4, 5, 14] (e0 2) (0, t)).2 = s2 at hi hb hv hin
      have hrs : rgL e = valsI [6, 7, 8, 9, 10, 11, 12, 13] s2 := by
        rw [hv]
        simp [rgL, setL, valsI, valsN, eset]
      refine ⟨?_, good_rg hg (fun _ j hj => hin _ (by rw [← hrs]; exact List.mem_of_getElem? (rg_get e hj)))⟩
      have hby : byt e = UInt8.ofNat 2 :: ((valsN M [1, 2, 4, 5, 14] (0, t)).flatMap numI ++ intsF (rgL e)) := by
        have h1 : e.ac = (valsN M [1, 2, 4, 5, 14] (0, t)).getD 0 0 := by rw [hv]; rfl
        have h2 : e.th = (valsN M [1, 2, 4, 5, 14] (0, t)).getD 1 0 := by rw [hv]; rfl
        have h4 : e.pg = (valsN M [1, 2, 4, 5, 14] (0, t)).getD 2 0 := by rw [hv]; rfl
        have h5 : e.pc = (valsN M [1, 2, 4, 5, 14] (0, t)).getD 3 0 := by rw [hv]; rfl
        have h14 : e.dp = (valsN M [1, 2, 4, 5, 14] (0, t)).getD 4 0 := by rw [hv]; rfl
        unfold byt thL vaL cxL thrB valB
        rw [he, h1, h2, h4, h5, h14]
        simp [valsN, regL, rgL]
      rw [hby, hrs, hc, List.cons_append, List.append_assoc]
      simp only [Prod.mk.injEq] at hb
      rw [← hb.2]
    · have h' : fillN M [1, 2] (e0 3) (0, t) = (e, (0, r)) := h
      have hv : e = setL (e0 3) [1, 2] (valsN M [1, 2] (0, t)) := by rw [← fillN_vals, h']
      have hvb : ∀ v ∈ valsN M [1, 2] (0, t), v < 9223372036854775807 := fun v hx => by
        have hs := good_small hg
        have hl : valsN M [1, 2] (0, t) = [e.ac, e.th] := by rw [hv]; rfl
        rw [hl] at hx
        simp only [List.mem_cons, List.not_mem_nil, or_false] at hx
        rcases hx with rfl | rfl <;> omega
      have hb := fillN_back [1, 2] (e0 3) (0, t) r (by rw [h']) hvb
      refine ⟨?_, good_rg hg (fun h2 => by rw [he] at h2; simp at h2)⟩
      have hby : byt e = UInt8.ofNat 3 :: (valsN M [1, 2] (0, t)).flatMap numI := by
        rw [hv]
        simp [byt, thL, vaL, cxL, thrB, valB, setL, valsN, eset, e0]
      rw [hby, hc, List.cons_append]
      simp only [Prod.mk.injEq] at hb
      rw [← hb.2]
    · have h' : fillN M [1, 2, 3] (e0 4) (0, t) = (e, (0, r)) := h
      have hv : e = setL (e0 4) [1, 2, 3] (valsN M [1, 2, 3] (0, t)) := by rw [← fillN_vals, h']
      have hvb : ∀ v ∈ valsN M [1, 2, 3] (0, t), v < 9223372036854775807 := fun v hx => by
        have hs := good_small hg
        have hl : valsN M [1, 2, 3] (0, t) = [e.ac, e.th, e.va] := by rw [hv]; rfl
        rw [hl] at hx
        simp only [List.mem_cons, List.not_mem_nil, or_false] at hx
        rcases hx with rfl | rfl | rfl <;> omega
      have hb := fillN_back [1, 2, 3] (e0 4) (0, t) r (by rw [h']) hvb
      refine ⟨?_, good_rg hg (fun h2 => by rw [he] at h2; simp at h2)⟩
      have hby : byt e = UInt8.ofNat 4 :: (valsN M [1, 2, 3] (0, t)).flatMap numI := by
        rw [hv]
        simp [byt, thL, vaL, cxL, thrB, valB, setL, valsN, eset, e0]
      rw [hby, hc, List.cons_append]
      simp only [Prod.mk.injEq] at hb
      rw [← hb.2]
    · have h' : fillN M [1, 3] (e0 5) (0, t) = (e, (0, r)) := h
      have hv : e = setL (e0 5) [1, 3] (valsN M [1, 3] (0, t)) := by rw [← fillN_vals, h']
      have hvb : ∀ v ∈ valsN M [1, 3] (0, t), v < 9223372036854775807 := fun v hx => by
        have hs := good_small hg
        have hl : valsN M [1, 3] (0, t) = [e.ac, e.va] := by rw [hv]; rfl
        rw [hl] at hx
        simp only [List.mem_cons, List.not_mem_nil, or_false] at hx
        rcases hx with rfl | rfl <;> omega
      have hb := fillN_back [1, 3] (e0 5) (0, t) r (by rw [h']) hvb
      refine ⟨?_, good_rg hg (fun h2 => by rw [he] at h2; simp at h2)⟩
      have hby : byt e = UInt8.ofNat 5 :: (valsN M [1, 3] (0, t)).flatMap numI := by
        rw [hv]
        simp [byt, thL, vaL, cxL, thrB, valB, setL, valsN, eset, e0]
      rw [hby, hc, List.cons_append]
      simp only [Prod.mk.injEq] at hb
      rw [← hb.2]
    · have h' : fillN M [1] (e0 6) (0, t) = (e, (0, r)) := h
      have hv : e = setL (e0 6) [1] (valsN M [1] (0, t)) := by rw [← fillN_vals, h']
      have hvb : ∀ v ∈ valsN M [1] (0, t), v < 9223372036854775807 := fun v hx => by
        have hs := good_small hg
        have hl : valsN M [1] (0, t) = [e.ac] := by rw [hv]; rfl
        rw [hl] at hx
        simp only [List.mem_cons, List.not_mem_nil, or_false] at hx
        rw [hx]; omega
      have hb := fillN_back [1] (e0 6) (0, t) r (by rw [h']) hvb
      refine ⟨?_, good_rg hg (fun h2 => by rw [he] at h2; simp at h2)⟩
      have hby : byt e = UInt8.ofNat 6 :: (valsN M [1] (0, t)).flatMap numI := by
        rw [hv]
        simp [byt, thL, vaL, cxL, thrB, valB, setL, valsN, eset, e0]
      rw [hby, hc, List.cons_append]
      simp only [Prod.mk.injEq] at hb
      rw [← hb.2]
    · have h' : fillN M [1] (e0 7) (0, t) = (e, (0, r)) := h
      have hv : e = setL (e0 7) [1] (valsN M [1] (0, t)) := by rw [← fillN_vals, h']
      have hvb : ∀ v ∈ valsN M [1] (0, t), v < 9223372036854775807 := fun v hx => by
        have hs := good_small hg
        have hl : valsN M [1] (0, t) = [e.ac] := by rw [hv]; rfl
        rw [hl] at hx
        simp only [List.mem_cons, List.not_mem_nil, or_false] at hx
        rw [hx]; omega
      have hb := fillN_back [1] (e0 7) (0, t) r (by rw [h']) hvb
      refine ⟨?_, good_rg hg (fun h2 => by rw [he] at h2; simp at h2)⟩
      have hby : byt e = UInt8.ofNat 7 :: (valsN M [1] (0, t)).flatMap numI := by
        rw [hv]
        simp [byt, thL, vaL, cxL, thrB, valB, setL, valsN, eset, e0]
      rw [hby, hc, List.cons_append]
      simp only [Prod.mk.injEq] at hb
      rw [← hb.2]
theorem rd_sound {M : Nat} : ∀ (n : Nat) (st : St) (xs ys : List Ev), rd M n st xs = some ys → ∃ zs, ys = xs ++ zs ∧ zs.length = n ∧ (∀ z ∈ zs, goodE z = true ∧ RgE z) ∧ st = (0, zs.flatMap byt)
  | 0, st, xs, ys, h => by
    unfold rd at h
    by_cases h0 : st = (0, [])
    · rw [if_pos h0] at h
      cases h
      exact ⟨[], by simp, rfl, by simp, h0⟩
    · rw [if_neg h0] at h
      cases h
  | n + 1, st, xs, ys, h => by
    unfold rd at h
    cases hg : goodE (nextE M st).1 with
    | false =>
      rw [hg] at h
      simp at h
    | true =>
      rw [hg, if_pos rfl] at h
      obtain ⟨zs, h1, h2, h3, h4⟩ := rd_sound n _ _ _ h
      have hb := next_back (M := M) (st := st) (e := (nextE M st).1) (r := zs.flatMap byt) (by rw [← h4]) hg
      refine ⟨(nextE M st).1 :: zs, by rw [h1]; simp, by simp [h2], fun z hz => ?_, by rw [List.flatMap_cons]; exact hb.1⟩
      rcases List.mem_cons.1 hz with rfl | hz
      · exact ⟨hg, hb.2⟩
      · exact h3 z hz
theorem read_sound {M : Nat} {bs : List UInt8} {ys : List Ev} (h : readE M bs = some ys) : bs = allE ys ∧ ys.length ≤ 1024 ∧ ∀ z ∈ ys, goodE z = true ∧ RgE z := by
  unfold readE at h
  obtain ⟨zs, h1, h2, h3, h4⟩ := rd_sound _ _ _ _ h
  rw [List.nil_append] at h1
  subst h1
  have hb := gN_back (M := 1024) (st := (0, bs)) (n := ((getS (numT 1024) 0 (0, bs)).1 : Int)) (t := ys.flatMap byt) (by unfold gN; rw [← h4])
  rw [← h2] at hb
  obtain ⟨hb1, _, hb3⟩ := hb
  have hl : ys.length ≤ 1024 := by simpa using hb3
  refine ⟨?_, hl, h3⟩
  rw [all_good hl (fun i hi => (h3 _ (ev_mem hi)).1)]
  simp only [Prod.mk.injEq] at hb1
  rw [hb1.2]
  unfold numI
  simp
theorem good_evI {a b : Ev} (h : evI a = evI b) : goodE a = goodE b := by
  unfold evI at h
  simp only [List.cons.injEq, and_true] at h
  obtain ⟨h0, h1, h2, h3, h4, h5, r0, r1, r2, r3, r4, r5, r6, r7, h6⟩ := h
  unfold goodE cxB cxI
  rw [h0, h1, h2, h3, h4, h5, h6, r0, r1, r2, r3, r4, r5, r6, r7]
theorem rd_put {M : Nat} (hM : 1099511627776 ≤ M) : ∀ (xs acc : List Ev) (t : List UInt8), (∀ z ∈ xs, goodE z = true ∧ RgE z) → ∃ ys, ys.map evI = xs.map evI ∧ rd M xs.length (0, xs.flatMap byt ++ t) acc = if t = [] then some (acc ++ ys) else none
  | [], acc, t, _ => by
    refine ⟨[], rfl, ?_⟩
    simp [rd]
  | x :: xs, acc, t, h => by
    obtain ⟨hg, hr⟩ := h x (by simp)
    obtain ⟨e', hn, hi⟩ := next_put hM x hg hr (xs.flatMap byt ++ t)
    obtain ⟨ys, h1, h2⟩ := rd_put hM xs (acc ++ [e']) t (fun z hz => h z (by simp [hz]))
    refine ⟨e' :: ys, by simp [h1, hi], ?_⟩
    rw [List.length_cons, List.flatMap_cons, List.append_assoc]
    unfold rd
    rw [hn]
    dsimp only
    rw [good_evI hi, hg, if_pos rfl, h2]
    simp
theorem read_put {M : Nat} (hM : 1099511627776 ≤ M) {xs : List Ev} (hn : xs.length ≤ 1024) (h : ∀ z ∈ xs, goodE z = true ∧ RgE z) (t : List UInt8) : ∃ ys, ys.map evI = xs.map evI ∧ readE M (allE xs ++ t) = if t = [] then some ys else none := by
  obtain ⟨ys, h1, h2⟩ := rd_put hM xs [] t h
  refine ⟨ys, h1, ?_⟩
  rw [all_good hn (fun i hi => (h _ (ev_mem hi)).1), List.append_assoc]
  have hg := gN_put (M := 1024) (n := (xs.length : Int)) (by omega) (by simp; exact hn) (by simp; omega) (xs.flatMap byt ++ t)
  unfold gN numI at hg
  simp only [Int.toNat_natCast, Prod.mk.injEq] at hg
  unfold readE
  rw [hg.2, show (getS (numT 1024) 0 (0, numL xs.length ++ (xs.flatMap byt ++ t))).1 = xs.length by have := hg.1; omega, h2]
  simp
/-- A row that was cut, or has one more byte, is none. -/
theorem read_cut {M : Nat} (hM : 1099511627776 ≤ M) {xs : List Ev} (hn : xs.length ≤ 1024) (h : ∀ z ∈ xs, goodE z = true ∧ RgE z) {n : Nat} (hc : n < (allE xs).length) : readE M ((allE xs).take n) = none := by
  cases hr : readE M ((allE xs).take n) with
  | none => rfl
  | some ys =>
    obtain ⟨h1, h2, h3⟩ := read_sound hr
    obtain ⟨zs, _, h4⟩ := read_put hM h2 h3 ((allE xs).drop n)
    obtain ⟨us, _, h5⟩ := read_put hM hn h []
    rw [← h1, List.take_append_drop, if_neg] at h4
    · rw [List.append_nil, h4] at h5
      cases h5
    · intro e
      have := congrArg List.length e
      rw [List.length_drop] at this
      simp at this
      omega
theorem read_more {M : Nat} (hM : 1099511627776 ≤ M) {xs : List Ev} (hn : xs.length ≤ 1024) (h : ∀ z ∈ xs, goodE z = true ∧ RgE z) (c : UInt8) : readE M (allE xs ++ [c]) = none := by
  obtain ⟨zs, _, h4⟩ := read_put hM hn h [c]
  rw [h4, if_neg (by simp)]
theorem read_all {M : Nat} (hM : 1099511627776 ≤ M) {xs : List Ev} (hn : xs.length ≤ 1024) (h : ∀ z ∈ xs, goodE z = true ∧ RgE z) : ∃ ys, readE M (allE xs) = some ys ∧ sameB ys xs = true := by
  obtain ⟨ys, h1, h4⟩ := read_put hM hn h []
  rw [if_pos rfl, List.append_nil] at h4
  exact ⟨ys, h4, decide_eq_true h1⟩
end Go.Proofs.YteiidkojofaamaaDoor
