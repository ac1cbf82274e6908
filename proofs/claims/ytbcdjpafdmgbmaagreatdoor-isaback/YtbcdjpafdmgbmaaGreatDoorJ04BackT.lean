/- The table in memory; names, shapes, bounds: the program's and the reference's. -/
/- The iterator of an instruction's numbers. -/
import Derived.Test.YtbcdjpafdmgbmaaGreatDoorJ03BackT
import Derived.Test.YtbcdjpafdmgbmaaGreatDoorJ01BackT
import Derived.BigRegion
import Derived.Deep.CutBlock
namespace Go.Proofs.YtbcdjpafdmgbmaaGreatDoor
open Go.RowKit

/-- The table lies in memory. -/
structure Tab (w : World) : Prop where
  lt : 0 < w.heap.size
  nm : ∀ k, k < 27 → w.cell? ⟨0, k * 2, none⟩ = some (.string ⟨(nmT.getD k []).toArray⟩)
  sh : ∀ k, k < 27 → w.cell? ⟨0, k * 2 + 1, none⟩ = some (.string ⟨(shT.getD k []).toArray⟩)
theorem Tab.put {w w' : World} (h : Tab w) (e : w'.heap[0]? = w.heap[0]?) : Tab w' := by
  have e' : ∀ o, w'.cell? ⟨0, o, none⟩ = w.cell? ⟨0, o, none⟩ := fun o => World.cell?_of_block e
  refine ⟨?_, fun k hk => (e' _).trans (h.nm k hk), fun k hk => (e' _).trans (h.sh k hk)⟩
  have hl := h.lt
  apply Nat.lt_of_not_le
  intro hle
  rw [Array.getElem?_eq_none hle, Array.getElem?_eq_getElem hl] at e
  cases e
theorem Tab.below {w w' : World} {n : Nat} (h : Tab w) (hb : Below n w w') (hn : 0 < n) : Tab w' := h.put (hb.block 0 hn)
theorem Tab.on {w w' : World} (h : Tab w) (hb : Below w.heap.size w w') : Tab w' := h.below hb h.lt
theorem Tab.but {S : List Nat} {w w' : World} (h : Tab w) (hb : But S w w') (hS : 0 ∉ S) : Tab w' := h.put (hb.block 0 h.lt hS)

def bstr (l : List UInt8) : Value := .string ⟨l.toArray⟩

theorem isop_any (op : Int) (w : World) : Calls Tryz.prog 36 #[.int .i64 op] w fun e w' => e = .returned (.bool (opB op)) ∧ w' = w := by
  unfold opB
  by_cases h1 : 0 ≤ op
  · by_cases h2 : op ≤ 26
    · simp only [h1, h2, decide_true, Bool.and_self]
      go_enter Tryz.func36, Tryz.ntmps36
      go_wp2_with fail
      go_ret
      exact ⟨rfl, rfl⟩
    · simp only [h1, h2, decide_true, decide_false, Bool.and_false]
      go_enter Tryz.func36, Tryz.ntmps36
      go_wp2_with fail
      go_ret
      exact ⟨rfl, rfl⟩
  · simp only [h1, decide_false, Bool.false_and]
    go_enter Tryz.func36, Tryz.ntmps36
    go_wp2_with fail
    go_ret
    exact ⟨rfl, rfl⟩

/-- Is it a call? -/
def callB (op : Int) : Bool := decide (11 ≤ op) && decide (op ≤ 26)
section
variable (op : Int) (w : World)
end

theorem name_any (op : Int) (w : World) (hT : Tab w) : Calls Tryz.prog 23 #[.int .i64 op] w fun e w' => e = .returned (.string ⟨(nmL op).toArray⟩) ∧ w' = w := by
  have H := isop_any op w
  cases ho : opB op with
  | true =>
    obtain ⟨k, rfl, hk⟩ := opB_nat ho
    have hc := hT.nm k hk
    rw [ho] at H
    rw [nmL_nat hk]
    have k0 : (0 : Int) ≤ (k : Int) := by omega
    have k1 : (k : Int) < 27 := by omega
    clear hT ho
    go_enter Tryz.func23, Tryz.ntmps23
    go_wp2_with (go_at_call 36; (with_reducible refine H.mono ?_); rintro e w' ⟨rfl, rfl⟩)
    go_ret
    exact ⟨rfl, rfl⟩
  | false =>
    rw [ho] at H
    rw [nmL_out ho]
    go_enter Tryz.func23, Tryz.ntmps23
    go_wp2_with (go_at_call 36; (with_reducible refine H.mono ?_); rintro e w' ⟨rfl, rfl⟩)
    go_ret
    exact ⟨rfl, rfl⟩

theorem shape_any (op : Int) (w : World) (hT : Tab w) : Calls Tryz.prog 60 #[.int .i64 op] w fun e w' => e = .returned (.string ⟨(shL op).toArray⟩) ∧ w' = w := by
  have H := isop_any op w
  cases ho : opB op with
  | true =>
    obtain ⟨k, rfl, hk⟩ := opB_nat ho
    have hc := hT.sh k hk
    rw [ho] at H
    rw [shL_nat hk]
    have k0 : (0 : Int) ≤ (k : Int) := by omega
    have k1 : (k : Int) < 27 := by omega
    clear hT ho
    go_enter Tryz.func60, Tryz.ntmps60
    go_wp2_with (go_at_call 36; (with_reducible refine H.mono ?_); rintro e w' ⟨rfl, rfl⟩)
    go_ret
    exact ⟨rfl, rfl⟩
  | false =>
    rw [ho] at H
    rw [shL_out ho]
    go_enter Tryz.func60, Tryz.ntmps60
    go_wp2_with (go_at_call 36; (with_reducible refine H.mono ?_); rintro e w' ⟨rfl, rfl⟩)
    go_ret
    exact ⟨rfl, rfl⟩

/-- What lies with letters that are none of the eight. -/
structure NoL (c : Nat) : Prop where
  h1 : c ≠ 114
  h2 : c ≠ 118
  h3 : c ≠ 116
  h4 : c ≠ 112
  h5 : c ≠ 107
  h6 : c ≠ 111
  h7 : c ≠ 110
  h8 : c ≠ 115
theorem letter (c : Nat) : c = 114 ∨ c = 118 ∨ c = 116 ∨ c = 112 ∨ c = 107 ∨ c = 111 ∨ c = 110 ∨ c = 115 ∨ NoL c := by
  by_cases h1 : c = 114
  · exact .inl h1
  by_cases h2 : c = 118
  · exact .inr (.inl h2)
  by_cases h3 : c = 116
  · exact .inr (.inr (.inl h3))
  by_cases h4 : c = 112
  · exact .inr (.inr (.inr (.inl h4)))
  by_cases h5 : c = 107
  · exact .inr (.inr (.inr (.inr (.inl h5))))
  by_cases h6 : c = 111
  · exact .inr (.inr (.inr (.inr (.inr (.inl h6)))))
  by_cases h7 : c = 110
  · exact .inr (.inr (.inr (.inr (.inr (.inr (.inl h7))))))
  by_cases h8 : c = 115
  · exact .inr (.inr (.inr (.inr (.inr (.inr (.inr (.inl h8)))))))
  exact .inr (.inr (.inr (.inr (.inr (.inr (.inr (.inr ⟨h1, h2, h3, h4, h5, h6, h7, h8⟩)))))))
theorem bdL_no {c : Nat} (h : NoL c) (n : Int) : bdL c n = (0, 0) := by
  unfold bdL
  rw [if_neg h.h1, if_neg h.h2, if_neg h.h3, if_neg h.h4, if_neg h.h5, if_neg h.h6, if_neg h.h7, if_neg h.h8]
theorem NoL.int {c : Nat} {z : Int} (h : NoL c) (e : (c : Int) = z) : z ≠ 114 ∧ z ≠ 118 ∧ z ≠ 116 ∧ z ≠ 112 ∧ z ≠ 107 ∧ z ≠ 111 ∧ z ≠ 110 ∧ z ≠ 115 := by
  have := h.h1; have := h.h2; have := h.h3; have := h.h4; have := h.h5; have := h.h6; have := h.h7; have := h.h8
  omega

set_option maxHeartbeats 1000000 in
theorem bounds_any (c : Nat) (n : Int) (w : World) : Calls Tryz.prog 38 #[.int .u8 (c : Int), .int .i64 n] w fun e w' => e = .returned (.tuple #[.int .i64 (bdL c n).1, .int .i64 (bdL c n).2]) ∧ w' = w := by
  rcases letter c with rfl | rfl | rfl | rfl | rfl | rfl | rfl | rfl | h
  iterate 8
    · simp only [bdL, if_true, Nat.reduceEqDiff, if_false]
      go_enter Tryz.func38, Tryz.ntmps38
      go_wp2_with fail
      go_ret2
      exact ⟨rfl, rfl⟩
  · rw [bdL_no h]
    obtain ⟨z, hz⟩ : ∃ z : Int, (c : Int) = z := ⟨_, rfl⟩
    obtain ⟨h1, h2, h3, h4, h5, h6, h7, h8⟩ := h.int hz
    rw [hz]
    clear hz h
    go_enter Tryz.func38, Tryz.ntmps38
    go_wp2_with fail
    go_ret2
    exact ⟨rfl, rfl⟩

end Go.Proofs.YtbcdjpafdmgbmaaGreatDoor
namespace Go.Proofs.YtbcdjpafdmgbmaaGreatDoor
open Go.RowKit Go.Shelf
attribute [local go_sem] Oper.semAt_some

theorem OwnFrom.but {β : Type} {b : Nat} {I : β → World → Prop} (h : OwnFrom b I) {s : β} {W W' : World} (hs : I s W) (hb : But [] W W') : I s W' :=
  h s W W' none hs ⟨hb.os, hb.tape, hb.output, hb.size, fun k hk _ => hb.block k hk (by simp)⟩ (fun r e => by cases e)

/-- A block that is not the caller's own stays, whatever a round does. -/
structure Safe (own : World → List Nat) (W : World) (k : Nat) (cur : Array Value) (t : TypeId) (fz : Nat × Nat) : Prop where
  at_ : W.heap[k]? = some (.cells cur t fz)
  no : k ∉ own W
theorem Safe.kp {own : World → List Nat} {A B : World} {b k : Nat} {cur : Array Value} {t : TypeId} {fz : Nat × Nat} (h : Safe own A k cur t fz) (hk : Kp own b A B) : Safe own B k cur t fz :=
  ⟨hk.cells k _ h.at_ rfl h.no, hk.safe k (Array.getElem?_eq_some_iff.1 h.at_).1 h.no⟩
theorem Safe.cell {own : World → List Nat} {A : World} {k j : Nat} {cur : Array Value} {t : TypeId} {fz : Nat × Nat} {v : Value} (h : Safe own A k cur t fz) (hv : cur[j]? = some v) : A.cell? ⟨k, j, none⟩ = some v := by
  simp [World.cell?, h.at_, hv]
theorem Stab.but {own : World → List Nat} (h : Stab own) {A B : World} (hA : OwnIn own A) (hb : But [] A B) : own B = own A :=
  h A B none hA ⟨hb.os, hb.tape, hb.output, hb.size, fun k hk _ => hb.block k hk (by simp)⟩ (fun r e => by cases e)
theorem OwnIn.lt {own : World → List Nat} {A : World} (h : OwnIn own A) {k : Nat} (hk : k ∈ own A) : k < A.heap.size := by
  obtain ⟨o, ho, _⟩ := h k hk
  exact (Array.getElem?_eq_some_iff.1 ho).1
theorem Safe.but {own : World → List Nat} (hst : Stab own) {A B : World} (hA : OwnIn own A) {k : Nat} {cur : Array Value} {t : TypeId} {fz : Nat × Nat} (h : Safe own A k cur t fz) (hb : But [] A B) : Safe own B k cur t fz :=
  ⟨(hb.block k (Array.getElem?_eq_some_iff.1 h.at_).1 (by simp)).trans h.at_, by rw [hst.but hA hb]; exact h.no⟩
/-- What is new is not the caller's own. -/
theorem Safe.new {own : World → List Nat} (hst : Stab own) {A B : World} (hA : OwnIn own A) (hb : But [] A B) {k : Nat} {cur : Array Value} {t : TypeId} {fz : Nat × Nat} (hk : A.heap.size ≤ k) (e : B.heap[k]? = some (.cells cur t fz)) : Safe own B k cur t fz :=
  ⟨e, by rw [hst.but hA hb]; intro h; have := hA.lt h; omega⟩
theorem Safe.own {own : World → List Nat} (hst : Stab own) {k : Nat} {cur : Array Value} {t : TypeId} {fz : Nat × Nat} {A B : World} {row : Option Nat} (hA : OwnIn own A) (h : Safe own A k cur t fz) (hg : A.grownBy B row) (hr : ∀ r, row = some r → ∃ o : Obj, A.heap[r]? = some o ∧ o.isCells = false) : Safe own B k cur t fz := by
  refine ⟨(hg.block k (Array.getElem?_eq_some_iff.1 h.at_).1 (fun e => ?_)).trans h.at_, by rw [hst A B row hA hg hr]; exact h.no⟩
  obtain ⟨o, ho, hc⟩ := hr k e.symm
  rw [h.at_] at ho
  cases ho
  cases hc

/-- A text as bytes in new memory. -/
theorem conv_str (w : World) (l : List UInt8) : ∃ (c : Nat) (cur : Array Value) (fz : Nat × Nat), (convert 9 24 (.string ⟨l.toArray⟩)).run Tryz.prog w = .ok (.slice (some ⟨w.heap.size, 0, none⟩) l.length c) (w.drew.alloc (.cells cur 5 fz)) ∧ ∀ (j : Nat) (b : UInt8), l[j]? = some b → cur[j]? = some (Value.int .u8 (b.toNat : Int)) := by
  refine ⟨_, _, _, run_bytes_of_string w 9 24 5 ⟨l.toArray⟩ Tryz.underlying9 Tryz.underlying24 Tryz.underlying5, fun j b hj => ?_⟩
  unfold bytesRow
  have hlt := (List.getElem?_eq_some_iff.1 hj).1
  rw [Array.getElem?_append_left (by simpa using hlt)]
  simp [hj]

/-- What the iterator hands on: a letter, and where the number lies. -/
def encN (op : Int) (B : Nat) (k : Nat) : Array Value := #[.int .u8 (sc op k : Nat), .pointer (some ⟨B, k + 1, none⟩)]

theorem numbers_any (p : Option Addr) (w : World) :
    Calls Tryz.prog 37 #[.pointer p] w fun e w' => e = .returned (.func (.func 59) #[] #[.pointer (some ⟨w.heap.size, 0, none⟩)]) ∧ w' = w.alloc (.cells #[.pointer p] 49) := by
  go_enter Tryz.func37, Tryz.ntmps37
  go_wp2_with fail
  go_ret
  exact ⟨rfl, rfl⟩

set_option maxRecDepth 100000 in
set_option maxHeartbeats 2000000 in
theorem numbers_seq {own : World → List Nat} (hst : Stab own) (X B : Nat) (op : Int) (w : World) (hT : Tab w) (hX : w.cell? ⟨X, 0, none⟩ = some (.pointer (some ⟨B, 0, none⟩))) (hB : w.cell? ⟨B, 0, none⟩ = some (.int .i64 op)) :
    SeqR Tryz.prog own 59 #[.pointer (some ⟨X, 0, none⟩)] (encN op B) (numQ op) w := by
  intro l J Jx W hW hl aJ aJx hin hY h0
  have cX := cell_on hW hX
  have cB := cell_on hW hB
  have hT1 := hT.on hW
  have hin0 := hin 0 W h0
  clear hX hB hT hW
  refine callsIn_of_wp Tryz.func59 rfl trivial ?_ rfl
  simp only [Tryz.ntmps59, List.size_toArray, List.length_cons, List.length_nil, Nat.reduceAdd, Nat.reduceSub, Array.replicate_succ, Array.replicate_zero, List.push_toArray, List.append_toArray, List.nil_append, List.cons_append]
  refine wpIn_wide.2 ?_
  have cXa : (W.alloc (.cells #[.pointer none, .pointer none, .pointer none] 100)).cell? ⟨X, 0, none⟩ = some (.pointer (some ⟨B, 0, none⟩)) := cell_on ((Below.refl _ W).alloc (Nat.le_refl _) _) cX
  go_wp2_with fail
  go_region
  have hb1 : But [] W (W.alloc (.cells #[.pointer (some ⟨B, 1, none⟩), .pointer (some ⟨B, 2, none⟩), .pointer (some ⟨B, 3, none⟩)] 100)).drew := ((But.refl [] W).alloc _).drew
  have hs1 : Safe own (W.alloc (.cells #[.pointer (some ⟨B, 1, none⟩), .pointer (some ⟨B, 2, none⟩), .pointer (some ⟨B, 3, none⟩)] 100)).drew W.heap.size #[.pointer (some ⟨B, 1, none⟩), .pointer (some ⟨B, 2, none⟩), .pointer (some ⟨B, 3, none⟩)] 100 (0, 0) :=
    Safe.new hst hin0 hb1 (Nat.le_refl _) (World.alloc_heap_new W _)
  have hJ1 : J 0 (W.alloc (.cells #[.pointer (some ⟨B, 1, none⟩), .pointer (some ⟨B, 2, none⟩), .pointer (some ⟨B, 3, none⟩)] 100)).drew := OwnFrom.but aJ h0 hb1
  generalize (W.alloc (.cells #[.pointer (some ⟨B, 1, none⟩), .pointer (some ⟨B, 2, none⟩), .pointer (some ⟨B, 3, none⟩)] 100)).drew = W1 at hb1 hs1 hJ1 ⊢
  have cX1 := hb1.cell cX
  have cB1 := hb1.cell cB
  have hT2 := hT1.but hb1 (by simp)
  have hin1 := hin 0 W1 hJ1
  clear cX cB cXa hT1 h0 hin0
  have HS := shape_any op W1 hT2
  have hsz1 : W.heap.size ≤ W1.heap.size := hb1.size
  generalize W.heap.size = Y at *
  obtain ⟨c, cur, fz, hcv, hcc⟩ := conv_str W1 (shL op)
  have hb2 : But [] W1 (W1.drew.alloc (.cells cur 5 fz)) := (But.refl [] W1).drew.alloc _
  have hJ2 := OwnFrom.but aJ hJ1 hb2
  have hs2 := Safe.but hst hin1 hs1 hb2
  have hs3 : Safe own (W1.drew.alloc (.cells cur 5 fz)) W1.heap.size cur 5 fz := Safe.new hst hin1 hb2 (Nat.le_refl _) (World.alloc_heap_new W1.drew _)
  generalize hW2 : W1.drew.alloc (.cells cur 5 fz) = W2 at *
  generalize W1.heap.size = Z at *
  cases ho : opB op with
  | false =>
    rw [shL_out ho] at HS hcv
    have Hq : Hid (numQ op = []) := Hid.mk (by unfold numQ; rw [ho]; rfl)
    go_wp2_with (go_at_call 60; (with_reducible refine HS.mono ?_); rintro e w' ⟨rfl, rfl⟩)
    refine (wpIn_wide (n := 9)).1 ?_
    gi_loopw [23, 4, 5] (fun p _ _ wr => p = .int .i64 0 ∧ J 0 wr) (fun _ _ _ _ => 0)
    case atStart => exact ⟨rfl, hJ2⟩
    case round =>
      obtain ⟨rfl, hJ⟩ := hrel
      gi_wp2
      go_end0
      exact ⟨⟨_, rfl⟩, .inl (by rw [Hq.out]; exact hJ)⟩
  | true =>
    have hq : numQ op = [0, 1, 2] := by unfold numQ; rw [ho]; rfl
    rw [hq] at hY
    have Hq : Hid (numQ op = [0, 1, 2]) := Hid.mk hq
    clear hq
    have hsc : ∀ k : Nat, k < 3 → (shL op)[k]? = some ((shL op).getD k 0) := fun k hk => by
      rw [List.getD_eq_getElem?_getD, List.getElem?_eq_getElem (by rw [shL_len ho]; exact hk), Option.getD_some]
    have hcur : ∀ k : Nat, k < 3 → cur[k]? = some (Value.int .u8 ((sc op k : Nat) : Int)) := fun k hk => hcc k _ (hsc k hk)
    clear hcc hsc
    obtain ⟨c0, c1, c2, hc⟩ := shL_three ho
    rw [hc] at HS hcv
    go_wp2_with (go_at_call 60; (with_reducible refine HS.mono ?_); rintro e w' ⟨rfl, rfl⟩)
    refine (wpIn_wide (n := 9)).1 ?_
    clear HS hcv hJ1 hs1 hb2 hW2 cX1 cB1 hT2 hin1 hb1 hc
    gi_loopw [23, 4, 5] (fun p _ _ wr => ∃ i : Nat, i ≤ 3 ∧ p = .int .i64 i ∧ J i wr ∧ Safe own wr Y #[.pointer (some ⟨B, 1, none⟩), .pointer (some ⟨B, 2, none⟩), .pointer (some ⟨B, 3, none⟩)] 100 (0, 0) ∧ Safe own wr Z cur 5 fz) (fun p _ _ _ => 3 - (intOf p).toNat)
    case atStart => exact ⟨0, by omega, rfl, hJ2, hs2, hs3⟩
    case round =>
      clear hJ2 hs2 hs3
      obtain ⟨i, hi, rfl, hJ, hs2, hs3⟩ := hrel
      by_cases hi3 : i < 3
      · have hqi : [0, 1, 2][i]? = some i := by
          match i, hi3 with
          | 0, _ => rfl
          | 1, _ => rfl
          | 2, _ => rfl
        obtain ⟨fn, tmps, assign, body, hy, hR⟩ := YieldAt.deep (m' := 8) (hY i i wr hqi hJ)
        have hcu := hs3.cell (hcur i hi3)
        have hca : wr.cell? ⟨Y, i, none⟩ = some (.pointer (some ⟨B, i + 1, none⟩)) := hs2.cell (by
          match i, hi3 with
          | 0, _ => rfl
          | 1, _ => rfl
          | 2, _ => rfl)
        unfold encN at hy
        have h3 : (i : Int) < 3 := by omega
        have h4 : (0 : Int) ≤ (i : Int) := by omega
        clear hcur
        gi_wp2
        refine hR.mono ?_
        rintro e W3 (⟨rfl, hJ3, hk3⟩ | ⟨rfl, hJx3, _⟩)
        · gi_wp2
          go_roundw
          case rel => exact ⟨i + 1, by omega, by simp, hJ3, hs2.kp hk3, hs3.kp hk3⟩
          case measure =>
            simp [intOf]
            omega
        · gi_wp2
          refine bodyPost_ret (results_none rfl _ _ _) rfl ?_
          exact ⟨⟨_, rfl⟩, .inr hJx3⟩
      · obtain rfl : i = 3 := by omega
        gi_wp2
        go_end0
        exact ⟨⟨_, rfl⟩, .inl (by rw [Hq.out]; exact hJ)⟩

end Go.Proofs.YtbcdjpafdmgbmaaGreatDoor
