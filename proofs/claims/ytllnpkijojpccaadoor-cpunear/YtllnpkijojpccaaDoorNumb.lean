/- The iterator of an instruction's numbers. -/
import Derived.Test.YtllnpkijojpccaaDoorRng
import Derived.Test.YtllnpkijojpccaaDoorFns
import Derived.BigRegion
import Derived.Deep.CutBlock
namespace Go.Proofs.YtllnpkijojpccaaDoor
open Go.RowKit Go.Shelf
attribute [local go_sem] Oper.semAt_some

theorem OwnFrom.but {β : Type} {b : Nat} {I : β → World → Prop} (h : OwnFrom b I) {s : β} {W W' : World} (hs : I s W) (hb : But [] W W') : I s W' :=
  h s W W' none hs ⟨hb.os, hb.tape, hb.output, hb.size, fun k hk _ => hb.block k hk (by simp)⟩ (fun r e => by cases e)

/-- A block that is not the caller's own stays, whatever a round does. -/
structure Safe (own : World → List Nat) (W : World) (k : Nat) (cur : Array Value) (t : TypeId) (fz : Nat × Nat) : Prop where
  at_ : W.heap[k]? = some (.cells cur t fz)
  no : k ∉ own W
theorem Safe.kp {own : World → List Nat} {A B : World} {b k : Nat} {cur : Array Value} {t : TypeId} {fz : Nat × Nat} (h : Safe own A k cur t fz) (hk : Kp own b A B) : Safe own B k cur t fz :=
  ⟨hk.cells k _ h.at_ rfl h.no, hk.safe k (Array.getElem?_eq_some_iff.1 h.at_).1 h.no⟩
theorem Safe.cell {own : World → List Nat} {A : World} {k j : Nat} {cur : Array Value} {t : TypeId} {fz : Nat × Nat} {v : Value} (h : Safe own A k cur t fz) (hv : cur[j]? = some v) : A.cell? ⟨k, j, none⟩ = some v := by
  simp [World.cell?, h.at_, hv]
theorem Stab.but {own : World → List Nat} (h : Stab own) {A B : World} (hA : OwnIn own A) (hb : But [] A B) : own B = own A :=
  h A B none hA ⟨hb.os, hb.tape, hb.output, hb.size, fun k hk _ => hb.block k hk (by simp)⟩ (fun r e => by cases e)
theorem OwnIn.lt {own : World → List Nat} {A : World} (h : OwnIn own A) {k : Nat} (hk : k ∈ own A) : k < A.heap.size := by
  obtain ⟨o, ho, _⟩ := h k hk
  exact (Array.getElem?_eq_some_iff.1 ho).1
theorem Safe.but {own : World → List Nat} (hst : Stab own) {A B : World} (hA : OwnIn own A) {k : Nat} {cur : Array Value} {t : TypeId} {fz : Nat × Nat} (h : Safe own A k cur t fz) (hb : But [] A B) : Safe own B k cur t fz :=
  ⟨(hb.block k (Array.getElem?_eq_some_iff.1 h.at_).1 (by simp)).trans h.at_, by rw [hst.but hA hb]; exact h.no⟩
/-- What is new is not the caller's own. -/
theorem Safe.new {own : World → List Nat} (hst : Stab own) {A B : World} (hA : OwnIn own A) (hb : But [] A B) {k : Nat} {cur : Array Value} {t : TypeId} {fz : Nat × Nat} (hk : A.heap.size ≤ k) (e : B.heap[k]? = some (.cells cur t fz)) : Safe own B k cur t fz :=
  ⟨e, by rw [hst.but hA hb]; intro h; have := hA.lt h; omega⟩
theorem Safe.own {own : World → List Nat} (hst : Stab own) {k : Nat} {cur : Array Value} {t : TypeId} {fz : Nat × Nat} {A B : World} {row : Option Nat} (hA : OwnIn own A) (h : Safe own A k cur t fz) (hg : A.grownBy B row) (hr : ∀ r, row = some r → ∃ o : Obj, A.heap[r]? = some o ∧ o.isCells = false) : Safe own B k cur t fz := by
  refine ⟨(hg.block k (Array.getElem?_eq_some_iff.1 h.at_).1 (fun e => ?_)).trans h.at_, by rw [hst A B row hA hg hr]; exact h.no⟩
  obtain ⟨o, ho, hc⟩ := hr k e.symm
  rw [h.at_] at ho
  cases ho
  cases hc

/-- A text as bytes in new memory. -/
theorem conv_str (w : World) (l : List UInt8) : ∃ (c : Nat) (cur : Array Value) (fz : Nat × Nat), (convert 9 80 (.string ⟨l.toArray⟩)).run Tryd.prog w = .ok (.slice (some ⟨w.heap.size, 0, none⟩) l.length c) (w.drew.alloc (.cells cur 5 fz)) ∧ ∀ (j : Nat) (b : UInt8), l[j]? = some b → cur[j]? = some (Value.int .u8 (b.toNat : Int)) := by
  refine ⟨_, _, _, run_bytes_of_string w 9 80 5 ⟨l.toArray⟩ Tryd.underlying9 Tryd.underlying80 Tryd.underlying5, fun j b hj => ?_⟩
  unfold bytesRow
  have hlt := (List.getElem?_eq_some_iff.1 hj).1
  rw [Array.getElem?_append_left (by simpa using hlt)]
  simp [hj]

/-- What the iterator hands on: a letter, and where the number lies. -/
def encN (op : Int) (B : Nat) (k : Nat) : Array Value := #[.int .u8 (sc op k : Nat), .pointer (some ⟨B, k + 1, none⟩)]

theorem numbers_any (p : Option Addr) (w : World) :
    Calls Tryd.prog 40 #[.pointer p] w fun e w' => e = .returned (.func (.func 42) #[] #[.pointer (some ⟨w.heap.size, 0, none⟩)]) ∧ w' = w.alloc (.cells #[.pointer p] 74) := by
  go_enter Tryd.func40, Tryd.ntmps40
  go_wp2_with fail
  go_ret
  exact ⟨rfl, rfl⟩

set_option maxRecDepth 100000 in
set_option maxHeartbeats 2000000 in
theorem numbers_seq {own : World → List Nat} (hst : Stab own) (X B : Nat) (op : Int) (w : World) (hT : Tab w) (hX : w.cell? ⟨X, 0, none⟩ = some (.pointer (some ⟨B, 0, none⟩))) (hB : w.cell? ⟨B, 0, none⟩ = some (.int .i64 op)) :
    SeqR Tryd.prog own 42 #[.pointer (some ⟨X, 0, none⟩)] (encN op B) (numQ op) w := by
  intro l J Jx W hW hl aJ aJx hin hY h0
  have cX := cell_on hW hX
  have cB := cell_on hW hB
  have hT1 := hT.on hW
  have hin0 := hin 0 W h0
  clear hX hB hT hW
  refine callsIn_of_wp Tryd.func42 rfl trivial ?_ rfl
  simp only [Tryd.ntmps42, List.size_toArray, List.length_cons, List.length_nil, Nat.reduceAdd, Nat.reduceSub, Array.replicate_succ, Array.replicate_zero, List.push_toArray, List.append_toArray, List.nil_append, List.cons_append]
  refine wpIn_wide.2 ?_
  have cXa : (W.alloc (.cells #[.pointer none, .pointer none, .pointer none] 79)).cell? ⟨X, 0, none⟩ = some (.pointer (some ⟨B, 0, none⟩)) := cell_on ((Below.refl _ W).alloc (Nat.le_refl _) _) cX
  go_wp2_with fail
  go_region
  have hb1 : But [] W (W.alloc (.cells #[.pointer (some ⟨B, 1, none⟩), .pointer (some ⟨B, 2, none⟩), .pointer (some ⟨B, 3, none⟩)] 79)).drew := ((But.refl [] W).alloc _).drew
  have hs1 : Safe own (W.alloc (.cells #[.pointer (some ⟨B, 1, none⟩), .pointer (some ⟨B, 2, none⟩), .pointer (some ⟨B, 3, none⟩)] 79)).drew W.heap.size #[.pointer (some ⟨B, 1, none⟩), .pointer (some ⟨B, 2, none⟩), .pointer (some ⟨B, 3, none⟩)] 79 (0, 0) :=
    Safe.new hst hin0 hb1 (Nat.le_refl _) (World.alloc_heap_new W _)
  have hJ1 : J 0 (W.alloc (.cells #[.pointer (some ⟨B, 1, none⟩), .pointer (some ⟨B, 2, none⟩), .pointer (some ⟨B, 3, none⟩)] 79)).drew := OwnFrom.but aJ h0 hb1
  generalize (W.alloc (.cells #[.pointer (some ⟨B, 1, none⟩), .pointer (some ⟨B, 2, none⟩), .pointer (some ⟨B, 3, none⟩)] 79)).drew = W1 at hb1 hs1 hJ1 ⊢
  have cX1 := hb1.cell cX
  have cB1 := hb1.cell cB
  have hT2 := hT1.but hb1 (by simp)
  have hin1 := hin 0 W1 hJ1
  clear cX cB cXa hT1 h0 hin0
  have HS := shape_any op W1 hT2
  have hsz1 : W.heap.size ≤ W1.heap.size := hb1.size
  generalize W.heap.size = Y at *
  obtain ⟨c, cur, fz, hcv, hcc⟩ := conv_str W1 (shL op)
  have hb2 : But [] W1 (W1.drew.alloc (.cells cur 5 fz)) := (But.refl [] W1).drew.alloc _
  have hJ2 := OwnFrom.but aJ hJ1 hb2
  have hs2 := Safe.but hst hin1 hs1 hb2
  have hs3 : Safe own (W1.drew.alloc (.cells cur 5 fz)) W1.heap.size cur 5 fz := Safe.new hst hin1 hb2 (Nat.le_refl _) (World.alloc_heap_new W1.drew _)
  generalize hW2 : W1.drew.alloc (.cells cur 5 fz) = W2 at *
  generalize W1.heap.size = Z at *
  cases ho : opB op with
  | false =>
    rw [shL_out ho] at HS hcv
    have Hq : Hid (numQ op = []) := Hid.mk (by unfold numQ; rw [ho]; rfl)
    go_wp2_with (go_at_call 43; (with_reducible refine HS.mono ?_); rintro e w' ⟨rfl, rfl⟩)
    refine (wpIn_wide (n := 9)).1 ?_
    gi_loopw [23, 4, 5] (fun p _ _ wr => p = .int .i64 0 ∧ J 0 wr) (fun _ _ _ _ => 0)
    case atStart => exact ⟨rfl, hJ2⟩
    case round =>
      obtain ⟨rfl, hJ⟩ := hrel
      gi_wp2
      go_end0
      exact ⟨⟨_, rfl⟩, .inl (by rw [Hq.out]; exact hJ)⟩
  | true =>
    have hq : numQ op = [0, 1, 2] := by unfold numQ; rw [ho]; rfl
    rw [hq] at hY
    have Hq : Hid (numQ op = [0, 1, 2]) := Hid.mk hq
    clear hq
    have hsc : ∀ k : Nat, k < 3 → (shL op)[k]? = some ((shL op).getD k 0) := fun k hk => by
      rw [List.getD_eq_getElem?_getD, List.getElem?_eq_getElem (by rw [shL_len ho]; exact hk), Option.getD_some]
    have hcur : ∀ k : Nat, k < 3 → cur[k]? = some (Value.int .u8 ((sc op k : Nat) : Int)) := fun k hk => hcc k _ (hsc k hk)
    clear hcc hsc
    obtain ⟨c0, c1, c2, hc⟩ := shL_three ho
    rw [hc] at HS hcv
    go_wp2_with (go_at_call 43; (with_reducible refine HS.mono ?_); rintro e w' ⟨rfl, rfl⟩)
    refine (wpIn_wide (n := 9)).1 ?_
    clear HS hcv hJ1 hs1 hb2 hW2 cX1 cB1 hT2 hin1 hb1 hc
    gi_loopw [23, 4, 5] (fun p _ _ wr => ∃ i : Nat, i ≤ 3 ∧ p = .int .i64 i ∧ J i wr ∧ Safe own wr Y #[.pointer (some ⟨B, 1, none⟩), .pointer (some ⟨B, 2, none⟩), .pointer (some ⟨B, 3, none⟩)] 79 (0, 0) ∧ Safe own wr Z cur 5 fz) (fun p _ _ _ => 3 - (intOf p).toNat)
    case atStart => exact ⟨0, by omega, rfl, hJ2, hs2, hs3⟩
    case round =>
      clear hJ2 hs2 hs3
      obtain ⟨i, hi, rfl, hJ, hs2, hs3⟩ := hrel
      by_cases hi3 : i < 3
      · have hqi : [0, 1, 2][i]? = some i := by
          match i, hi3 with
          | 0, _ => rfl
          | 1, _ => rfl
          | 2, _ => rfl
        obtain ⟨fn, tmps, assign, body, hy, hR⟩ := YieldAt.deep (m' := 8) (hY i i wr hqi hJ)
        have hcu := hs3.cell (hcur i hi3)
        have hca : wr.cell? ⟨Y, i, none⟩ = some (.pointer (some ⟨B, i + 1, none⟩)) := hs2.cell (by
          match i, hi3 with
          | 0, _ => rfl
          | 1, _ => rfl
          | 2, _ => rfl)
        unfold encN at hy
        have h3 : (i : Int) < 3 := by omega
        have h4 : (0 : Int) ≤ (i : Int) := by omega
        clear hcur
        gi_wp2
        refine hR.mono ?_
        rintro e W3 (⟨rfl, hJ3, hk3⟩ | ⟨rfl, hJx3, _⟩)
        · gi_wp2
          go_roundw
          case rel => exact ⟨i + 1, by omega, by simp, hJ3, hs2.kp hk3, hs3.kp hk3⟩
          case measure =>
            simp [intOf]
            omega
        · gi_wp2
          refine bodyPost_ret (results_none rfl _ _ _) rfl ?_
          exact ⟨⟨_, rfl⟩, .inr hJx3⟩
      · obtain rfl : i = 3 := by omega
        gi_wp2
        go_end0
        exact ⟨⟨_, rfl⟩, .inl (by rw [Hq.out]; exact hJ)⟩

end Go.Proofs.YtllnpkijojpccaaDoor
