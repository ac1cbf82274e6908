/- strings.SplitSeq at a comma: its iterator's contract. -/
import Derived.Test.YtgoedlgilgnphaaDoorText
import Derived.Test.YtgoedlgilgnphaaDoorRangeS
namespace Go.Proofs.YtgoedlgilgnphaaDoor
open Go.RowKit Go.Shelf
attribute [local go_sem] Oper.semAt_some

/-- The parts of a text between commas. -/
def splitL : List UInt8 → List (List UInt8)
  | [] => [[]]
  | b :: l => if b = 44 then [] :: splitL l else match splitL l with | [] => [[b]] | p :: ps => (b :: p) :: ps

theorem splitL_ne (l : List UInt8) : splitL l ≠ [] := by
  cases l with
  | nil => simp [splitL]
  | cons b l =>
    unfold splitL
    split
    · simp
    · split <;> simp

theorem index_lt : ∀ (l : List UInt8) (c : UInt8), -1 ≤ Lib.indexByte l c ∧ Lib.indexByte l c < l.length
  | [], _ => by simp [Lib.indexByte]
  | b :: l, c => by
    have := index_lt l c
    unfold Lib.indexByte
    simp only [List.length_cons]
    split
    · omega
    · split <;> omega

theorem splitL_none : ∀ {l : List UInt8}, Lib.indexByte l 44 = -1 → splitL l = [l]
  | [], _ => rfl
  | b :: l, h => by
    unfold Lib.indexByte at h
    by_cases hb : b = 44
    · subst hb; simp at h
    · have hb' : (b == 44) = false := by simpa using hb
      rw [hb'] at h
      simp only [Bool.false_eq_true, if_false] at h
      by_cases h2 : Lib.indexByte l 44 = -1
      · unfold splitL
        rw [if_neg hb, splitL_none h2]
      · have h3 : (Lib.indexByte l 44 == -1) = false := by simpa using h2
        rw [h3] at h
        simp only [Bool.false_eq_true, if_false] at h
        have : Lib.indexByte l 44 = -2 := by omega
        have h4 := (index_lt l 44).1
        omega

theorem splitL_some : ∀ {l : List UInt8} {i : Nat}, Lib.indexByte l 44 = i → splitL l = l.take i :: splitL (l.drop (i + 1))
  | [], i, h => by simp [Lib.indexByte] at h
  | b :: l, i, h => by
    unfold Lib.indexByte at h
    by_cases hb : b = 44
    · subst hb
      simp at h
      have : i = 0 := by omega
      subst this
      conv => lhs; unfold splitL
      simp
    · have hb' : (b == 44) = false := by simpa using hb
      rw [hb'] at h
      simp only [Bool.false_eq_true, if_false] at h
      by_cases h2 : Lib.indexByte l 44 = -1
      · rw [h2] at h; simp at h
      · have h3 : (Lib.indexByte l 44 == -1) = false := by simpa using h2
        rw [h3] at h
        simp only [Bool.false_eq_true, if_false] at h
        have hlt := index_lt l 44
        obtain ⟨j, hj⟩ : ∃ j : Nat, Lib.indexByte l 44 = j := ⟨(Lib.indexByte l 44).toNat, by omega⟩
        have : i = j + 1 := by omega
        subst this
        have ih := splitL_some hj
        conv => lhs; unfold splitL
        rw [if_neg hb, ih]
        simp

/-- A text that is not too long. -/
abbrev P400 := { b : List UInt8 // b.length ≤ 400 }
def valsP (l : List P400) : List (List UInt8) := l.map (·.1)

/-- The three boxes of the iterator lie as they lay. -/
def Kq3 (Bs : Nat) (W W' : World) : Prop := W'.heap[Bs]? = W.heap[Bs]? ∧ W'.heap[Bs + 1]? = W.heap[Bs + 1]? ∧ W'.heap[Bs + 1 + 1]? = W.heap[Bs + 1 + 1]?
/-- The worlds part in the first box alone. -/
structure Mv1 (Bs : Nat) (A B : World) : Prop where
  os : B.os = A.os
  tape : B.tape = A.tape
  output : B.output = A.output
  size : B.heap.size = A.heap.size
  block : ∀ k, k ≠ Bs → B.heap[k]? = A.heap[k]?

theorem mv1_set (Bs : Nat) (W : World) (v : Value) : Mv1 Bs W (W.setCell ⟨Bs, 0, none⟩ v) :=
  ⟨rfl, rfl, rfl, by simp [World.setCell], fun k hk => Below.heap_setCell _ _ _ k hk⟩

theorem ext_take (r : List UInt8) (i : Nat) : (ByteArray.mk r.toArray).extract 0 i = ⟨(r.take i).toArray⟩ := by
  apply ByteArray.ext
  simp [ByteArray.data_extract]

theorem ext_drop (r : List UInt8) (i e : Nat) (he : r.length ≤ e) : (ByteArray.mk r.toArray).extract i e = ⟨(r.drop i).toArray⟩ := by
  apply ByteArray.ext
  simp only [ByteArray.data_extract, List.extract_toArray, List.extract_eq_take_drop]
  rw [List.take_of_length_le (by simp; omega)]

/-- For the loop's measure: how long the rest is. -/
def restLen (Bs : Nat) (W : World) : Nat := match W.cell? ⟨Bs, 0, none⟩ with | some (.string s) => s.size | _ => 0

set_option maxRecDepth 100000 in
set_option maxHeartbeats 2000000 in
theorem split1_in (n : Nat) (hn : 1 ≤ n) (l Bs : Nat) (s : List UInt8) (hs : s.length ≤ 400) (J Jx : List P400 → World → Prop)
    (hJ : ∀ t A B, J t A → Mv1 Bs A B → J t B)
    (hY : ∀ pre x W, J pre W → pre.length < (splitL s).length → YieldAt Fence.wide (n - 1) Tryd.prog l #[.string ⟨x.1.toArray⟩] W fun e W' =>
      (e = .returned (.bool true) ∧ J (pre ++ [x]) W' ∧ Kq3 Bs W W') ∨ (e = .returned (.bool false) ∧ Jx (pre ++ [x]) W'))
    (W : World) (c0 : Boxed W Bs 9 (.string ⟨s.toArray⟩)) (c1 : Boxed W (Bs + 1) 9 (.string ⟨#[44]⟩)) (c2 : Boxed W (Bs + 1 + 1) 3 (.int .i64 0)) (h0 : J [] W) :
    CallsIn Fence.wide n Tryd.prog 59 #[.func (.yield l) #[] #[], .pointer (some ⟨Bs + 1, 0, none⟩), .pointer (some ⟨Bs, 0, none⟩), .pointer (some ⟨Bs + 1 + 1, 0, none⟩)] W fun e W' => (∃ v, e = .returned v) ∧
      ((∃ ys, valsP ys = splitL s ∧ J ys W') ∨ (∃ pre, valsP pre <+: splitL s ∧ Jx pre W')) := by
  have d1 := c1.cell
  refine callsIn_of_wp Tryd.func59 rfl trivial ?_ rfl
  simp only [Tryd.ntmps59, List.size_toArray, List.length_cons, List.length_nil, Nat.reduceAdd, Nat.reduceSub, Array.replicate_succ, Array.replicate_zero, List.push_toArray, List.append_toArray, List.nil_append, List.cons_append]
  gi_wp2_with fail
  gi_loopw [7] (fun _ wr => ∃ (pre : List P400) (r : List UInt8), r.length ≤ 400 ∧ valsP pre ++ splitL r = splitL s ∧ Boxed wr Bs 9 (.string ⟨r.toArray⟩) ∧ Boxed wr (Bs + 1) 9 (.string ⟨#[44]⟩) ∧ Boxed wr (Bs + 1 + 1) 3 (.int .i64 0) ∧ J pre wr)
    (fun _ wr => restLen Bs wr)
  case atStart =>
    exact ⟨[], s, hs, by simp [valsP], c0, c1, c2, h0⟩
  case round =>
    obtain ⟨pre, r, hr, hsp, e0, e1, e2, hJs⟩ := hrel
    have f0 := e0.cell
    have f1 := e1.cell
    have f2 := e2.cell
    have hix := index_lt r 44
    have hlen : pre.length < (splitL s).length := by
      rw [← hsp, List.length_append]
      have h1 : 0 < (splitL r).length := List.length_pos_iff.2 (splitL_ne r)
      have h2 : (valsP pre).length = pre.length := by simp [valsP]
      omega
    have hI := Tryd.strings_Index_one ⟨r.toArray⟩ 44
    by_cases hno : Lib.indexByte r 44 = -1
    · have hsplit := splitL_none hno
      obtain ⟨fn, tmps, assign, body, hy, hR⟩ := hY pre ⟨r, hr⟩ _ hJs hlen
      dsimp only at hy
      gi_wp2_with (refine ⟨trivial, ?_⟩; gi_at_call 61; refine (callsIn_wide.2 (hI _)).mono ?_; rintro e w' ⟨rfl, rfl⟩)
      refine hR.mono ?_
      rintro e W3 (⟨rfl, hJ3, hk3⟩ | ⟨rfl, hJx3⟩)
      · gi_wp2
        go_end0
        exact ⟨⟨_, rfl⟩, .inl ⟨pre ++ [⟨r, hr⟩], by rw [← hsp, hsplit]; simp [valsP], hJ3⟩⟩
      · gi_wp2
        go_end0
        exact ⟨⟨_, rfl⟩, .inr ⟨pre ++ [⟨r, hr⟩], ⟨[], by rw [← hsp, hsplit]; simp [valsP]⟩, hJx3⟩⟩
    · obtain ⟨i, hi⟩ : ∃ i : Nat, Lib.indexByte r 44 = i := ⟨(Lib.indexByte r 44).toNat, by omega⟩
      have hsplit := splitL_some hi
      have ht : (r.take i).length ≤ 400 := by rw [List.length_take]; omega
      obtain ⟨fn, tmps, assign, body, hy, hR⟩ := hY pre ⟨r.take i, ht⟩ _ hJs hlen
      dsimp only at hy
      rw [← ext_take] at hy
      gi_wp2_with (refine ⟨trivial, ?_⟩; gi_at_call 61; refine (callsIn_wide.2 (hI _)).mono ?_; rintro e w' ⟨rfl, rfl⟩)
      refine hR.mono ?_
      rintro e W3 (⟨rfl, hJ3, hk3⟩ | ⟨rfl, hJx3⟩)
      · have g0 : Boxed W3 Bs 9 (.string ⟨r.toArray⟩) := hk3.1.trans e0
        have g1 : Boxed W3 (Bs + 1) 9 (.string ⟨#[44]⟩) := hk3.2.1.trans e1
        have g2 : Boxed W3 (Bs + 1 + 1) 3 (.int .i64 0) := hk3.2.2.trans e2
        have k0 := g0.cell
        have k1 := g1.cell
        have k2 := g2.cell
        have z0 := g0.frozen
        gi_wp2_with fail
        rw [ext_drop r (i + 1) r.length (Nat.le_refl _)]
        refine ⟨⟨pre ++ [⟨r.take i, ht⟩], r.drop (i + 1), by rw [List.length_drop]; omega, by rw [← hsp, hsplit]; simp [valsP], g0.set _, g1.other (by omega) _, g2.other (by omega) _, hJ _ _ _ hJ3 (mv1_set _ _ _)⟩, ?_⟩
        have q0 := (g0.set (.string ⟨(r.drop (i + 1)).toArray⟩)).cell
        unfold restLen
        rw [q0, f0]
        simp only [ByteArray.size, List.size_toArray, List.length_drop]
        omega
      · gi_wp2
        refine bodyPost_ret (results_none rfl _ _ _) rfl ?_
        exact ⟨⟨_, rfl⟩, .inr ⟨pre ++ [⟨r.take i, ht⟩], ⟨splitL (r.drop (i + 1)), by rw [← hsp, hsplit]; simp [valsP]⟩, hJx3⟩⟩

theorem splitseq_any (s : ByteArray) (w : World) :
    Calls Tryd.prog 42 #[.string s, .string ⟨#[44]⟩] w fun e w' => e = .returned (.func (.func 59) #[] #[.pointer (some ⟨w.heap.size + 1, 0, none⟩), .pointer (some ⟨w.heap.size, 0, none⟩), .pointer (some ⟨w.heap.size + 1 + 1, 0, none⟩)]) ∧
      w' = ((w.alloc (Obj.cells #[.string s] 9)).alloc (Obj.cells #[.string ⟨#[44]⟩] 9)).alloc (Obj.cells #[.int .i64 0] 3) := by
  go_enter Tryd.func42, Tryd.ntmps42
  go_wp2
  go_ret
  exact ⟨rfl, rfl⟩

end Go.Proofs.YtgoedlgilgnphaaDoor
