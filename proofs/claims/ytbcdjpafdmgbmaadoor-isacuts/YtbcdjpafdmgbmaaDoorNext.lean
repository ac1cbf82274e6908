/- Parse, the program's: the next instruction. -/
import Derived.Test.YtbcdjpafdmgbmaaDoorUsed
import Derived.Test.YtbcdjpafdmgbmaaDoorBytes
import Derived.Test.YtbcdjpafdmgbmaaDoorParM
import Derived.Test.YtbcdjpafdmgbmaaDoorCSrc
import Derived.Laws.Rows
namespace Go.Proofs.YtbcdjpafdmgbmaaDoor
open Go.RowKit Go.Shelf
attribute [local go_sem] Oper.semAt_some

/-- The result that is kept in cells of its own. -/
theorem results_cA {fn : Func} {p : Tmp} (h : fn.results = #[.cell p 49]) (tmps : Array Value) (w : World) (g : Nat) (x : Ins) (hp : tmps.getD p undef = .pointer (some ⟨g, 0, none⟩)) (hc : Cel w g (insC x) 49) : (results fn tmps).run Tryd.prog w = .ok (.agg (insC x)) w := by
  have hp' : tmps[p]?.getD undef = .pointer (some ⟨g, 0, none⟩) := by simpa using hp
  have hl := run_loadVar_row (P := Tryd.prog) w g 49 49 (insC x) (0, 0) _ hc Tryd.underlying49 (by rfl) (by kernel_rfl)
  simp [results, h, hp', asAddr, hl]
/-- The step that only touches S. -/
theorem kp_list {S : List Nat} {base : Nat} {W W' : World} (hb : But S W W') (hin : OwnIn (fun _ => S) W) : Kp (fun _ => S) base W W' := by
  refine ⟨⟨hb.size, fun k o _ hk hc => ?_⟩, fun k o hk _ hn => (hb.block k (Array.getElem?_eq_some_iff.1 hk).1 hn).trans hk, fun _ _ h => h⟩
  refine (hb.block k (Array.getElem?_eq_some_iff.1 hk).1 (fun hS => ?_)).trans hk
  obtain ⟨o', ho', hc'⟩ := hin k hS
  rw [hk] at ho'
  cases ho'
  rw [hc] at hc'
  cases hc'
theorem but_of {A B : World} {row : Option Nat} (hg : A.grownBy B row) : But row.toList A B :=
  ⟨hg.os, hg.tape, hg.output, hg.size, fun k hk hs => hg.block k hk (fun e => hs (by simp [← e]))⟩
theorem sq_blk {A : World} {S : Nat} {st : St} (h : SQ A S st) : ∃ o : Obj, A.heap[S]? = some o ∧ o.isCells = true := by
  obtain ⟨bs, ⟨a, c, h, _⟩, _⟩ := h
  exact ⟨_, h, rfl⟩
theorem insC_set (x : Ins) {k : Nat} (hk : k < 3) (v : Int) : (insC x).setIfInBounds (k + 1) (.int .i64 v) = insC (nset x k v) := by
  match k, hk with
  | 0, _ => rfl
  | 1, _ => rfl
  | 2, _ => rfl

abbrev minI : Int := -9223372036854775808
abbrev maxI : Int := 9223372036854775807

set_option maxRecDepth 100000 in
set_option maxHeartbeats 4000000 in
theorem next_in (S : Nat) (st : St) (w w0 : World) (hs : SQ w S st) (hT : Tab w0) (hb0 : Below w0.heap.size w0 w) (hS0 : w0.heap.size ≤ S) :
    CallsIn Fence.wide 9 Tryd.prog 37 #[.pointer (some ⟨S, 0, none⟩)] w fun e w' => e = .returned (.agg (insC (nextP minI maxI st).1)) ∧ But [S] w w' ∧ SQ w' S (nextP minI maxI st).2 := by
  have hS := hs.lt
  have b1 : But [] w ((w.alloc (.cells #[.pointer (some ⟨S, 0, none⟩)] 63)).alloc (.cells #[.int .i64 0, .int .i64 0, .int .i64 0, .int .i64 0] 49)) := ((But.refl [] w).alloc _).alloc _
  have HB := src34 st _ (hs.keep b1)
  have hwr : wrap64 ((getS byteT 0 st).1.toNat : Int) = ((getS byteT 0 st).1.toNat : Int) := by
    have := (getS byteT 0 st).1.toNat_lt
    unfold wrap64
    omega
  refine callsIn_of_wp_marks Tryd.func37 rfl trivial ?_ rfl
  simp only [Tryd.ntmps37, List.size_toArray, List.length_cons, List.length_nil, Nat.reduceAdd, Nat.reduceSub, Array.replicate_succ, Array.replicate_zero, List.push_toArray, List.append_toArray, List.nil_append, List.cons_append]
  gi_wp2_with (first
    | (refine ⟨trivial, ?_⟩; gi_at_call 62; refine (callsIn_wide.2 HB).mono ?_; rintro e w1 ⟨hb1, hs1, v1, rfl, hv1⟩; subst hv1)
    | (refine ⟨trivial, ?_⟩; gi_at_call 43; refine (callsIn_wide.2 (used_any _ _)).mono ?_; rintro e w5 ⟨rfl, rfl⟩))
  have hn : Hid (nextP minI maxI st = fillQ minI maxI (usQ (opI (getS byteT 0 st).1).1) (opI (getS byteT 0 st).1) (getS byteT 0 st).2) := Hid.mk rfl
  have ho : ((getS byteT 0 st).1.toNat : Int) = (opI (getS byteT 0 st).1).1 := rfl
  have p1 : Cel ((w.alloc (.cells #[.pointer (some ⟨S, 0, none⟩)] 63)).alloc (.cells #[.int .i64 0, .int .i64 0, .int .i64 0, .int .i64 0] 49)) w.heap.size #[.pointer (some ⟨S, 0, none⟩)] 63 := (Cel.new w _ 63).put (Below.heap_alloc _ _ _ (by simp))
  have r1 : Cel ((w.alloc (.cells #[.pointer (some ⟨S, 0, none⟩)] 63)).alloc (.cells #[.int .i64 0, .int .i64 0, .int .i64 0, .int .i64 0] 49)) (w.heap.size + 1) #[.int .i64 0, .int .i64 0, .int .i64 0, .int .i64 0] 49 := by
    have := Cel.new (w.alloc (.cells #[.pointer (some ⟨S, 0, none⟩)] 63)) #[.int .i64 0, .int .i64 0, .int .i64 0, .int .i64 0] 49
    rwa [World.size_alloc] at this
  have hz1 := hb1.size
  simp only [World.size_alloc] at hz1
  have p2 := p1.but hb1 (by simp; omega)
  have r2 := r1.but hb1 (by simp; omega)
  have bw : But [S] w w1 := b1.wide.trans hb1
  clear p1 r1 HB b1 hb1
  have b2 : But [] w1 ((w1.alloc (.cells #[.int .i64 ((getS byteT 0 st).1.toNat : Int), .int .i64 0, .int .i64 0, .int .i64 0] 49)).alloc (.cells #[.pointer (some ⟨w1.heap.size, 0, none⟩)] 58)) := ((But.refl [] w1).alloc _).alloc _
  have i3 : Cel ((w1.alloc (.cells #[.int .i64 ((getS byteT 0 st).1.toNat : Int), .int .i64 0, .int .i64 0, .int .i64 0] 49)).alloc (.cells #[.pointer (some ⟨w1.heap.size, 0, none⟩)] 58)) w1.heap.size (insC (opI (getS byteT 0 st).1)) 49 := (Cel.new w1 _ 49).put (Below.heap_alloc _ _ _ (by simp))
  have x3 : ((w1.alloc (.cells #[.int .i64 ((getS byteT 0 st).1.toNat : Int), .int .i64 0, .int .i64 0, .int .i64 0] 49)).alloc (.cells #[.pointer (some ⟨w1.heap.size, 0, none⟩)] 58)).cell? ⟨w1.heap.size + 1, 0, none⟩ = some (.pointer (some ⟨w1.heap.size, 0, none⟩)) := by simp [go_sem]
  have p3 := p2.but b2 (by simp)
  have r3 := r2.but b2 (by simp)
  have hs3 := hs1.keep b2
  have bw3 : But [S] w _ := bw.trans b2.wide
  clear p2 r2 b2
  rw [ho] at *
  clear ho hwr
  have hz3 : w1.heap.size < ((w1.alloc (.cells #[.int .i64 (opI (getS byteT 0 st).1).1, .int .i64 0, .int .i64 0, .int .i64 0] 49)).alloc (.cells #[.pointer (some ⟨w1.heap.size, 0, none⟩)] 58)).heap.size := by simp; omega
  generalize ((w1.alloc (.cells #[.int .i64 (opI (getS byteT 0 st).1).1, .int .i64 0, .int .i64 0, .int .i64 0] 49)).alloc (.cells #[.pointer (some ⟨w1.heap.size, 0, none⟩)] 58)) = W at *
  clear hs1 bw
  generalize opI (getS byteT 0 st).1 = x at *
  generalize (getS byteT 0 st).2 = s1 at *
  clear hs
  generalize w1.heap.size = B at *
  have hSB : S ≠ B := by omega
  refine wp_range (stab_const [S, B]) (gf := 72) (lb := #[.pointer (some ⟨B + 1, 0, none⟩)]) rfl (enters_of Tryd.func72 (by kernel_rfl) rfl)
    (used_seq (stab_const [S, B]) (B + 1) B x.1 W (hT.on (hb0.trans (bw3.below hb0.size (by simpa using hS0)))) x3 (i3.cell rfl)) (Below.refl _ _) (fun _ => rfl)
    (fun j A => SQ A S (fillQ minI maxI ((usQ x.1).take j) x s1).2 ∧ Cel A B (insC (fillQ minI maxI ((usQ x.1).take j) x s1).1) 49 ∧ Cel A w.heap.size #[.pointer (some ⟨S, 0, none⟩)] 63 ∧ Cel A (w.heap.size + 1) #[.int .i64 0, .int .i64 0, .int .i64 0, .int .i64 0] 49 ∧ But [S] w A)
    (fun _ _ => False) ?hI (fun c' u A A' row h _ _ => h) ?inn ⟨hs3, i3, p3, r3, bw3⟩ ?a1 ?assign ?body ?done ?stop
  case hI =>
    rintro j A A' row ⟨h1, h2, h3, h4, h5⟩ hg' hr
    have hr2 := fun r e => (hr r e).2
    have hb := but_of hg'
    have hz := bw3.size
    refine ⟨h1.but hb (fun y hy => ?_), h2.own hg' hr2, h3.own hg' hr2, h4.own hg' hr2, h5.trans_new hb (fun y hy => .inr ?_)⟩
    · have := (hr y (by simpa using hy)).1
      omega
    · have := (hr y (by simpa using hy)).1
      omega
  case inn =>
    rintro j A ⟨h1, h2, h3, h4, h5⟩ k hk
    simp at hk
    rcases hk with rfl | rfl
    · exact sq_blk h1
    · exact ⟨_, h2, rfl⟩
  case assign =>
    intro l x W K hK
    gi_wp2
    exact hK
  case body =>
    rintro l2 j k A hj ⟨h1, h2, h3, h4, h5⟩
    have hkl := (usQ_mem (List.mem_of_getElem? hj)).1
    have hf := fillQ_succ minI maxI hj x s1
    have hin : OwnIn (fun _ => [S, B]) A := by
      intro k hk
      simp at hk
      rcases hk with rfl | rfl
      · exact sq_blk h1
      · exact ⟨_, h2, rfl⟩
    generalize fillQ minI maxI ((usQ x.1).take j) x s1 = r at *
    have H1 := src29 r.2 A h1 minI maxI
    have cp := h3.cell (j := 0) (v := .pointer (some ⟨S, 0, none⟩)) rfl
    unfold encU
    gi_wp2_with (refine ⟨trivial, ?_⟩; gi_at_call 63; refine (CallsIn.inRound l2 (callsIn_wide.2 H1)).mono ?_; rintro e A1 ⟨hb1, hs1, v1, rfl, hv1⟩; subst hv1; have i1 := h2.but hb1 (by simpa using hSB.symm); have cv := i1.cell (insC_num r.1 hkl); have fz := i1.fz (k + 1))
    have hb2 : But [S, B] A (A1.setCell ⟨B, k + 1, none⟩ (.int .i64 (getS (intT minI maxI) 0 r.2).1)) := (hb1.mono (by simp)).set (by simp) _
    have hz := bw3.size
    refine ⟨kp_list hb2 hin, ?_, ?_, h3.but hb2 (by simp; omega), h4.but hb2 (by simp; omega), h5.trans_new hb2 (fun y hy => ?_)⟩
    · rw [hf]
      exact hs1.but (S := [B]) ((But.refl _ A1).set (by simp) _) (by simp; omega)
    · rw [hf, ← insC_set r.1 hkl]
      exact i1.set _
    · simp at hy
      rcases hy with rfl | rfl
      · exact .inl (by simp)
      · exact .inr (by omega)
  case done =>
    rintro D A hD ⟨h1, h2, h3, h4, h5⟩ hK
    rw [List.take_length, ← hn.out] at h1 h2
    have g0 := h2.cell (j := 0) (v := .int .i64 (nextP minI maxI st).1.1) rfl
    have g1 := h2.cell (j := 1) (v := .int .i64 (nextP minI maxI st).1.2.1) rfl
    have g2 := h2.cell (j := 2) (v := .int .i64 (nextP minI maxI st).1.2.2.1) rfl
    have g3 := h2.cell (j := 3) (v := .int .i64 (nextP minI maxI st).1.2.2.2) rfl
    have f0 := h4.cell (j := 0) (v := .int .i64 0) rfl
    have f1 := h4.cell (j := 1) (v := .int .i64 0) rfl
    have f2 := h4.cell (j := 2) (v := .int .i64 0) rfl
    have f3 := h4.cell (j := 3) (v := .int .i64 0) rfl
    have z := fun j => h4.fz j
    gi_wp2_with fail
    have hz := bw3.size
    have q1 := (((h4.set (j := 0) (.int .i64 (nextP minI maxI st).1.1)).set (j := 1) (.int .i64 (nextP minI maxI st).1.2.1)).set (j := 2) (.int .i64 (nextP minI maxI st).1.2.2.1)).set (j := 3) (.int .i64 (nextP minI maxI st).1.2.2.2)
    have q2 := ((((But.refl [w.heap.size + 1] A).set (p := ⟨w.heap.size + 1, 0, none⟩) (by simp) (.int .i64 (nextP minI maxI st).1.1)).set (p := ⟨w.heap.size + 1, 1, none⟩) (by simp) (.int .i64 (nextP minI maxI st).1.2.1)).set (p := ⟨w.heap.size + 1, 2, none⟩) (by simp) (.int .i64 (nextP minI maxI st).1.2.2.1)).set (p := ⟨w.heap.size + 1, 3, none⟩) (by simp) (.int .i64 (nextP minI maxI st).1.2.2.2)
    generalize ((((A.setCell ⟨w.heap.size + 1, 0, none⟩ (.int .i64 (nextP minI maxI st).1.1)).setCell ⟨w.heap.size + 1, 1, none⟩ (.int .i64 (nextP minI maxI st).1.2.1)).setCell ⟨w.heap.size + 1, 2, none⟩ (.int .i64 (nextP minI maxI st).1.2.2.1)).setCell ⟨w.heap.size + 1, 3, none⟩ (.int .i64 (nextP minI maxI st).1.2.2.2)) = A2 at q1 q2 ⊢
    have hDl := (Array.getElem?_eq_some_iff.1 hK).1
    have hM : Marks W.heap.size [D] A2 := ⟨by simp, fun y hy => by
      simp at hy
      subst hy
      exact ⟨hD, (q2.block y hDl (by simp; omega)).trans hK⟩⟩
    refine post_marks (Ds := [D]) hM (fun W' hb => ⟨_, results_cA rfl _ _ (w.heap.size + 1) (nextP minI maxI st).1 rfl (Cel.but (A := A2) q1 hb (by simp; omega)), rfl, ?_, ?_⟩)
    · exact (h5.trans_new q2 (by simp)).trans_new hb (fun y hy => by simp at hy; exact .inr (by omega))
    · exact (h1.but q2 (by simp; omega)).but hb (by simp; omega)
  case stop =>
    rintro D c' A _ h _
    exact h.elim

theorem next_any {S : Nat} {st : St} {w w0 : World} (hs : SQ w S st) (hT : Tab w0) (hb0 : Below w0.heap.size w0 w) (hS0 : w0.heap.size ≤ S) :
    Calls Tryd.prog 37 #[.pointer (some ⟨S, 0, none⟩)] w fun e w' => e = .returned (.agg (insC (nextP minI maxI st).1)) ∧ But [S] w w' ∧ SQ w' S (nextP minI maxI st).2 := callsIn_wide.1 (next_in S st w w0 hs hT hb0 hS0)

end Go.Proofs.YtbcdjpafdmgbmaaDoor
