/- Parse, the program's: the next instruction. -/
/- The reference's of: an instruction of an operation and the numbers that are used. -/
import Derived.Test.YtbcdjpafdmgbmaaDoorJ05TextsT
import Derived.Test.YtbcdjpafdmgbmaaDoorJ17TextsT
import Derived.Test.YtbcdjpafdmgbmaaDoorJ16TextsT
import Derived.Test.YtbcdjpafdmgbmaaDoorJ18TextsT
import Derived.Laws.Rows
namespace Go.Proofs.YtbcdjpafdmgbmaaDoor
open Go.RowKit Go.Shelf
attribute [local go_sem] Oper.semAt_some

/-- The result that is kept in cells of its own. -/
theorem results_cA {fn : Func} {p : Tmp} (h : fn.results = #[.cell p 49]) (tmps : Array Value) (w : World) (g : Nat) (x : Ins) (hp : tmps.getD p undef = .pointer (some ⟨g, 0, none⟩)) (hc : Cel w g (insC x) 49) : (results fn tmps).run Tryd.prog w = .ok (.agg (insC x)) w := by
  have hp' : tmps[p]?.getD undef = .pointer (some ⟨g, 0, none⟩) := by simpa using hp
  have hl := run_loadVar_row (P := Tryd.prog) w g 49 49 (insC x) (0, 0) _ hc Tryd.underlying49 (by rfl) (by kernel_rfl)
  simp [results, h, hp', asAddr, hl]
/-- The step that only touches S. -/
theorem kp_list {S : List Nat} {base : Nat} {W W' : World} (hb : But S W W') (hin : OwnIn (fun _ => S) W) : Kp (fun _ => S) base W W' := by
  refine ⟨⟨hb.size, fun k o _ hk hc => ?_⟩, fun k o hk _ hn => (hb.block k (Array.getElem?_eq_some_iff.1 hk).1 hn).trans hk, fun _ _ h => h⟩
  refine (hb.block k (Array.getElem?_eq_some_iff.1 hk).1 (fun hS => ?_)).trans hk
  obtain ⟨o', ho', hc'⟩ := hin k hS
  rw [hk] at ho'
  cases ho'
  rw [hc] at hc'
  cases hc'
theorem but_of {A B : World} {row : Option Nat} (hg : A.grownBy B row) : But row.toList A B :=
  ⟨hg.os, hg.tape, hg.output, hg.size, fun k hk hs => hg.block k hk (fun e => hs (by simp [← e]))⟩
theorem sq_blk {A : World} {S : Nat} {st : St} (h : SQ A S st) : ∃ o : Obj, A.heap[S]? = some o ∧ o.isCells = true := by
  obtain ⟨bs, ⟨a, c, h, _⟩, _⟩ := h
  exact ⟨_, h, rfl⟩
theorem insC_set (x : Ins) {k : Nat} (hk : k < 3) (v : Int) : (insC x).setIfInBounds (k + 1) (.int .i64 v) = insC (nset x k v) := by
  match k, hk with
  | 0, _ => rfl
  | 1, _ => rfl
  | 2, _ => rfl

abbrev minI : Int := -9223372036854775808
abbrev maxI : Int := 9223372036854775807

set_option maxRecDepth 100000 in
set_option maxHeartbeats 4000000 in
theorem next_in (S : Nat) (st : St) (w w0 : World) (hs : SQ w S st) (hT : Tab w0) (hb0 : Below w0.heap.size w0 w) (hS0 : w0.heap.size ≤ S) :
    CallsIn Fence.wide 9 Tryd.prog 37 #[.pointer (some ⟨S, 0, none⟩)] w fun e w' => e = .returned (.agg (insC (nextP minI maxI st).1)) ∧ But [S] w w' ∧ SQ w' S (nextP minI maxI st).2 := by
  have hS := hs.lt
  have b1 : But [] w ((w.alloc (.cells #[.pointer (some ⟨S, 0, none⟩)] 63)).alloc (.cells #[.int .i64 0, .int .i64 0, .int .i64 0, .int .i64 0] 49)) := ((But.refl [] w).alloc _).alloc _
  have HB := src34 st _ (hs.keep b1)
  have hwr : wrap64 ((getS byteT 0 st).1.toNat : Int) = ((getS byteT 0 st).1.toNat : Int) := by
    have := (getS byteT 0 st).1.toNat_lt
    unfold wrap64
    omega
  refine callsIn_of_wp_marks Tryd.func37 rfl trivial ?_ rfl
  simp only [Tryd.ntmps37, List.size_toArray, List.length_cons, List.length_nil, Nat.reduceAdd, Nat.reduceSub, Array.replicate_succ, Array.replicate_zero, List.push_toArray, List.append_toArray, List.nil_append, List.cons_append]
  gi_wp2_with (first
    | (refine ⟨trivial, ?_⟩; gi_at_call 62; refine (callsIn_wide.2 HB).mono ?_; rintro e w1 ⟨hb1, hs1, v1, rfl, hv1⟩; subst hv1)
    | (refine ⟨trivial, ?_⟩; gi_at_call 43; refine (callsIn_wide.2 (used_any _ _)).mono ?_; rintro e w5 ⟨rfl, rfl⟩))
  have hn : Hid (nextP minI maxI st = fillQ minI maxI (usQ (opI (getS byteT 0 st).1).1) (opI (getS byteT 0 st).1) (getS byteT 0 st).2) := Hid.mk rfl
  have ho : ((getS byteT 0 st).1.toNat : Int) = (opI (getS byteT 0 st).1).1 := rfl
  have p1 : Cel ((w.alloc (.cells #[.pointer (some ⟨S, 0, none⟩)] 63)).alloc (.cells #[.int .i64 0, .int .i64 0, .int .i64 0, .int .i64 0] 49)) w.heap.size #[.pointer (some ⟨S, 0, none⟩)] 63 := (Cel.new w _ 63).put (Below.heap_alloc _ _ _ (by simp))
  have r1 : Cel ((w.alloc (.cells #[.pointer (some ⟨S, 0, none⟩)] 63)).alloc (.cells #[.int .i64 0, .int .i64 0, .int .i64 0, .int .i64 0] 49)) (w.heap.size + 1) #[.int .i64 0, .int .i64 0, .int .i64 0, .int .i64 0] 49 := by
    have := Cel.new (w.alloc (.cells #[.pointer (some ⟨S, 0, none⟩)] 63)) #[.int .i64 0, .int .i64 0, .int .i64 0, .int .i64 0] 49
    rwa [World.size_alloc] at this
  have hz1 := hb1.size
  simp only [World.size_alloc] at hz1
  have p2 := p1.but hb1 (by simp; omega)
  have r2 := r1.but hb1 (by simp; omega)
  have bw : But [S] w w1 := b1.wide.trans hb1
  clear p1 r1 HB b1 hb1
  have b2 : But [] w1 ((w1.alloc (.cells #[.int .i64 ((getS byteT 0 st).1.toNat : Int), .int .i64 0, .int .i64 0, .int .i64 0] 49)).alloc (.cells #[.pointer (some ⟨w1.heap.size, 0, none⟩)] 58)) := ((But.refl [] w1).alloc _).alloc _
  have i3 : Cel ((w1.alloc (.cells #[.int .i64 ((getS byteT 0 st).1.toNat : Int), .int .i64 0, .int .i64 0, .int .i64 0] 49)).alloc (.cells #[.pointer (some ⟨w1.heap.size, 0, none⟩)] 58)) w1.heap.size (insC (opI (getS byteT 0 st).1)) 49 := (Cel.new w1 _ 49).put (Below.heap_alloc _ _ _ (by simp))
  have x3 : ((w1.alloc (.cells #[.int .i64 ((getS byteT 0 st).1.toNat : Int), .int .i64 0, .int .i64 0, .int .i64 0] 49)).alloc (.cells #[.pointer (some ⟨w1.heap.size, 0, none⟩)] 58)).cell? ⟨w1.heap.size + 1, 0, none⟩ = some (.pointer (some ⟨w1.heap.size, 0, none⟩)) := by simp [go_sem]
  have p3 := p2.but b2 (by simp)
  have r3 := r2.but b2 (by simp)
  have hs3 := hs1.keep b2
  have bw3 : But [S] w _ := bw.trans b2.wide
  clear p2 r2 b2
  rw [ho] at *
  clear ho hwr
  have hz3 : w1.heap.size < ((w1.alloc (.cells #[.int .i64 (opI (getS byteT 0 st).1).1, .int .i64 0, .int .i64 0, .int .i64 0] 49)).alloc (.cells #[.pointer (some ⟨w1.heap.size, 0, none⟩)] 58)).heap.size := by simp; omega
  generalize ((w1.alloc (.cells #[.int .i64 (opI (getS byteT 0 st).1).1, .int .i64 0, .int .i64 0, .int .i64 0] 49)).alloc (.cells #[.pointer (some ⟨w1.heap.size, 0, none⟩)] 58)) = W at *
  clear hs1 bw
  generalize opI (getS byteT 0 st).1 = x at *
  generalize (getS byteT 0 st).2 = s1 at *
  clear hs
  generalize w1.heap.size = B at *
  have hSB : S ≠ B := by omega
  refine wp_range (stab_const [S, B]) (gf := 72) (lb := #[.pointer (some ⟨B + 1, 0, none⟩)]) rfl (enters_of Tryd.func72 (by kernel_rfl) rfl)
    (used_seq (stab_const [S, B]) (B + 1) B x.1 W (hT.on (hb0.trans (bw3.below hb0.size (by simpa using hS0)))) x3 (i3.cell rfl)) (Below.refl _ _) (fun _ => rfl)
    (fun j A => SQ A S (fillQ minI maxI ((usQ x.1).take j) x s1).2 ∧ Cel A B (insC (fillQ minI maxI ((usQ x.1).take j) x s1).1) 49 ∧ Cel A w.heap.size #[.pointer (some ⟨S, 0, none⟩)] 63 ∧ Cel A (w.heap.size + 1) #[.int .i64 0, .int .i64 0, .int .i64 0, .int .i64 0] 49 ∧ But [S] w A)
    (fun _ _ => False) ?hI (fun c' u A A' row h _ _ => h) ?inn ⟨hs3, i3, p3, r3, bw3⟩ ?a1 ?assign ?body ?done ?stop
  case hI =>
    rintro j A A' row ⟨h1, h2, h3, h4, h5⟩ hg' hr
    have hr2 := fun r e => (hr r e).2
    have hb := but_of hg'
    have hz := bw3.size
    refine ⟨h1.but hb (fun y hy => ?_), h2.own hg' hr2, h3.own hg' hr2, h4.own hg' hr2, h5.trans_new hb (fun y hy => .inr ?_)⟩
    · have := (hr y (by simpa using hy)).1
      omega
    · have := (hr y (by simpa using hy)).1
      omega
  case inn =>
    rintro j A ⟨h1, h2, h3, h4, h5⟩ k hk
    simp at hk
    rcases hk with rfl | rfl
    · exact sq_blk h1
    · exact ⟨_, h2, rfl⟩
  case assign =>
    intro l x W K hK
    gi_wp2
    exact hK
  case body =>
    rintro l2 j k A hj ⟨h1, h2, h3, h4, h5⟩
    have hkl := (usQ_mem (List.mem_of_getElem? hj)).1
    have hf := fillQ_succ minI maxI hj x s1
    have hin : OwnIn (fun _ => [S, B]) A := by
      intro k hk
      simp at hk
      rcases hk with rfl | rfl
      · exact sq_blk h1
      · exact ⟨_, h2, rfl⟩
    generalize fillQ minI maxI ((usQ x.1).take j) x s1 = r at *
    have H1 := src29 r.2 A h1 minI maxI
    have cp := h3.cell (j := 0) (v := .pointer (some ⟨S, 0, none⟩)) rfl
    unfold encU
    gi_wp2_with (refine ⟨trivial, ?_⟩; gi_at_call 63; refine (CallsIn.inRound l2 (callsIn_wide.2 H1)).mono ?_; rintro e A1 ⟨hb1, hs1, v1, rfl, hv1⟩; subst hv1; have i1 := h2.but hb1 (by simpa using hSB.symm); have cv := i1.cell (insC_num r.1 hkl); have fz := i1.fz (k + 1))
    have hb2 : But [S, B] A (A1.setCell ⟨B, k + 1, none⟩ (.int .i64 (getS (intT minI maxI) 0 r.2).1)) := (hb1.mono (by simp)).set (by simp) _
    have hz := bw3.size
    refine ⟨kp_list hb2 hin, ?_, ?_, h3.but hb2 (by simp; omega), h4.but hb2 (by simp; omega), h5.trans_new hb2 (fun y hy => ?_)⟩
    · rw [hf]
      exact hs1.but (S := [B]) ((But.refl _ A1).set (by simp) _) (by simp; omega)
    · rw [hf, ← insC_set r.1 hkl]
      exact i1.set _
    · simp at hy
      rcases hy with rfl | rfl
      · exact .inl (by simp)
      · exact .inr (by omega)
  case done =>
    rintro D A hD ⟨h1, h2, h3, h4, h5⟩ hK
    rw [List.take_length, ← hn.out] at h1 h2
    have g0 := h2.cell (j := 0) (v := .int .i64 (nextP minI maxI st).1.1) rfl
    have g1 := h2.cell (j := 1) (v := .int .i64 (nextP minI maxI st).1.2.1) rfl
    have g2 := h2.cell (j := 2) (v := .int .i64 (nextP minI maxI st).1.2.2.1) rfl
    have g3 := h2.cell (j := 3) (v := .int .i64 (nextP minI maxI st).1.2.2.2) rfl
    have f0 := h4.cell (j := 0) (v := .int .i64 0) rfl
    have f1 := h4.cell (j := 1) (v := .int .i64 0) rfl
    have f2 := h4.cell (j := 2) (v := .int .i64 0) rfl
    have f3 := h4.cell (j := 3) (v := .int .i64 0) rfl
    have z := fun j => h4.fz j
    gi_wp2_with fail
    have hz := bw3.size
    have q1 := (((h4.set (j := 0) (.int .i64 (nextP minI maxI st).1.1)).set (j := 1) (.int .i64 (nextP minI maxI st).1.2.1)).set (j := 2) (.int .i64 (nextP minI maxI st).1.2.2.1)).set (j := 3) (.int .i64 (nextP minI maxI st).1.2.2.2)
    have q2 := ((((But.refl [w.heap.size + 1] A).set (p := ⟨w.heap.size + 1, 0, none⟩) (by simp) (.int .i64 (nextP minI maxI st).1.1)).set (p := ⟨w.heap.size + 1, 1, none⟩) (by simp) (.int .i64 (nextP minI maxI st).1.2.1)).set (p := ⟨w.heap.size + 1, 2, none⟩) (by simp) (.int .i64 (nextP minI maxI st).1.2.2.1)).set (p := ⟨w.heap.size + 1, 3, none⟩) (by simp) (.int .i64 (nextP minI maxI st).1.2.2.2)
    generalize ((((A.setCell ⟨w.heap.size + 1, 0, none⟩ (.int .i64 (nextP minI maxI st).1.1)).setCell ⟨w.heap.size + 1, 1, none⟩ (.int .i64 (nextP minI maxI st).1.2.1)).setCell ⟨w.heap.size + 1, 2, none⟩ (.int .i64 (nextP minI maxI st).1.2.2.1)).setCell ⟨w.heap.size + 1, 3, none⟩ (.int .i64 (nextP minI maxI st).1.2.2.2)) = A2 at q1 q2 ⊢
    have hDl := (Array.getElem?_eq_some_iff.1 hK).1
    have hM : Marks W.heap.size [D] A2 := ⟨by simp, fun y hy => by
      simp at hy
      subst hy
      exact ⟨hD, (q2.block y hDl (by simp; omega)).trans hK⟩⟩
    refine post_marks (Ds := [D]) hM (fun W' hb => ⟨_, results_cA rfl _ _ (w.heap.size + 1) (nextP minI maxI st).1 rfl (Cel.but (A := A2) q1 hb (by simp; omega)), rfl, ?_, ?_⟩)
    · exact (h5.trans_new q2 (by simp)).trans_new hb (fun y hy => by simp at hy; exact .inr (by omega))
    · exact (h1.but q2 (by simp; omega)).but hb (by simp; omega)
  case stop =>
    rintro D c' A _ h _
    exact h.elim

theorem next_any {S : Nat} {st : St} {w w0 : World} (hs : SQ w S st) (hT : Tab w0) (hb0 : Below w0.heap.size w0 w) (hS0 : w0.heap.size ≤ S) :
    Calls Tryd.prog 37 #[.pointer (some ⟨S, 0, none⟩)] w fun e w' => e = .returned (.agg (insC (nextP minI maxI st).1)) ∧ But [S] w w' ∧ SQ w' S (nextP minI maxI st).2 := callsIn_wide.1 (next_in S st w w0 hs hT hb0 hS0)

end Go.Proofs.YtbcdjpafdmgbmaaDoor
namespace Go.Proofs.YtbcdjpafdmgbmaaDoor
open Go.RowKit

/-- Numbers set, one by one. -/
def setQ (q : List Nat) (vs : List Int) (x : Ins) : Ins := (q.zip vs).foldl (fun x kv => nset x kv.1 kv.2) x
theorem zip_more {q : List Nat} {k : Nat} {v : Int} : ∀ {vs : List Int}, vs[q.length]? = some v → (q ++ [k]).zip vs = q.zip vs ++ [(k, v)] := by
  induction q with
  | nil =>
    intro vs h
    cases vs with
    | nil => simp at h
    | cons a vs => simp at h; simp [h]
  | cons a q ih =>
    intro vs h
    cases vs with
    | nil => simp at h
    | cons b vs => simp only [List.length_cons, List.getElem?_cons_succ] at h; simp [ih h]
theorem setQ_more {q : List Nat} {vs : List Int} {k : Nat} {v : Int} (h : vs[q.length]? = some v) (x : Ins) : setQ (q ++ [k]) vs x = nset (setQ q vs x) k v := by
  unfold setQ
  rw [zip_more h, List.foldl_append]
  rfl
theorem setQ_op (q : List Nat) (vs : List Int) (x : Ins) : (setQ q vs x).1 = x.1 := by
  unfold setQ
  generalize q.zip vs = l
  induction l generalizing x with
  | nil => rfl
  | cons a l ih => rw [List.foldl_cons, ih, nset_op]
/-- Three numbers in cells. -/
def arrC (y : Ins) : Array Value := #[.int .i64 y.2.1, .int .i64 y.2.2.1, .int .i64 y.2.2.2]
theorem arrC_set (y : Ins) {k : Nat} (hk : k < 3) (v : Int) : (arrC y).setIfInBounds k (.int .i64 v) = arrC (nset y k v) := by
  match k, hk with
  | 0, _ => rfl
  | 1, _ => rfl
  | 2, _ => rfl
/-- Readings, one behind the other. -/
def readN (l m : Int) : Nat → St → List Int × St
  | 0, st => ([], st)
  | n + 1, st => ((readN l m n st).1 ++ [(getS (intT l m) 0 (readN l m n st).2).1], (getS (intT l m) 0 (readN l m n st).2).2)
theorem readN_len (l m : Int) (st : St) : ∀ n, (readN l m n st).1.length = n
  | 0 => rfl
  | n + 1 => by simp [readN, readN_len l m st n]
theorem fill_read (l m : Int) (q : List Nat) (x : Ins) (st : St) : ∀ n, n ≤ q.length → fillQ l m (q.take n) x st = (setQ (q.take n) (readN l m n st).1 x, (readN l m n st).2)
  | 0, _ => rfl
  | n + 1, h => by
    have hk : q[n]? = some q[n] := List.getElem?_eq_getElem (by omega)
    have hl : (q.take n).length = n := by rw [List.length_take]; omega
    have hr := readN_len l m st n
    rw [fillQ_succ l m hk, fill_read l m q x st n (by omega)]
    refine Prod.ext ?_ rfl
    show nset (setQ (q.take n) (readN l m n st).1 x) q[n] _ = setQ (q.take (n + 1)) ((readN l m n st).1 ++ [(getS (intT l m) 0 (readN l m n st).2).1]) x
    rw [List.take_add_one, hk]
    show _ = setQ (q.take n ++ [q[n]]) _ x
    unfold setQ
    rw [List.zip_append (by rw [hl, hr]), List.foldl_append]
    rfl
theorem next_read (l m : Int) (st : St) : nextP l m st = (setQ (usQ (opI (getS byteT 0 st).1).1) (readN l m (usQ (opI (getS byteT 0 st).1).1).length (getS byteT 0 st).2).1 (opI (getS byteT 0 st).1), (readN l m (usQ (opI (getS byteT 0 st).1).1).length (getS byteT 0 st).2).2) := by
  unfold nextP
  have := fill_read l m (usQ (opI (getS byteT 0 st).1).1) (opI (getS byteT 0 st).1) (getS byteT 0 st).2 _ (Nat.le_refl _)
  rw [List.take_length] at this
  exact this
theorem usK_sub (op : Int) {i : Nat} (hi : i < 3) (h : sc op i ≠ 45) : (usK op i).length < (usK op 3).length := by
  have h1 := usK_more hi h
  have h3 : (usK op (i + 1)).length ≤ (usK op 3).length := by
    unfold usK
    exact List.Sublist.length_le (List.Sublist.filter _ (List.take_sublist _ _))
  rw [h1, List.length_append] at h3
  simp at h3
  omega

set_option maxRecDepth 100000 in
set_option maxHeartbeats 4000000 in
theorem rof_any {op : Int} {vs : List Int} {v : Value} {lo : Nat} {w : World} (ho : opB op = true) (hv : RowI w lo v vs) (hl : vs.length = (usQ op).length) :
    Calls Tryd.prog 69 #[.int .i64 op, v] w fun e w' => e = .returned (.agg (insC (setQ (usQ op) vs (op, 0, 0, 0)))) ∧ Below w.heap.size w w' := by
  have HS := rshape_any op
  obtain ⟨l0, l1, l2, hc⟩ := shL_three ho
  have s0 : sc op 0 = l0.toNat := by unfold sc; rw [hc]; rfl
  have s1 : sc op 1 = l1.toNat := by unfold sc; rw [hc]; rfl
  have s2 : sc op 2 = l2.toNat := by unfold sc; rw [hc]; rfl
  rw [hc] at HS
  rw [← usK_all ho] at hl ⊢
  clear hc ho
  obtain ⟨a, c, ev, hle, hmx, hnc, hcells⟩ := hv.shape
  have hm3 : vs.length ≤ 3 := by rw [hl]; exact usK_len _ _
  obtain ⟨m, hm⟩ : ∃ m, vs.length = m := ⟨_, rfl⟩
  rw [hm] at ev hl hm3
  have Hl := Hid.mk hl
  have Hm := Hid.mk hm
  clear hl hm hle hmx hnc hv
  subst ev
  have i0 : ∀ h, (⟨#[l0, l1, l2]⟩ : ByteArray)[0]'h = l0 := fun _ => rfl
  have i1 : ∀ h, (⟨#[l0, l1, l2]⟩ : ByteArray)[1]'h = l1 := fun _ => rfl
  have i2 : ∀ h, (⟨#[l0, l1, l2]⟩ : ByteArray)[2]'h = l2 := fun _ => rfl
  go_enter Tryd.func69, Tryd.ntmps69
  go_wp2_with (go_at_call 12; (with_reducible refine (HS _).mono ?_); rintro e w' ⟨rfl, rfl⟩)
  have hb0 : Below w.heap.size w ((w.alloc (.cells #[.int .i64 0, .int .i64 0, .int .i64 0, .int .i64 0] 49)).alloc (.cells #[.int .i64 0, .int .i64 0, .int .i64 0] 110)) := ((Below.refl _ w).alloc (Nat.le_refl _) _).alloc (by simp) _
  have q0 : Cel ((w.alloc (.cells #[.int .i64 0, .int .i64 0, .int .i64 0, .int .i64 0] 49)).alloc (.cells #[.int .i64 0, .int .i64 0, .int .i64 0] 110)) (w.heap.size + 1) #[.int .i64 0, .int .i64 0, .int .i64 0] 110 := by
    have := Cel.new (w.alloc (.cells #[.int .i64 0, .int .i64 0, .int .i64 0, .int .i64 0] 49)) #[.int .i64 0, .int .i64 0, .int .i64 0] 110
    rwa [World.size_alloc] at this
  have q1 : Cel ((w.alloc (.cells #[.int .i64 0, .int .i64 0, .int .i64 0, .int .i64 0] 49)).alloc (.cells #[.int .i64 0, .int .i64 0, .int .i64 0] 110)) w.heap.size #[.int .i64 0, .int .i64 0, .int .i64 0, .int .i64 0] 49 := (Cel.new w _ 49).put (Below.heap_alloc _ _ _ (by simp))
  generalize ((w.alloc (.cells #[.int .i64 0, .int .i64 0, .int .i64 0, .int .i64 0] 49)).alloc (.cells #[.int .i64 0, .int .i64 0, .int .i64 0] 110)) = W0 at *
  go_loopw [8, 7, 11, 12, 13, 14, 15, 16, 17, 18, 19, 20, 21, 22, 23, 24, 25, 26, 27, 28, 29, 30, 31, 32] (fun p q _ _ _ _ _ _ _ _ _ _ _ _ _ _ _ _ _ _ _ _ _ _ wr => ∃ i : Nat, i ≤ 3 ∧ p = .int .i64 i ∧ q = .int .i64 ((usK op i).length : Nat) ∧ Cel wr (w.heap.size + 1) (arrC (setQ (usK op i) vs (op, 0, 0, 0))) 110 ∧ Cel wr w.heap.size #[.int .i64 0, .int .i64 0, .int .i64 0, .int .i64 0] 49 ∧ Below w.heap.size w wr) (fun p _ _ _ _ _ _ _ _ _ _ _ _ _ _ _ _ _ _ _ _ _ _ _ _ => 3 - (intOf p).toNat)
  case atStart => exact ⟨0, by omega, rfl, rfl, q0, q1, hb0⟩
  case round =>
    obtain ⟨i, hi, rfl, rfl, hC, hR, hb⟩ := hrel
    rcases (show i = 0 ∨ i = 1 ∨ i = 2 ∨ i = 3 by omega) with rfl | rfl | rfl | rfl
    · by_cases hu : l0.toNat = 45
      · have hn := Hid.mk (usK_skip (op := op) (k := 0) (by omega) (by rw [s0]; exact hu))
        have hu2 : ((l0.toNat : Nat) : Int) = 45 := by omega
        clear hu
        go_wp2_with fail
        go_roundw
        case rel => exact ⟨1, by omega, rfl, by rw [hn.out], by rw [hn.out]; exact hC, hR, hb⟩
        case measure => decide
      · have hu0 : sc op 0 ≠ 45 := by rw [s0]; exact hu
        have hn := Hid.mk (usK_more (op := op) (k := 0) (by omega) hu0)
        have hu2 : ((l0.toNat : Nat) : Int) ≠ 45 := by omega
        have hlt := usK_sub op (by omega) hu0
        rw [← Hl.out] at hlt
        obtain ⟨kk, hkk⟩ : ∃ kk, (usK op 0).length = kk := ⟨_, rfl⟩
        obtain ⟨u, hget⟩ : ∃ u, vs[(usK op 0).length]? = some u := ⟨_, List.getElem?_eq_getElem (by rw [Hm.out]; exact hlt)⟩
        obtain ⟨g, ea, hcell⟩ := hcells _ _ hget
        have hsq := Hid.mk (setQ_more hget (k := 0) (op, 0, 0, 0))
        rw [hkk] at hlt hcell ⊢
        have hcell2 := cell_on hb hcell
        have hl3 : (kk : Int) < (m : Int) := by omega
        have hk0 : (0 : Int) ≤ (kk : Int) := by omega
        have hsum : IntKind.i64.wrap ((kk : Int) + 1) = ((kk + 1 : Nat) : Int) := by rw [IntKind.wrap_i64] <;> omega
        have hc1 := hC.cell (j := 0) rfl
        have fz := hC.fz 0
        subst ea
        clear hu hget hcell hu0
        go_wp2_with fail
        go_roundw
        case rel => exact ⟨1, by omega, rfl, by rw [hn.out, List.length_append, hkk]; simp, by rw [hn.out, hsq.out, ← arrC_set _ (by omega)]; exact hC.set _, hR.other (by omega) _, hb.setCell (p := ⟨w.heap.size + 1, 0, none⟩) (by simp) _⟩
        case measure => decide
    · by_cases hu : l1.toNat = 45
      · have hn := Hid.mk (usK_skip (op := op) (k := 1) (by omega) (by rw [s1]; exact hu))
        have hu2 : ((l1.toNat : Nat) : Int) = 45 := by omega
        clear hu
        go_wp2_with fail
        go_roundw
        case rel => exact ⟨2, by omega, rfl, by rw [hn.out], by rw [hn.out]; exact hC, hR, hb⟩
        case measure => decide
      · have hu0 : sc op 1 ≠ 45 := by rw [s1]; exact hu
        have hn := Hid.mk (usK_more (op := op) (k := 1) (by omega) hu0)
        have hu2 : ((l1.toNat : Nat) : Int) ≠ 45 := by omega
        have hlt := usK_sub op (by omega) hu0
        rw [← Hl.out] at hlt
        obtain ⟨kk, hkk⟩ : ∃ kk, (usK op 1).length = kk := ⟨_, rfl⟩
        obtain ⟨u, hget⟩ : ∃ u, vs[(usK op 1).length]? = some u := ⟨_, List.getElem?_eq_getElem (by rw [Hm.out]; exact hlt)⟩
        obtain ⟨g, ea, hcell⟩ := hcells _ _ hget
        have hsq := Hid.mk (setQ_more hget (k := 1) (op, 0, 0, 0))
        rw [hkk] at hlt hcell ⊢
        have hcell2 := cell_on hb hcell
        have hl3 : (kk : Int) < (m : Int) := by omega
        have hk0 : (0 : Int) ≤ (kk : Int) := by omega
        have hsum : IntKind.i64.wrap ((kk : Int) + 1) = ((kk + 1 : Nat) : Int) := by rw [IntKind.wrap_i64] <;> omega
        have hc1 := hC.cell (j := 1) rfl
        have fz := hC.fz 1
        subst ea
        clear hu hget hcell hu0
        go_wp2_with fail
        go_roundw
        case rel => exact ⟨2, by omega, rfl, by rw [hn.out, List.length_append, hkk]; simp, by rw [hn.out, hsq.out, ← arrC_set _ (by omega)]; exact hC.set _, hR.other (by omega) _, hb.setCell (p := ⟨w.heap.size + 1, 1, none⟩) (by simp) _⟩
        case measure => decide
    · by_cases hu : l2.toNat = 45
      · have hn := Hid.mk (usK_skip (op := op) (k := 2) (by omega) (by rw [s2]; exact hu))
        have hu2 : ((l2.toNat : Nat) : Int) = 45 := by omega
        clear hu
        go_wp2_with fail
        go_roundw
        case rel => exact ⟨3, by omega, rfl, by rw [hn.out], by rw [hn.out]; exact hC, hR, hb⟩
        case measure => decide
      · have hu0 : sc op 2 ≠ 45 := by rw [s2]; exact hu
        have hn := Hid.mk (usK_more (op := op) (k := 2) (by omega) hu0)
        have hu2 : ((l2.toNat : Nat) : Int) ≠ 45 := by omega
        have hlt := usK_sub op (by omega) hu0
        rw [← Hl.out] at hlt
        obtain ⟨kk, hkk⟩ : ∃ kk, (usK op 2).length = kk := ⟨_, rfl⟩
        obtain ⟨u, hget⟩ : ∃ u, vs[(usK op 2).length]? = some u := ⟨_, List.getElem?_eq_getElem (by rw [Hm.out]; exact hlt)⟩
        obtain ⟨g, ea, hcell⟩ := hcells _ _ hget
        have hsq := Hid.mk (setQ_more hget (k := 2) (op, 0, 0, 0))
        rw [hkk] at hlt hcell ⊢
        have hcell2 := cell_on hb hcell
        have hl3 : (kk : Int) < (m : Int) := by omega
        have hk0 : (0 : Int) ≤ (kk : Int) := by omega
        have hsum : IntKind.i64.wrap ((kk : Int) + 1) = ((kk + 1 : Nat) : Int) := by rw [IntKind.wrap_i64] <;> omega
        have hc1 := hC.cell (j := 2) rfl
        have fz := hC.fz 2
        subst ea
        clear hu hget hcell hu0
        go_wp2_with fail
        go_roundw
        case rel => exact ⟨3, by omega, rfl, by rw [hn.out, List.length_append, hkk]; simp, by rw [hn.out, hsq.out, ← arrC_set _ (by omega)]; exact hC.set _, hR.other (by omega) _, hb.setCell (p := ⟨w.heap.size + 1, 2, none⟩) (by simp) _⟩
        case measure => decide
    · have e1 := Hid.mk (setQ_op (usK op 3) vs (op, 0, 0, 0))
      rcases hy : setQ (usK op 3) vs (op, 0, 0, 0) with ⟨y0, y1, y2, y3⟩
      rw [hy] at hC e1
      have Hy := Hid.mk hy
      clear hy
      have g0 := hC.cell (j := 0) (v := .int .i64 y1) rfl
      have g1 := hC.cell (j := 1) (v := .int .i64 y2) rfl
      have g2 := hC.cell (j := 2) (v := .int .i64 y3) rfl
      have f0 := hR.cell (j := 0) (v := .int .i64 0) rfl
      have f1 := hR.cell (j := 1) (v := .int .i64 0) rfl
      have f2 := hR.cell (j := 2) (v := .int .i64 0) rfl
      have f3 := hR.cell (j := 3) (v := .int .i64 0) rfl
      have z := fun j => hR.fz j
      generalize (usK op 3).length = kk at *
      go_wp2_with fail
      have q3 := (((hR.set (j := 0) (.int .i64 op)).set (j := 1) (.int .i64 y1)).set (j := 2) (.int .i64 y2)).set (j := 3) (.int .i64 y3)
      have hq : op = y0 := e1.out.symm
      refine bodyPost_ret (results_cA rfl _ _ w.heap.size (y0, y1, y2, y3) rfl ?_) rfl ⟨by rw [Hy.out], ?_⟩
      · rw [← hq]
        exact q3
      · exact (((hb.setCell (p := ⟨w.heap.size, 0, none⟩) (by simp) _).setCell (p := ⟨w.heap.size, 1, none⟩) (by simp) _).setCell (p := ⟨w.heap.size, 2, none⟩) (by simp) _).setCell (p := ⟨w.heap.size, 3, none⟩) (by simp) _

end Go.Proofs.YtbcdjpafdmgbmaaDoor
