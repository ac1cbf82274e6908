/- Good: the program's. -/
import Derived.Test.YtllnpkijojpccaaDoorNumb
namespace Go.Proofs.YtllnpkijojpccaaDoor
open Go.RowKit Go.Shelf
attribute [local go_sem] Oper.semAt_some

/-- Cells that lie in a block. -/
def Cel (A : World) (k : Nat) (cur : Array Value) (t : TypeId) : Prop := A.heap[k]? = some (.cells cur t (0, 0))
theorem Cel.cell {A : World} {k j : Nat} {cur : Array Value} {t : TypeId} {v : Value} (h : Cel A k cur t) (hv : cur[j]? = some v) : A.cell? ⟨k, j, none⟩ = some v := by
  simp [World.cell?, show A.heap[k]? = _ from h, hv]
theorem Cel.fz {A : World} {k : Nat} {cur : Array Value} {t : TypeId} (h : Cel A k cur t) (j : Nat) : A.frozen? ⟨k, j, none⟩ = false := by
  simp [World.frozen?, show A.heap[k]? = _ from h]
theorem Cel.lt {A : World} {k : Nat} {cur : Array Value} {t : TypeId} (h : Cel A k cur t) : k < A.heap.size := (Array.getElem?_eq_some_iff.1 h).1
theorem Cel.put {A B : World} {k : Nat} {cur : Array Value} {t : TypeId} (h : Cel A k cur t) (e : B.heap[k]? = A.heap[k]?) : Cel B k cur t := e.trans h
theorem Cel.but {S : List Nat} {A B : World} {k : Nat} {cur : Array Value} {t : TypeId} (h : Cel A k cur t) (hb : But S A B) (hS : k ∉ S) : Cel B k cur t := h.put (hb.block k h.lt hS)
theorem Cel.below {A B : World} {k : Nat} {cur : Array Value} {t : TypeId} (h : Cel A k cur t) (hb : Below A.heap.size A B) : Cel B k cur t := h.put (hb.block k h.lt)
theorem Cel.new (A : World) (cur : Array Value) (t : TypeId) : Cel (A.alloc (.cells cur t)) A.heap.size cur t := World.alloc_heap_new A _
theorem Cel.set {A : World} {k j : Nat} {cur : Array Value} {t : TypeId} (h : Cel A k cur t) (v : Value) : Cel (A.setCell ⟨k, j, none⟩ v) k (cur.setIfInBounds j v) t := heap_setCell_same A k j _ t v h
theorem Cel.other {A : World} {k k' j : Nat} {cur : Array Value} {t : TypeId} (h : Cel A k cur t) (hne : k ≠ k') (v : Value) : Cel (A.setCell ⟨k', j, none⟩ v) k cur t := h.put (Below.heap_setCell A ⟨k', j, none⟩ v k hne)
theorem Cel.own {A B : World} {row : Option Nat} {k : Nat} {cur : Array Value} {t : TypeId} (h : Cel A k cur t) (hg : A.grownBy B row) (hr : ∀ r, row = some r → ∃ o : Obj, A.heap[r]? = some o ∧ o.isCells = false) : Cel B k cur t := by
  refine h.put (hg.block k h.lt (fun e => ?_))
  obtain ⟨o, ho, hc⟩ := hr k e.symm
  rw [show A.heap[k]? = _ from h] at ho
  cases ho
  cases hc
theorem below_own {n : Nat} {w A B : World} {row : Option Nat} (h : Below n w A) (hg : A.grownBy B row) (hr : ∀ r, row = some r → n ≤ r) (hn : n ≤ A.heap.size) : Below n w B := h.grown hg hn (fun k e => hr k e)
theorem kp_refl (own : World → List Nat) (b : Nat) (A : World) : Kp own b A A := ⟨KeepsFrom.refl _ _, fun _ _ h _ _ => h, fun _ _ h => h⟩

/-- An instruction's cells. -/
def insC (x : Ins) : Array Value := #[.int .i64 x.1, .int .i64 x.2.1, .int .i64 x.2.2.1, .int .i64 x.2.2.2]
theorem insC_num (x : Ins) {k : Nat} (h : k < 3) : (insC x)[k + 1]? = some (.int .i64 (nk x k)) := by
  match k, h with
  | 0, _ => rfl
  | 1, _ => rfl
  | 2, _ => rfl
/-- The first i numbers may be. -/
def mayN (n : Int) (x : Ins) (i : Nat) : Bool := ((numQ x.1).take i).all (fun k => mayB (sc x.1 k) (nk x k) n)
theorem mayN_zero (n : Int) (x : Ins) : mayN n x 0 = true := by simp [mayN]
theorem mayN_succ {n : Int} {x : Ins} {i k : Nat} (h : (numQ x.1)[i]? = some k) : mayN n x (i + 1) = (mayN n x i && mayB (sc x.1 k) (nk x k) n) := by
  unfold mayN
  rw [List.take_add_one, h, List.all_append]
  simp
theorem mayN_all {n : Int} {x : Ins} (ho : opB x.1 = true) : mayN n x (numQ x.1).length = goodB n x := by
  have hq : numQ x.1 = [0, 1, 2] := by unfold numQ; rw [ho]; rfl
  unfold mayN goodB
  rw [hq, ho]
  simp
theorem mayN_bad {n : Int} {x : Ins} (ho : opB x.1 = true) {i k : Nat} (h : (numQ x.1)[i]? = some k) (hb : mayB (sc x.1 k) (nk x k) n = false) : goodB n x = false := by
  rw [← mayN_all ho]
  unfold mayN
  rw [List.take_length]
  cases hc : ((numQ x.1).all fun k => mayB (sc x.1 k) (nk x k) n) with
  | false => rfl
  | true =>
    rw [List.all_eq_true] at hc
    have := hc k (List.mem_of_getElem? h)
    rw [hb] at this
    cases this

/-- A result that lies in a cell. -/
theorem results_c1 {P : Program} {fn : Func} {p : Tmp} {ty : TypeId} (h : fn.results = #[.cell p ty]) (tmps : Array Value) (w : World) (g : Nat) (v : Value) (hp : tmps.getD p undef = .pointer (some ⟨g, 0, none⟩)) (hc : w.cell? ⟨g, 0, none⟩ = some v)
    (ha : (isAgg ty).run P w = .ok false w) : (results fn tmps).run P w = .ok v w := by
  have hp' : tmps[p]?.getD undef = .pointer (some ⟨g, 0, none⟩) := by simpa using hp
  simp [results, h, hp', asAddr, loadVar, ha, go_sem, hc]

set_option maxRecDepth 100000 in
set_option maxHeartbeats 2000000 in
theorem good_in (ps : List Ins) (a : Option Addr) (n c i : Nat) (w : World) (hn : ps.length = n) (hp : PV w a ps) (hi : i < n) (ho : opB (ins ps i).1 = true) (hT : Tab w) :
    CallsIn Fence.wide 9 Tryd.prog 34 #[.slice a n c, .int .i64 (i : Int)] w fun e w' => e = .returned (.bool (goodB n (ins ps i))) ∧ Below w.heap.size w w' := by
  obtain ⟨b, o, rfl, c0, c1, c2, c3⟩ := hp i (by omega)
  have HO := isop_any (ins ps i).1
  rw [ho] at HO
  have hlt : (i : Int) < (n : Int) := by omega
  have h0 : (0 : Int) ≤ (i : Int) := by omega
  generalize hx : ins ps i = x at *
  clear hp hn hx
  refine callsIn_of_wp_marks Tryd.func34 rfl trivial ?_ rfl
  simp only [Tryd.ntmps34, List.size_toArray, List.length_cons, List.length_nil, Nat.reduceAdd, Nat.reduceSub, Array.replicate_succ, Array.replicate_zero, List.push_toArray, List.append_toArray, List.nil_append, List.cons_append]
  have B1 : Below w.heap.size w ((w.alloc (.cells #[.slice (some ⟨b, o, none⟩) n c] 23)).alloc (.cells #[.bool false] 4)) := ((Below.refl _ w).alloc (Nat.le_refl _) _).alloc (by simp) _
  have k0 := cell_on B1 c0
  have k1 := cell_on B1 c1
  have k2 := cell_on B1 c2
  have k3 := cell_on B1 c3
  gi_wp2_with (first
    | (refine ⟨trivial, ?_⟩; gi_at_call 39; refine (callsIn_wide.2 (HO _)).mono ?_; rintro e w' ⟨rfl, rfl⟩)
    | (refine ⟨trivial, ?_⟩; gi_at_call 40; refine (callsIn_wide.2 (numbers_any _ _)).mono ?_; rintro e w' ⟨rfl, rfl⟩))
  have eW : ∀ W4 : World, W4 = ((((w.alloc (.cells #[.slice (some ⟨b, o, none⟩) n c] 23)).alloc (.cells #[.bool false] 4)).alloc (.cells #[.int .i64 x.1, .int .i64 x.2.1, .int .i64 x.2.2.1, .int .i64 x.2.2.2] 51)).alloc (.cells #[.pointer (some ⟨w.heap.size + 1 + 1, 0, none⟩)] 74)) →
      Below w.heap.size w W4 ∧ Cel W4 w.heap.size #[.slice (some ⟨b, o, none⟩) n c] 23 ∧ Cel W4 (w.heap.size + 1) #[.bool false] 4 ∧ Cel W4 (w.heap.size + 1 + 1) (insC x) 51 ∧ W4.cell? ⟨w.heap.size + 1 + 1 + 1, 0, none⟩ = some (.pointer (some ⟨w.heap.size + 1 + 1, 0, none⟩)) ∧ W4.heap.size = w.heap.size + 4 := by
    rintro W4 rfl
    refine ⟨(B1.alloc (by simp; omega) _).alloc (by simp; omega) _, ?_, ?_, ?_, ?_, ?_⟩
    · exact (((Cel.new w _ 23).put (Below.heap_alloc _ _ _ (by simp))).put (Below.heap_alloc _ _ _ (by simp; omega))).put (Below.heap_alloc _ _ _ (by simp; omega))
    · have h := Cel.new (w.alloc (.cells #[.slice (some ⟨b, o, none⟩) n c] 23)) #[.bool false] 4
      rw [World.size_alloc] at h
      exact (h.put (Below.heap_alloc _ _ _ (by simp))).put (Below.heap_alloc _ _ _ (by simp))
    · have h := Cel.new ((w.alloc (.cells #[.slice (some ⟨b, o, none⟩) n c] 23)).alloc (.cells #[.bool false] 4)) (insC x) 51
      rw [World.size_alloc, World.size_alloc] at h
      exact h.put (Below.heap_alloc _ _ _ (by simp))
    · simp [go_sem]
    · simp
  obtain ⟨hB4, hp4, hr4, hi4, hx4, hs4⟩ := eW _ rfl
  clear eW k0 k1 k2 k3 c0 c1 c2 c3 B1
  generalize ((((w.alloc (.cells #[.slice (some ⟨b, o, none⟩) n c] 23)).alloc (.cells #[.bool false] 4)).alloc (.cells #[.int .i64 x.1, .int .i64 x.2.1, .int .i64 x.2.2.1, .int .i64 x.2.2.2] 51)).alloc (.cells #[.pointer (some ⟨w.heap.size + 1 + 1, 0, none⟩)] 74)) = W4 at *
  refine wp_range (stab_const []) (gf := 42) (lb := #[.pointer (some ⟨w.heap.size + 1 + 1 + 1, 0, none⟩)]) rfl (enters_of Tryd.func42 (by kernel_rfl) rfl)
    (numbers_seq (stab_const []) (w.heap.size + 1 + 1 + 1) (w.heap.size + 1 + 1) x.1 W4 (hT.on hB4) hx4 (hi4.cell rfl)) (Below.refl _ _) (fun _ => rfl)
    (fun j A => mayN n x j = true ∧ Below w.heap.size w A ∧ Cel A w.heap.size #[.slice (some ⟨b, o, none⟩) n c] 23 ∧ Cel A (w.heap.size + 1) #[.bool false] 4 ∧ Cel A (w.heap.size + 1 + 1) (insC x) 51)
    (fun c' A => c' = .ret ∧ goodB n x = false ∧ Below w.heap.size w A ∧ Cel A (w.heap.size + 1) #[.bool false] 4)
    ?hI ?hIx (fun i A _ k hk => by cases hk) ⟨mayN_zero _ _, hB4, hp4, hr4, hi4⟩ ?a1 ?assign ?body ?done ?stop
  case hI =>
    rintro j A A' row ⟨h1, h2, h3, h4, h5⟩ hg hr
    exact ⟨h1, below_own h2 hg (fun r e => by have := (hr r e).1; omega) h2.size, h3.own hg (fun r e => (hr r e).2), h4.own hg (fun r e => (hr r e).2), h5.own hg (fun r e => (hr r e).2)⟩
  case hIx =>
    rintro c' u A A' row ⟨h1, h2, h3, h4⟩ hg hr
    exact ⟨h1, h2, below_own h3 hg (fun r e => by have := (hr r e).1; omega) h3.size, h4.own hg (fun r e => (hr r e).2)⟩
  case assign =>
    intro l x W K hK
    gi_wp2
    exact hK
  case body =>
    rintro l2 j k A hj ⟨h1, h2, h3, h4, h5⟩
    have hkl : k < 3 := numQ_lt (List.mem_of_getElem? hj)
    have cv := h5.cell (insC_num x hkl)
    have cp : A.cell? ⟨w.heap.size, 0, none⟩ = some (.slice (some ⟨b, o, none⟩) n c) := h3.cell rfl
    have cr : A.cell? ⟨w.heap.size + 1, 0, none⟩ = some (.bool false) := h4.cell rfl
    have fr := h4.fz 0
    have hms := mayN_succ (n := n) hj
    have hbad : mayB (sc x.1 k) (nk x k) n = false → goodB n x = false := fun h => mayN_bad ho hj h
    have HB := bounds_any (sc x.1 k) n A
    unfold mayB at hms hbad
    unfold encN
    generalize nk x k = v at *
    generalize ((sc x.1 k : Nat) : Int) = z at *
    generalize bdL (sc x.1 k) n = q at *
    obtain ⟨lo, up⟩ := q
    dsimp only at hms hbad HB
    by_cases hlo : v < lo
    · have hd : decide (lo ≤ v) = false := by simp; omega
      rw [hd] at hbad
      gi_wp2_with (refine ⟨trivial, ?_⟩; gi_at_call 41; refine (CallsIn.inRound l2 (callsIn_wide.2 HB)).mono ?_; rintro e w' ⟨rfl, rfl⟩)
      exact ⟨(KeepsOthers.setCell _ _ _).from _, rfl, hbad (by simp), h2.setCell (p := ⟨w.heap.size + 1, 0, none⟩) (by simp) _, h4.set (.bool false)⟩
    · by_cases hup : up < v
      · have hd : decide (v ≤ up) = false := by simp; omega
        rw [hd] at hbad
        gi_wp2_with (refine ⟨trivial, ?_⟩; gi_at_call 41; refine (CallsIn.inRound l2 (callsIn_wide.2 HB)).mono ?_; rintro e w' ⟨rfl, rfl⟩)
        exact ⟨(KeepsOthers.setCell _ _ _).from _, rfl, hbad (by simp), h2.setCell (p := ⟨w.heap.size + 1, 0, none⟩) (by simp) _, h4.set (.bool false)⟩
      · have hd1 : decide (lo ≤ v) = true := by simp; omega
        have hd2 : decide (v ≤ up) = true := by simp; omega
        rw [hd1, hd2, h1] at hms
        gi_wp2_with (refine ⟨trivial, ?_⟩; gi_at_call 41; refine (CallsIn.inRound l2 (callsIn_wide.2 HB)).mono ?_; rintro e w' ⟨rfl, rfl⟩)
        exact ⟨kp_refl _ _ _, by rw [hms]; rfl, h2, h3, h4, h5⟩
  case done =>
    rintro D A hD ⟨h1, h2, h3, h4, h5⟩ hK
    rw [mayN_all ho] at h1
    have cr : A.cell? ⟨w.heap.size + 1, 0, none⟩ = some (.bool false) := h4.cell rfl
    have fr := h4.fz 0
    gi_wp2_with fail
    have hK2 := (KeepsOthers.setCell A ⟨w.heap.size + 1, 0, none⟩ (.bool true)).same D _ hK rfl
    have h6 : Cel ((A.setCell ⟨w.heap.size + 1, 0, none⟩ (.bool true)).putObj D (.deferred none)) (w.heap.size + 1) #[.bool true] 4 := (h4.set (.bool true)).put (World.putObj_heap_other (by have := h4.lt; omega))
    have c6 : ((A.setCell ⟨w.heap.size + 1, 0, none⟩ (.bool true)).putObj D (.deferred none)).cell? ⟨w.heap.size + 1, 0, none⟩ = some (.bool true) := h6.cell rfl
    refine ⟨by simp, .inl ⟨_, _, rfl, run_takeDeferred hK2, ?_⟩⟩
    refine ⟨.bool true, ?_, by rw [h1], ?_⟩
    · exact results_c1 rfl _ _ (w.heap.size + 1) _ rfl c6 (Tryd.isAgg4 _)
    · exact below_own (h2.setCell (p := ⟨w.heap.size + 1, 0, none⟩) (by simp) _) (grownBy_putObj' _ D _) (fun r e => by cases e; omega) (by have := h2.size; simp [World.setCell]; omega)
  case stop =>
    rintro D c' A hD ⟨rfl, h1, h2, h3⟩ hK
    gi_wp2_with fail
    have h6 : Cel (A.putObj D (.deferred none)) (w.heap.size + 1) #[.bool false] 4 := h3.put (World.putObj_heap_other (by have := h3.lt; omega))
    refine ⟨by simp, .inl ⟨_, _, rfl, run_takeDeferred hK, ?_⟩⟩
    refine ⟨.bool false, ?_, by rw [h1], ?_⟩
    · exact results_c1 rfl _ _ (w.heap.size + 1) _ rfl (h6.cell rfl) (Tryd.isAgg4 _)
    · exact below_own h2 (grownBy_putObj' _ D _) (fun r e => by cases e; omega) h2.size

end Go.Proofs.YtllnpkijojpccaaDoor
