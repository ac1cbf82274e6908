/- What a text says, plain: while it is read. -/
/- Scan, the program's: the iterator of lines that say something. -/
import Derived.Test.YtbcdjpafdmgbmaaGreatDoorJ26BackT
import Derived.Test.YtbcdjpafdmgbmaaGreatDoorJ19BackT
namespace Go.Proofs.YtbcdjpafdmgbmaaGreatDoor
open Go.RowKit

abbrev Ent := Nat × List (List UInt8)
/-- Entries that are read: all say an instruction. -/
structure Red (E : List Ent) (ps : List Ins) (ns : List Int) : Prop where
  ok : ∀ e ∈ E, (insW e.2).isSome = true
  ps : progE E = ps
  ns : E.map (fun e => (e.1 : Int)) = ns
theorem Red.nil : Red [] [] [] := ⟨(fun _ h => by cases h), rfl, rfl⟩
theorem Red.snoc {E : List Ent} {ps : List Ins} {ns : List Int} (h : Red E ps ns) {n : Nat} {ws : List (List UInt8)} {x : Ins} (hx : insW ws = some x) : Red (E ++ [(n, ws)]) (ps ++ [x]) (ns ++ [(n : Int)]) := by
  refine ⟨fun e he => ?_, ?_, ?_⟩
  · rcases List.mem_append.1 he with he | he
    · exact h.ok e he
    · simp at he
      subst he
      rw [hx]
      rfl
  · unfold progE
    rw [List.filterMap_append, show E.filterMap (fun e => insW e.2) = ps from h.ps]
    simp [hx]
  · rw [List.map_append, h.ns]
    rfl
theorem Red.len {E : List Ent} {ps : List Ins} {ns : List Int} (h : Red E ps ns) : ps.length = E.length ∧ ns.length = E.length := by
  constructor
  · rw [← h.ps]
    unfold progE
    have hok := h.ok
    clear h
    induction E with
    | nil => rfl
    | cons e E ih =>
      have h1 := hok e List.mem_cons_self
      have h2 := ih (fun e' he => hok e' (List.mem_cons_of_mem _ he))
      obtain ⟨x, hx⟩ := Option.isSome_iff_exists.1 h1
      rw [List.filterMap_cons, hx]
      simp [h2]
  · rw [← h.ns, List.length_map]
theorem badE_at {E R : List Ent} {ps : List Ins} {ns : List Int} (h : Red E ps ns) {n : Nat} {ws : List (List UInt8)} (hx : insW ws = none) : badE (E ++ (n, ws) :: R) = some n := by
  unfold badE
  have : (E ++ (n, ws) :: R).find? (fun e => (insW e.2).isNone) = some (n, ws) := by
    rw [List.find?_append]
    have h1 : E.find? (fun e => (insW e.2).isNone) = none := by
      rw [List.find?_eq_none]
      intro e he
      have := h.ok e he
      simp [Option.isSome_iff_ne_none.1 this]
    rw [h1, List.find?_cons]
    simp [hx]
  rw [this]
  rfl
theorem badE_no {E : List Ent} {ps : List Ins} {ns : List Int} (h : Red E ps ns) : badE E = none := by
  unfold badE
  have h1 : E.find? (fun e => (insW e.2).isNone) = none := by
    rw [List.find?_eq_none]
    intro e he
    have := h.ok e he
    simp [Option.isSome_iff_ne_none.1 this]
  rw [h1]
  rfl
theorem scan_long {s : List UInt8} (h : 4096 < s.length) : scanV s = ([], 0, 12) := by
  unfold scanV
  rw [if_pos h]
theorem scan_line {s : List UInt8} (h : s.length ≤ 4096) {E R : List Ent} {ps : List Ins} {ns : List Int} (hg : Red E ps ns) {n : Nat} {ws : List (List UInt8)} (he : ents s = E ++ (n, ws) :: R) (hx : insW ws = none) : scanV s = ([], n, 11) := by
  unfold scanV
  rw [if_neg (by omega), he, badE_at hg hx]
theorem scan_bad {s : List UInt8} (h : s.length ≤ 4096) {ps : List Ins} {ns : List Int} (hg : Red (ents s) ps ns) {i : Nat} (hi : i < ps.length) (hall : ∀ j, j < i → goodAt ps (j : Int) = true) (hb : goodAt ps (i : Int) = false) : ∃ n : Nat, ns[i]? = some (n : Int) ∧ scanV s = ([], n, 10) := by
  have hl := hg.len
  have hf : (List.range ps.length).find? (fun (j : Nat) => !goodAt ps (j : Int)) = some i := by
    rw [List.find?_eq_some_iff_getElem]
    refine ⟨by simp [hb], i, by simpa using hi, by simp, fun j hj => ?_⟩
    simp [hall j hj]
  obtain ⟨e, he⟩ : ∃ e, (ents s)[i]? = some e := ⟨_, List.getElem?_eq_getElem (by omega)⟩
  refine ⟨e.1, by rw [← hg.ns, List.getElem?_map, he]; rfl, ?_⟩
  unfold scanV
  rw [if_neg (by omega), badE_no hg, hg.ps]
  simp only
  rw [hf]
  simp only
  rw [List.getD_eq_getElem?_getD, List.getElem?_map, he]
  rfl
theorem scan_end {s : List UInt8} (h : s.length ≤ 4096) {ps : List Ins} {ns : List Int} (hg : Red (ents s) ps ns) (hall : ∀ j, j < ps.length → goodAt ps (j : Int) = true) : scanV s = if 64 < ps.length then ([], 0, 12) else (ps, 0, 0) := by
  have hf : (List.range ps.length).find? (fun (j : Nat) => !goodAt ps (j : Int)) = none := by
    rw [List.find?_eq_none]
    intro j hj
    simp [hall j (by simpa using hj)]
  unfold scanV
  rw [if_neg (by omega), badE_no hg, hg.ps]
  simp only
  rw [hf]
/-- How many entries there are at most. -/
theorem entsN_len : ∀ (ls : List (List UInt8)) (n : Nat), (entsN n ls).length ≤ ls.length
  | [], _ => Nat.le_refl _
  | l :: ls, n => by
    have := entsN_len ls (n + 1)
    unfold entsN
    split
    · simp; omega
    · simp; omega
theorem linesG_len : ∀ (s cur : List UInt8), (linesG cur s).length ≤ s.length + 1
  | [], cur => by simp [linesG]
  | c :: t, cur => by
    have h1 := linesG_len t []
    have h2 := linesG_len t (cur ++ [c])
    unfold linesG
    split
    · simp; omega
    · simp; omega
theorem ents_len (s : List UInt8) : (ents s).length ≤ s.length + 1 := Nat.le_trans (entsN_len _ _) (linesG_len _ _)
theorem wordsG_short : ∀ (s cur : List UInt8) (x : List UInt8), x ∈ wordsG cur s → x.length ≤ cur.length + s.length
  | [], cur, x, h => by
    unfold wordsG at h
    split at h
    · cases h
    · simp at h; subst h; simp
  | c :: t, cur, x, h => by
    unfold wordsG at h
    split at h
    · split at h
      · have := wordsG_short t [] x h
        simp at this ⊢
        omega
      · rcases List.mem_cons.1 h with rfl | h
        · simp
        · have := wordsG_short t [] x h
          simp at this ⊢
          omega
    · have := wordsG_short t (cur ++ [c]) x h
      simp at this ⊢
      omega
/-- Rows of instructions and of ints are apart. -/
theorem ow_apart {w : World} {lo lo' k : Nat} {v v' : Value} {ps : List Ins} {ns : List Int} (h : Ow w lo v ps) (h' : RowI w lo' v' ns) (e : v.ownBlock = some k) (e' : v'.ownBlock = some k) : False := by
  rcases h.2 with ⟨rfl, _⟩ | ⟨g, cap, cur, rfl, _, hg, _⟩
  · simp [Value.ownBlock] at e
  · rcases h'.2 with ⟨rfl, _⟩ | ⟨g', cap', cur', rfl, _, hg', _⟩
    · simp [Value.ownBlock] at e'
    · simp only [Value.ownBlock, Option.some.injEq] at e e'
      subst e e'
      rw [hg] at hg'
      cases hg'

end Go.Proofs.YtbcdjpafdmgbmaaGreatDoor
namespace Go.Proofs.YtbcdjpafdmgbmaaGreatDoor
open Go.RowKit Go.Shelf
attribute [local go_sem] Oper.semAt_some

/-- Where the library keeps how long a text may be that is searched at once. -/
def mxB : Nat := Tryz.laysM145_ren.g 1
theorem cut_any {s : List UInt8} {w : World} (hs : s.length < 4294967281) {m : Int} (hm : w.cell? ⟨mxB, 0, none⟩ = some (.int .i64 m)) :
    Calls Tryz.prog 44 #[.string (strB s), .string ⟨#[10]⟩] w fun e w' => e = .returned (.tuple #[.string (strB (Lib.cut s [10]).1), .string (strB (Lib.cut s [10]).2.1), .bool (Lib.cut s [10]).2.2]) ∧ ∃ n, w' = w.drewN n := by
  have h := Any.strings_Cut (P := Tryz.prog) (ρ := Tryz.laysM145_ren) { Tryz.laysM145 with } (strB s) ⟨#[10]⟩ m w (by rw [strB_size]; exact hs) hm
  rw [strB_data] at h
  exact h
theorem blank_pred (w : World) : PredAt Tryz.prog 46 #[] encR blankP w := fun W r _ => by
  unfold FnGives
  have e : decide ((r : Int) = 32) = blankP r := by
    unfold blankP
    by_cases h : r = 32
    · subst h; rfl
    · have h2 : ¬ (r : Int) = 32 := by omega
      simp [h, h2]
  go_enter Tryz.func46, Tryz.ntmps46
  go_wp2
  go_ret
  exact ⟨by rw [← e]; rfl, 0, rfl⟩
theorem fields_any (l : List UInt8) (w : World) (hl : l.length ≤ 4294967296) {n : Nat} (hn : (wordsB l).length = n) :
    Calls Tryz.prog 45 #[.string (strB l), .func (.func 46) #[] #[]] w fun e w' => (∃ A, e = .returned (.slice (some ⟨A, 0, none⟩) n n) ∧ WV w' (some ⟨A, 0, none⟩) (wordsB l)) ∧ Below w.heap.size w w' := by
  have h := Tryz.strings_FieldsFunc 46 #[] (enters_of Tryz.func46 (by kernel_rfl) rfl) blankP (strB l) w (by rw [strB_size]; exact hl) (blank_pred w)
  rw [fields_words, strB_data] at h
  simp only [List.length_map, List.map_map, hn] at h
  refine h.mono ?_
  rintro e w' ⟨A, rfl, _, ho, hb⟩
  refine ⟨⟨A, rfl, ?_⟩, hb⟩
  have ho2 : RowS w' w.heap.size (.slice (some ⟨A, 0, none⟩) n n) (wordsB l) := by
    unfold RowS
    rw [hn]
    exact ho
  obtain ⟨a, c, e, _, hw⟩ := ho2.sl hn
  cases e
  exact hw
theorem lines_any (s : List UInt8) (w : World) :
    Calls Tryz.prog 20 #[.string (strB s)] w fun e w' => e = .returned (.func (.func 43) #[] #[.pointer (some ⟨w.heap.size, 0, none⟩)]) ∧ w' = w.alloc (.cells #[.string (strB s)] 9) := by
  go_enter Tryz.func20, Tryz.ntmps20
  go_wp2_with fail
  go_ret
  exact ⟨rfl, rfl⟩

/-- How a line's number and words are told. -/
def EncL (x : Ent) (v : Array Value) (W : World) : Prop := ∃ a c, v = #[.int .i64 (x.1 : Nat), .slice a x.2.length c] ∧ x.2.length ≤ c ∧ WV W a x.2
def strLen : Value → Nat
  | .string s => s.size
  | _ => 0
theorem cut_fst (s : List UInt8) : (Lib.cut s [10]).1.length ≤ s.length := by
  unfold Lib.cut
  split
  · simp only [List.length_take]
    omega
  · exact Nat.le_refl _
/-- How far the lines have been told. -/
structure Ln (s t : List UInt8) (n i : Nat) : Prop where
  le : t.length ≤ s.length
  num : n + t.length ≤ s.length + 1
  all : ∃ E : List Ent, E.length = i ∧ ents s = E ++ entsN n (linesG [] t)
theorem Ln.skip {s t : List UInt8} {n i : Nat} (h : Ln s t n i) (ht : t ≠ []) (hs : saysB (Lib.cut t [10]).1 = false) : Ln s (Lib.cut t [10]).2.1 (n + 1) i := by
  obtain ⟨h1, h2, E, h3, h4⟩ := h
  have hc := cut_less t ht
  rw [ents_step, hs] at h4
  exact ⟨by omega, by omega, E, h3, by simpa using h4⟩
theorem Ln.tell {s t : List UInt8} {n i : Nat} (h : Ln s t n i) (ht : t ≠ []) (hs : saysB (Lib.cut t [10]).1 = true) : (ents s)[i]? = some (n, wordsB (Lib.cut t [10]).1) ∧ Ln s (Lib.cut t [10]).2.1 (n + 1) (i + 1) := by
  obtain ⟨h1, h2, E, h3, h4⟩ := h
  have hc := cut_less t ht
  rw [ents_step, hs] at h4
  simp only [if_true] at h4
  refine ⟨?_, by omega, by omega, E ++ [(n, wordsB (Lib.cut t [10]).1)], by simp [h3], by simpa using h4⟩
  rw [h4, List.getElem?_append_right (by omega), h3]
  simp
theorem Ln.end_ {s : List UInt8} {n i : Nat} (h : Ln s [] n i) : i = (ents s).length := by
  obtain ⟨h1, h2, E, h3, h4⟩ := h
  rw [entsN_nil, List.append_nil] at h4
  rw [h4, h3]

set_option maxRecDepth 100000 in
set_option maxHeartbeats 4000000 in
theorem lines_seq {own : World → List Nat} (hst : Stab own) (X : Nat) (s : List UInt8) (hs : s.length ≤ 4096) (w : World) (hX : w.cell? ⟨X, 0, none⟩ = some (.string (strB s))) {mc : Array Value} {mt : TypeId} {mf : Nat × Nat} {mx : Int} (hM : w.heap[mxB]? = some (.cells mc mt mf)) (hmx : mc[0]? = some (.int .i64 mx)) (hin0 : OwnIn own w) (hown : mxB ∉ own w) :
    SeqV Tryz.prog own 43 #[.pointer (some ⟨X, 0, none⟩)] EncL (ents s) w := by
  intro l J Jx W hW hl aJ aJx hin hY h0
  have cX := cell_on hW hX
  have hS : Safe own W mxB mc mt mf := ⟨(hW.block mxB (Array.getElem?_eq_some_iff.1 hM).1).trans hM, by rw [hst.but hin0 (But.of_below hW)]; exact hown⟩
  clear hX hM hW
  refine callsIn_of_wp Tryz.func43 rfl trivial ?_ rfl
  simp only [Tryz.ntmps43, List.size_toArray, List.length_cons, List.length_nil, Nat.reduceAdd, Nat.reduceSub, Array.replicate_succ, Array.replicate_zero, List.push_toArray, List.append_toArray, List.nil_append, List.cons_append]
  gi_wp2
  gi_loopw [3, 4, 5, 6] (fun p q _ _ wr => ∃ (t : List UInt8) (n i : Nat), p = .string (strB t) ∧ q = .int .i64 n ∧ Hid (Ln s t n i) ∧ J i wr ∧ Safe own wr mxB mc mt mf) (fun p _ _ _ _ => strLen p)
  case atStart => exact ⟨s, 1, 0, rfl, rfl, Hid.mk ⟨Nat.le_refl _, by omega, [], rfl, rfl⟩, h0, hS⟩
  case round =>
    clear h0 hS cX
    obtain ⟨t, n, i, rfl, rfl, hL, hJ, hS⟩ := hrel
    by_cases ht : t = []
    · subst ht
      have hem : (strB []).toList.isEmpty = true := by rw [strB_list]; rfl
      have hem2 : (strB []).toList = [] := by rw [strB_list]
      have hi := Hid.mk hL.out.end_
      have Hst : Hid (strB [] = ⟨#[]⟩) := Hid.mk rfl
      generalize strB [] = E at *
      gi_wp2
      go_end0
      exact ⟨⟨_, rfl⟩, .inl (by rw [← hi.out]; exact hJ)⟩
    · have hem : (strB t).toList.isEmpty = false := by rw [strB_list]; cases t <;> simp_all
      have hem2 : ¬ (strB t).toList = [] := by rw [strB_list]; exact ht
      have hll := hL.out.le
      have hnn := hL.out.num
      have hcs := cut_fst t
      have hcl := cut_less t ht
      have HC := cut_any (s := t) (w := wr) (by omega) (hS.cell hmx)
      have hskip := Hid.mk (fun h => hL.out.skip ht h)
      have htell := Hid.mk (fun h => hL.out.tell ht h)
      have hsz := strB_size t
      have hnw : IntKind.i64.wrap ((n : Int) + 1) = ((n + 1 : Nat) : Int) := by rw [IntKind.wrap_i64] <;> omega
      have hnw2 : wrap64 ((n : Int) + 1) = ((n + 1 : Nat) : Int) := by unfold wrap64; omega
      generalize (Lib.cut t [10]).1 = c1 at *
      generalize (Lib.cut t [10]).2.1 = c2 at *
      generalize (Lib.cut t [10]).2.2 = c3 at *
      have Hlt := Hid.mk (show (strB c2).size < (strB t).size by rw [strB_size, strB_size]; exact hcl)
      have hnn2 : (n : Int) ≤ 4097 := by omega
      clear hL hll hcl
      have hkeep : ∀ W' : World, Below wr.heap.size wr W' → J i W' ∧ Safe own W' mxB mc mt mf := fun W' hb => ⟨OwnFrom.but aJ hJ (But.of_below hb), Safe.but hst (hin _ _ hJ) hS (But.of_below hb)⟩
      have HK := Hid.mk hkeep
      have HDr : ∀ k, Below wr.heap.size wr (wr.drewN k) := fun k => below_drewN (Below.refl _ wr) k
      clear hkeep hS hJ
      cases hwd : wordsB c1 with
      | nil =>
        have hs0 : saysB c1 = false := by unfold saysB; rw [hwd]; rfl
        have HF := fun W => fields_any c1 W (by omega) (n := 0) (by rw [hwd]; rfl)
        have hL2 := Hid.mk (hskip.out hs0)
        clear hskip htell hs0 hwd
        gi_wp2_with (first
          | (refine ⟨trivial, ?_⟩; gi_at_call 44; refine (callsIn_wide.2 HC).mono ?_; rintro e w1 ⟨rfl, k1, rfl⟩)
          | (refine ⟨trivial, ?_⟩; gi_at_call 45; refine (callsIn_wide.2 (HF _)).mono ?_; rintro e w2 ⟨⟨B, rfl, _⟩, hb2⟩))
        have hbb := (HDr k1).trans (hb2.mono (HDr k1).size)
        exact ⟨⟨c2, n + 1, i, rfl, by simp, hL2, (HK.out _ hbb).1, (HK.out _ hbb).2⟩, Hlt.out⟩
      | cons x r =>
        have hcne : c1 ≠ [] := fun e => by rw [e] at hwd; cases hwd
        obtain ⟨c0, t0, rfl⟩ : ∃ c t, c1 = c :: t := by cases c1 with | nil => exact absurd rfl hcne | cons c t => exact ⟨c, t, rfl⟩
        have hix0 := strB_get (M := c0 :: t0) (i := 0) rfl
        have hzl : 0 < (strB (c0 :: t0)).size := by rw [strB_size]; simp
        have hzl2 : (0 : Int) < ((strB (c0 :: t0)).size : Int) := by omega
        have HF := fun W => fields_any (c0 :: t0) W (by omega) (n := r.length + 1) (by rw [hwd]; rfl)
        have hrn : ¬ ((r.length : Int) + 1 = 0) := by omega
        by_cases h35 : c0 = 35
        · have hs0 : saysB (c0 :: t0) = false := by unfold saysB; rw [h35]; simp
          have hL2 := Hid.mk (hskip.out hs0)
          have h36 : ((c0.toNat : Nat) : Int) = 35 := by rw [h35]; rfl
          clear hskip htell hs0 hwd h35 hcne hcs
          generalize strB (c0 :: t0) = CC at *
          gi_wp2_with (first
            | (refine ⟨trivial, ?_⟩; gi_at_call 44; refine (callsIn_wide.2 HC).mono ?_; rintro e w1 ⟨rfl, k1, rfl⟩)
            | (refine ⟨trivial, ?_⟩; gi_at_call 45; refine (callsIn_wide.2 (HF _)).mono ?_; rintro e w2 ⟨⟨B, rfl, _⟩, hb2⟩))
          have hbb := (HDr k1).trans (hb2.mono (HDr k1).size)
          exact ⟨⟨c2, n + 1, i, rfl, by simp, hL2, (HK.out _ hbb).1, (HK.out _ hbb).2⟩, Hlt.out⟩
        · have hs0 : saysB (c0 :: t0) = true := by unfold saysB; rw [hwd]; simpa using h35
          obtain ⟨hq, hL1⟩ := htell.out hs0
          have hL2 := Hid.mk hL1
          have Hq := Hid.mk hq
          have h36 : ¬ ((c0.toNat : Nat) : Int) = 35 := fun e => h35 (UInt8.toNat_inj.1 (by have : (35 : UInt8).toNat = 35 := rfl; omega))
          have Hwd := Hid.mk hwd
          have hB0 : ((r.length : Int) + 1 == 0) = false := by simpa using hrn
          have hB1 : (((c0.toNat : Nat) : Int) == 35) = false := by simpa using h36
          clear hskip htell hs0 hwd h35 hcne hcs hL1 hq
          generalize strB (c0 :: t0) = CC at *
          gi_wp2_with (first
            | (refine ⟨trivial, ?_⟩; gi_at_call 44; refine (callsIn_wide.2 HC).mono ?_; rintro e w1 ⟨rfl, k1, rfl⟩)
            | (refine ⟨trivial, ?_⟩; gi_at_call 45; refine (callsIn_wide.2 (HF _)).mono ?_; rintro e w2 ⟨⟨B, rfl, hwv⟩, hb2⟩
               have hbb := (HDr k1).trans (hb2.mono (HDr k1).size)
               have hJS := HK.out _ hbb
               obtain ⟨fn, tmps, assign, body, hy, hR⟩ := YieldAt.deep (m' := 8) (hY i (n, wordsB (c0 :: t0)) #[.int .i64 (n : Nat), .slice (some ⟨B, 0, none⟩) (r.length + 1) (r.length + 1)] w2 Hq.out ⟨_, _, by rw [Hwd.out]; rfl, by rw [Hwd.out]; exact Nat.le_refl _, hwv⟩ hJS.1)))
          refine hR.mono ?_
          rintro e W3 (⟨rfl, hJ3, hk3⟩ | ⟨rfl, hJx3, _⟩)
          · gi_wp2
            exact ⟨⟨c2, n + 1, i + 1, rfl, by simp, hL2, hJ3, hJS.2.kp hk3⟩, Hlt.out⟩
          · gi_wp2
            refine bodyPost_ret (results_none rfl _ _ _) rfl ?_
            exact ⟨⟨_, rfl⟩, .inr hJx3⟩

end Go.Proofs.YtbcdjpafdmgbmaaGreatDoor
