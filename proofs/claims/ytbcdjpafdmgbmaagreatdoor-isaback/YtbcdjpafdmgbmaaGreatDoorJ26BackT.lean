/- The reference's Line. -/
/- Scan, the program's: an instruction of words. -/
import Derived.Test.YtbcdjpafdmgbmaaGreatDoorJ25BackT
import Derived.Test.YtbcdjpafdmgbmaaGreatDoorJ20BackT
import Derived.Test.YtbcdjpafdmgbmaaGreatDoorJ22BackT
import Derived.BigQuiet
import Derived.Test.YtbcdjpafdmgbmaaGreatDoorJ17BackT
import Derived.Test.YtbcdjpafdmgbmaaGreatDoorJ13BackT
namespace Go.Proofs.YtbcdjpafdmgbmaaGreatDoor
open Go.RowKit

theorem results_cAt {fn : Func} {p u : Tmp} (h : fn.results = #[.cell p 37, .tmp u]) (tmps : Array Value) (w : World) (g : Nat) (x : Ins) (hp : tmps.getD p undef = .pointer (some ⟨g, 0, none⟩)) (hc : Cel w g (insC x) 37) : (results fn tmps).run Tryz.prog w = .ok (.tuple #[.agg (insC x), tmps.getD u undef]) w := by
  have hp' : tmps[p]?.getD undef = .pointer (some ⟨g, 0, none⟩) := by simpa using hp
  have hl := run_loadVar_row (P := Tryz.prog) w g 37 37 (insC x) (0, 0) _ hc Tryz.underlying37 (by rfl) (by kernel_rfl)
  simp [results, h, hp', asAddr, hl]
theorem slice_tl (b o n c : Nat) (h1 : 1 ≤ n) (h2 : n ≤ c) : ∃ a' : Option Addr, (∀ W, (Instr.slice 56 (.slice (some ⟨b, o, none⟩) n c) (some (.int .i64 1)) none none).run Tryz.prog W = .ok (.slice a' (n - 1) (c - 1)) W) ∧ (2 ≤ n → a' = some ⟨b, o + 1, none⟩) := by
  have k1 : (1 : Int) ≤ (n : Int) := by omega
  have k2 : (n : Int) ≤ (c : Int) := by omega
  have k3 : (1 : Int) ≤ (c : Int) := by omega
  by_cases hc : c = 1
  · refine ⟨some ⟨b, o, none⟩, fun W => ?_, fun h => by omega⟩
    obtain rfl : n = 1 := by omega
    subst hc
    go_simp
  · refine ⟨some ⟨b, o + 1, none⟩, fun W => ?_, fun _ => rfl⟩
    go_simp
theorem opW_is {l : List UInt8} {k : Nat} (h : opW l = some k) : k < 27 ∧ nmT.getD k [] = l := by
  unfold opW at h
  have h1 := List.find?_some h
  have h2 := List.mem_of_find?_eq_some h
  exact ⟨by simpa using h2, by simpa using h1⟩
/-- The operation as far as it is found. -/
def opS (R : Option Nat) (i : Nat) : Int :=
  match R with
  | some k => if k < i then (k : Int) else -1
  | none => -1
theorem opS_zero (R : Option Nat) : opS R 0 = -1 := by cases R <;> simp [opS]
theorem opS_hit {l : List UInt8} {i : Nat} (hi : i < 27) (h : nmT.getD i [] = l) : opS (opW l) (i + 1) = (i : Int) := by
  rw [opW_some hi h]
  simp [opS]
theorem opS_miss {l : List UInt8} {i : Nat} (h : nmT.getD i [] ≠ l) : opS (opW l) (i + 1) = opS (opW l) i := by
  cases hr : opW l with
  | none => rfl
  | some k =>
    have := (opW_is hr).2
    have hk : k ≠ i := fun e => h (by rw [← e]; exact this)
    show (if k < i + 1 then (k : Int) else -1) = (if k < i then (k : Int) else -1)
    by_cases h1 : k < i
    · rw [if_pos h1, if_pos (by omega)]
    · rw [if_neg h1, if_neg (by omega)]
theorem opS_all {l : List UInt8} : opS (opW l) 27 = match opW l with
    | some k => (k : Int)
    | none => -1 := by
  cases hr : opW l with
  | none => rfl
  | some k =>
    have := (opW_is hr).1
    simp [opS, this]

theorem insW_none {l : List UInt8} {r : List (List UInt8)} (h : opW l = none) : insW (l :: r) = none := by simp only [insW, h]
theorem insW_nums {l : List UInt8} {r : List (List UInt8)} (h : numsW r = none) : insW (l :: r) = none := by
  simp only [insW, h]
  cases opW l <;> rfl
theorem insW_len {l : List UInt8} {r : List (List UInt8)} {op : Nat} (h : opW l = some op) (hl : r.length ≠ (usQ (op : Int)).length) : insW (l :: r) = none := by
  cases hn : numsW r with
  | none => exact insW_nums hn
  | some vs =>
    have := numsW_len hn
    simp only [insW, h, hn]
    rw [if_neg (by omega)]
theorem insW_some {l : List UInt8} {r : List (List UInt8)} {op : Nat} {vs : List Int} (h : opW l = some op) (hn : numsW r = some vs) (hl : r.length = (usQ (op : Int)).length) : insW (l :: r) = some (setQ (usQ (op : Int)) vs ((op : Int), 0, 0, 0)) := by
  have := numsW_len hn
  simp only [insW, h, hn]
  rw [if_pos (by omega)]
theorem numsW_take {r : List (List UInt8)} {k : Nat} {x : List UInt8} {vs : List Int} {v : Int} (h : numsW (r.take k) = some vs) (hx : r[k]? = some x) (hv : numW x = some v) : numsW (r.take (k + 1)) = some (vs ++ [v]) := by
  rw [List.take_add_one, hx]
  show numsW (r.take k ++ [x]) = _
  rw [numsW_snoc, h, hv]

/-- What a reading of words tells: an instruction, if it is one. -/
def LineV (R : Option Ins) (e : Ending) : Prop := ∃ x : Ins, e = .returned (.tuple #[.agg (insC x), .bool R.isSome]) ∧ ∀ y, R = some y → x = y

end Go.Proofs.YtbcdjpafdmgbmaaGreatDoor
namespace Go.Proofs.YtbcdjpafdmgbmaaGreatDoor
open Go.RowKit Go.Shelf
attribute [local go_sem] Oper.semAt_some

theorem four_new (w : World) (c1 c2 c3 c4 : Array Value) (t1 t2 t3 t4 : TypeId) : Below w.heap.size w ((((w.alloc (.cells c1 t1)).alloc (.cells c2 t2)).alloc (.cells c3 t3)).alloc (.cells c4 t4)).drew ∧
    Cel ((((w.alloc (.cells c1 t1)).alloc (.cells c2 t2)).alloc (.cells c3 t3)).alloc (.cells c4 t4)).drew w.heap.size c1 t1 ∧ Cel ((((w.alloc (.cells c1 t1)).alloc (.cells c2 t2)).alloc (.cells c3 t3)).alloc (.cells c4 t4)).drew (w.heap.size + 1) c2 t2 ∧
    Cel ((((w.alloc (.cells c1 t1)).alloc (.cells c2 t2)).alloc (.cells c3 t3)).alloc (.cells c4 t4)).drew (w.heap.size + 1 + 1) c3 t3 ∧ Cel ((((w.alloc (.cells c1 t1)).alloc (.cells c2 t2)).alloc (.cells c3 t3)).alloc (.cells c4 t4)).drew (w.heap.size + 1 + 1 + 1) c4 t4 := by
  refine ⟨(((((Below.refl _ w).alloc (Nat.le_refl _) _).alloc (by simp) _).alloc (by simp; omega) _).alloc (by simp; omega) _).drew, ?_, ?_, ?_, ?_⟩
  · exact (((Cel.new w c1 t1).put (Below.heap_alloc _ _ _ (by simp))).put (Below.heap_alloc _ _ _ (by simp; omega))).put (Below.heap_alloc _ _ _ (by simp; omega))
  · have h := Cel.new (w.alloc (.cells c1 t1)) c2 t2
    rw [World.size_alloc] at h
    exact (h.put (Below.heap_alloc _ _ _ (by simp))).put (Below.heap_alloc _ _ _ (by simp))
  · have h := Cel.new ((w.alloc (.cells c1 t1)).alloc (.cells c2 t2)) c3 t3
    rw [World.size_alloc, World.size_alloc] at h
    exact h.put (Below.heap_alloc _ _ _ (by simp))
  · have h := Cel.new (((w.alloc (.cells c1 t1)).alloc (.cells c2 t2)).alloc (.cells c3 t3)) c4 t4
    rw [World.size_alloc, World.size_alloc, World.size_alloc] at h
    exact h
theorem results_cc {fn : Func} {p u : Tmp} (h : fn.results = #[.cell p 37, .cell u 4]) (tmps : Array Value) (w : World) (g : Nat) (x : Ins) (hp : tmps.getD p undef = .pointer (some ⟨g, 0, none⟩)) (hc : Cel w g (insC x) 37) (g' : Nat) (v : Value) (hu : tmps.getD u undef = .pointer (some ⟨g', 0, none⟩)) (hv : w.cell? ⟨g', 0, none⟩ = some v) : (results fn tmps).run Tryz.prog w = .ok (.tuple #[.agg (insC x), v]) w := by
  have hp' : tmps[p]?.getD undef = .pointer (some ⟨g, 0, none⟩) := by simpa using hp
  have hu' : tmps[u]?.getD undef = .pointer (some ⟨g', 0, none⟩) := by simpa using hu
  have hl := run_loadVar_row (P := Tryz.prog) w g 37 37 (insC x) (0, 0) _ hc Tryz.underlying37 (by rfl) (by kernel_rfl)
  have hl2 : (loadVar 4 ⟨g', 0, none⟩).run Tryz.prog w = .ok v w := by simp [loadVar, Tryz.isAgg4, go_sem, hv]
  simp [results, h, hp', hu', asAddr, hl, hl2]

theorem wv_tl {w : World} {a : Option Addr} {x : List UInt8} {t : List (List UInt8)} {n c : Nat} (hw : WV w a (x :: t)) (hn : t.length = n) (hc : n + 1 ≤ c) :
    ∃ b o a', a = some ⟨b, o, none⟩ ∧ w.cell? ⟨b, o, none⟩ = some (.string (strB x)) ∧ (∀ W, (Instr.slice 56 (.slice (some ⟨b, o, none⟩) (n + 1) c) (some (.int .i64 1)) none none).run Tryz.prog W = .ok (.slice a' n (c - 1)) W) ∧ WV w a' t := by
  obtain ⟨b, o, ea, h0⟩ := hw 0 x rfl
  subst ea
  obtain ⟨at_, hsl, hat⟩ := slice_tl b o (n + 1) c (by omega) hc
  refine ⟨b, o, at_, rfl, h0, hsl, fun j y hj => ?_⟩
  have hjl := (List.getElem?_eq_some_iff.1 hj).1
  obtain ⟨b', o', e', hc'⟩ := hw (j + 1) y (by simpa using hj)
  cases e'
  exact ⟨b, o + 1, hat (by omega), by rw [show o + 1 + j = o + (j + 1) by omega]; exact hc'⟩
theorem setQ_take {q : List Nat} {j k : Nat} {vs : List Int} {v : Int} (hk : q[j]? = some k) (hl : vs.length = j) (x : Ins) : setQ (q.take (j + 1)) (vs ++ [v]) x = nset (setQ (q.take j) vs x) k v := by
  have hjl := (List.getElem?_eq_some_iff.1 hk).1
  have h1 : (q.take j).length = vs.length := by rw [List.length_take]; omega
  rw [List.take_add_one, hk]
  show setQ (q.take j ++ [k]) _ x = _
  unfold setQ
  rw [List.zip_append h1, List.foldl_append]
  rfl
/-- How far the reading of an instruction's numbers has come. -/
structure Rd (w : World) (op : Int) (r : List (List UInt8)) (B6 B7 j : Nat) (A : World) : Prop where
  bel : Below w.heap.size w A
  res : Cel A w.heap.size #[.int .i64 0, .int .i64 0, .int .i64 0, .int .i64 0] 37
  ok : Cel A (w.heap.size + 1) #[.bool false] 4
  le : j ≤ r.length
  in_ : ∃ vs, numsW (r.take j) = some vs ∧ Cel A B6 (insC (setQ ((usQ op).take j) vs (op, 0, 0, 0))) 37
  rest : ∃ a c, Cel A B7 #[.slice a (r.length - j) c] 56 ∧ WV w a (r.drop j) ∧ r.length - j ≤ c
theorem Rd.own {w : World} {op : Int} {r : List (List UInt8)} {B6 B7 j : Nat} {A A' : World} {row : Option Nat} (h : Rd w op r B6 B7 j A) (hg : A.grownBy A' row) (hr : ∀ x, row = some x → w.heap.size ≤ x ∧ ∃ o : Obj, A.heap[x]? = some o ∧ o.isCells = false) : Rd w op r B6 B7 j A' := by
  have hr2 := fun x e => (hr x e).2
  obtain ⟨vs, h1, h2⟩ := h.in_
  obtain ⟨a, c, h3, h4, h5⟩ := h.rest
  exact ⟨below_own h.bel hg (fun x e => (hr x e).1) h.bel.size, h.res.own hg hr2, h.ok.own hg hr2, h.le, ⟨vs, h1, h2.own hg hr2⟩, ⟨a, c, h3.own hg hr2, h4, h5⟩⟩
theorem Rd.inn {w : World} {op : Int} {r : List (List UInt8)} {B6 B7 j : Nat} {A : World} (h : Rd w op r B6 B7 j A) : OwnIn (fun _ => [B6, B7]) A := by
  obtain ⟨vs, h1, h2⟩ := h.in_
  obtain ⟨a, c, h3, _⟩ := h.rest
  intro k hk
  simp at hk
  rcases hk with rfl | rfl
  · exact ⟨_, h2, rfl⟩
  · exact ⟨_, h3, rfl⟩
/-- It ends early. -/
theorem Rd.out {w : World} {op : Int} {r : List (List UInt8)} {B6 B7 j : Nat} {A A1 : World} (h : Rd w op r B6 B7 j A) (hb : Below A.heap.size A A1) (base : Nat) :
    KeepsFrom base A (((((A1.setCell ⟨w.heap.size, 0, none⟩ (.int .i64 0)).setCell ⟨w.heap.size, 1, none⟩ (.int .i64 0)).setCell ⟨w.heap.size, 2, none⟩ (.int .i64 0)).setCell ⟨w.heap.size, 3, none⟩ (.int .i64 0)).setCell ⟨w.heap.size + 1, 0, none⟩ (.bool false)) ∧
    Below w.heap.size w (((((A1.setCell ⟨w.heap.size, 0, none⟩ (.int .i64 0)).setCell ⟨w.heap.size, 1, none⟩ (.int .i64 0)).setCell ⟨w.heap.size, 2, none⟩ (.int .i64 0)).setCell ⟨w.heap.size, 3, none⟩ (.int .i64 0)).setCell ⟨w.heap.size + 1, 0, none⟩ (.bool false)) ∧
    Cel (((((A1.setCell ⟨w.heap.size, 0, none⟩ (.int .i64 0)).setCell ⟨w.heap.size, 1, none⟩ (.int .i64 0)).setCell ⟨w.heap.size, 2, none⟩ (.int .i64 0)).setCell ⟨w.heap.size, 3, none⟩ (.int .i64 0)).setCell ⟨w.heap.size + 1, 0, none⟩ (.bool false)) w.heap.size (insC (0, 0, 0, 0)) 37 ∧
    Cel (((((A1.setCell ⟨w.heap.size, 0, none⟩ (.int .i64 0)).setCell ⟨w.heap.size, 1, none⟩ (.int .i64 0)).setCell ⟨w.heap.size, 2, none⟩ (.int .i64 0)).setCell ⟨w.heap.size, 3, none⟩ (.int .i64 0)).setCell ⟨w.heap.size + 1, 0, none⟩ (.bool false)) (w.heap.size + 1) #[.bool false] 4 := by
  have r1 := h.res.below hb
  have o1 := h.ok.below hb
  have bB : But [w.heap.size, w.heap.size + 1] A (((((A1.setCell ⟨w.heap.size, 0, none⟩ (.int .i64 0)).setCell ⟨w.heap.size, 1, none⟩ (.int .i64 0)).setCell ⟨w.heap.size, 2, none⟩ (.int .i64 0)).setCell ⟨w.heap.size, 3, none⟩ (.int .i64 0)).setCell ⟨w.heap.size + 1, 0, none⟩ (.bool false)) :=
    (((((But.of_below hb).set (p := ⟨w.heap.size, 0, none⟩) (by simp) _).set (p := ⟨w.heap.size, 1, none⟩) (by simp) _).set (p := ⟨w.heap.size, 2, none⟩) (by simp) _).set (p := ⟨w.heap.size, 3, none⟩) (by simp) _).set (p := ⟨w.heap.size + 1, 0, none⟩) (by simp) _
  refine ⟨(kp_list bB (fun k hk => ?_)).from_, h.bel.trans (bB.below h.bel.size (by simp)), ?_, ?_⟩
  · simp at hk
    rcases hk with rfl | rfl
    · exact ⟨_, h.res, rfl⟩
    · exact ⟨_, h.ok, rfl⟩
  · exact ((((r1.set (j := 0) (.int .i64 0)).set (j := 1) (.int .i64 0)).set (j := 2) (.int .i64 0)).set (j := 3) (.int .i64 0)).other (by omega) _
  · exact ((((o1.other (by omega) _).other (by omega) _).other (by omega) _).other (by omega) _).set (.bool false)
/-- One number more. -/
theorem Rd.more {w : World} {op : Int} {r : List (List UInt8)} {B6 B7 j k : Nat} {A A1 : World} (h : Rd w op r B6 B7 j A) (hne : B6 ≠ B7) (h6 : w.heap.size + 2 ≤ B6) (h7 : w.heap.size + 2 ≤ B7) (hb : Below A.heap.size A A1) (hk : (usQ op)[j]? = some k) {x : List UInt8} {v : Int} (hx : r[j]? = some x) (hv : numW x = some v) {a : Option Addr} {c : Nat} (ha : WV w a (r.drop (j + 1))) (hc : r.length - (j + 1) ≤ c) (base : Nat) :
    Kp (fun _ => [B6, B7]) base A ((A1.setCell ⟨B6, k + 1, none⟩ (.int .i64 v)).setCell ⟨B7, 0, none⟩ (.slice a (r.length - (j + 1)) c)) ∧ Rd w op r B6 B7 (j + 1) ((A1.setCell ⟨B6, k + 1, none⟩ (.int .i64 v)).setCell ⟨B7, 0, none⟩ (.slice a (r.length - (j + 1)) c)) := by
  have bB : But [B6, B7] A ((A1.setCell ⟨B6, k + 1, none⟩ (.int .i64 v)).setCell ⟨B7, 0, none⟩ (.slice a (r.length - (j + 1)) c)) := ((But.of_below hb).set (p := ⟨B6, k + 1, none⟩) (by simp) _).set (p := ⟨B7, 0, none⟩) (by simp) _
  have hjl := (List.getElem?_eq_some_iff.1 hx).1
  have hkl := (usQ_mem (List.mem_of_getElem? hk)).1
  obtain ⟨vs, e1, e2⟩ := h.in_
  obtain ⟨a', c', e3, _, _⟩ := h.rest
  refine ⟨kp_list bB h.inn, h.bel.trans (bB.below h.bel.size (by simp; omega)), h.res.but bB (by simp; omega), h.ok.but bB (by simp; omega), by omega, ⟨vs ++ [v], numsW_take e1 hx hv, ?_⟩, ⟨a, c, ?_, ha, hc⟩⟩
  · rw [setQ_take hk (by rw [numsW_len e1, List.length_take]; omega), ← insC_set _ hkl]
    exact ((e2.below hb).set _).other hne _
  · exact ((e3.below hb).other (Ne.symm hne) _).set _

set_option maxRecDepth 100000 in
set_option maxHeartbeats 8000000 in
theorem inst_in {l : List UInt8} {r : List (List UInt8)} {a : Option Addr} {c : Nat} {w : World} (hw : WV w a (l :: r)) (hc : r.length + 1 ≤ c) (hr : r.length ≤ 10000) (hrl : ∀ x ∈ r, x.length ≤ 10000) (hT : Tab w) :
    CallsIn Fence.wide 9 Tryz.prog 21 #[.slice a (r.length + 1) c] w fun e w' => LineV (insW (l :: r)) e ∧ Below w.heap.size w w' := by
  obtain ⟨b, o, ea, h0⟩ := hw 0 l rfl
  subst ea
  simp only [Nat.add_zero] at h0
  obtain ⟨R, hR⟩ : ∃ R, insW (l :: r) = R := ⟨_, rfl⟩
  rw [hR]
  have HR := Hid.mk hR
  clear hR
  obtain ⟨at_, hsl, hat⟩ := slice_tl b o (r.length + 1) c (by omega) hc
  obtain ⟨m, hm⟩ : ∃ m, r.length = m := ⟨_, rfl⟩
  rw [hm] at hsl hat hc hr ⊢
  simp only [Nat.add_sub_cancel] at hsl
  have Hm := Hid.mk hm
  have hwr : WV w at_ r := fun j x hj => by
    have hjl := (List.getElem?_eq_some_iff.1 hj).1
    obtain ⟨b', o', e', hc'⟩ := hw (j + 1) x (by simpa using hj)
    cases e'
    exact ⟨b, o + 1, hat (by omega), by rw [show o + 1 + j = o + (j + 1) by omega]; exact hc'⟩
  have Hw := Hid.mk hwr
  have HRL := Hid.mk hrl
  clear hm hat hw hwr hrl
  have b1 : Below w.heap.size w ((w.alloc (.cells #[.int .i64 0, .int .i64 0, .int .i64 0, .int .i64 0] 37)).alloc (.cells #[.bool false] 4)) := ((Below.refl _ w).alloc (Nat.le_refl _) _).alloc (by simp) _
  have h01 := cell_on b1 h0
  have HO := operation_any l _ (hT.on b1)
  refine callsIn_of_wp_marks Tryz.func21 rfl trivial ?_ rfl
  simp only [Tryz.ntmps21, List.size_toArray, List.length_cons, List.length_nil, Nat.reduceAdd, Nat.reduceSub, Array.replicate_succ, Array.replicate_zero, List.push_toArray, List.append_toArray, List.nil_append, List.cons_append]
  cases ho : opW l with
  | none =>
    rw [ho] at HO
    simp only [Option.getD_none, Option.isSome_none] at HO
    have hrn : R = none := by rw [← HR.out]; exact insW_none ho
    subst hrn
    gi_wp2_with (refine ⟨trivial, ?_⟩; gi_at_call 47; refine (callsIn_wide.2 HO).mono ?_; rintro e w1 ⟨rfl, rfl⟩)
    have q2 : Cel ((w.alloc (.cells #[.int .i64 0, .int .i64 0, .int .i64 0, .int .i64 0] 37)).alloc (.cells #[.bool false] 4)) w.heap.size (insC (0, 0, 0, 0)) 37 := (Cel.new w _ 37).put (Below.heap_alloc _ _ _ (by simp))
    have q3 : ((w.alloc (.cells #[.int .i64 0, .int .i64 0, .int .i64 0, .int .i64 0] 37)).alloc (.cells #[.bool false] 4)).cell? ⟨w.heap.size + 1, 0, none⟩ = some (.bool false) := by simp [go_sem]
    refine post_marks (Ds := []) (Marks.nil w.heap.size _) (fun W' hb => ⟨_, results_cc rfl _ _ w.heap.size (0, 0, 0, 0) rfl (q2.but hb (by simp)) (w.heap.size + 1) (.bool false) rfl (hb.cell q3), ⟨_, rfl, fun y h => by cases h⟩, b1.trans (hb.below b1.size (by simp))⟩)
  | some op =>
    rw [ho] at HO
    simp only [Option.getD_some, Option.isSome_some] at HO
    gi_wp2_with (refine ⟨trivial, ?_⟩; gi_at_call 47; refine (callsIn_wide.2 HO).mono ?_; rintro e w1 ⟨rfl, rfl⟩)
    have hmx : Tryz.prog.follows .mixedOrders = true := by kernel_rfl
    refine wpIn_mono (Q := Exit.then (fun A W => ∃ B6 B7, B6 ≠ B7 ∧ w.heap.size + 2 ≤ B6 ∧ w.heap.size + 2 ≤ B7 ∧ Below w.heap.size w W ∧ Cel W w.heap.size #[.int .i64 0, .int .i64 0, .int .i64 0, .int .i64 0] 37 ∧ Cel W (w.heap.size + 1) #[.bool false] 4 ∧ Cel W B6 (insC ((op : Int), 0, 0, 0)) 37 ∧ Cel W B7 #[.slice at_ m (c - 1)] 56 ∧ A = { tmps := #[.slice (some ⟨b, o, none⟩) (m + 1) c, undef, .pointer (some ⟨w.heap.size, 0, none⟩), .pointer (some ⟨w.heap.size + 1, 0, none⟩), .int .i64 (op : Int), .bool true, .pointer (some ⟨B6, 0, none⟩), .pointer (some ⟨B7, 0, none⟩), undef, .tuple #[.int .i64 (op : Int), .bool true], .slice (some ⟨b, o, none⟩) (m + 1) c, .pointer (some ⟨b, o, none⟩), .string (strB l), .tuple #[.int .i64 (op : Int), .bool true], .int .i64 (op : Int), .bool true, .bool true, .bool false, undef, .int .i64 (op : Int), .agg #[.int .i64 (op : Int), .int .i64 0, .int .i64 0, .int .i64 0], .slice (some ⟨b, o, none⟩) (m + 1) c, .slice at_ m (c - 1), undef, undef, undef, undef, undef, undef, undef, undef, undef, undef, undef, undef, undef, undef, undef, undef, undef, undef, undef, undef, undef, undef, undef, undef, undef, undef, undef, undef], defers := [] }) (fun _ _ _ => False)) ?reg ?rest
    case rest =>
      rintro e A W h
      cases e with
      | normal =>
        obtain ⟨B6, B7, hne, hB6, hB7, bW, q2, q3, q6, q7, rfl⟩ := h
        show Exit.then _ _ Exit.normal _ _
        gi_wp2_with (refine ⟨trivial, ?_⟩; gi_at_call 18; refine (callsIn_wide.2 (used_any _ _)).mono ?_; rintro e w5 ⟨rfl, rfl⟩)
        have RD : Rd w (op : Int) r B6 B7 0 (W.alloc (.cells #[.pointer (some ⟨B6, 0, none⟩)] 49)) := by
          have g : ∀ k, k < W.heap.size → (W.alloc (.cells #[.pointer (some ⟨B6, 0, none⟩)] 49)).heap[k]? = W.heap[k]? := fun k hk => Below.heap_alloc _ _ _ hk
          refine ⟨bW.alloc bW.size _, q2.put (g _ q2.lt), q3.put (g _ q3.lt), by omega, ⟨[], rfl, q6.put (g _ q6.lt)⟩, ⟨at_, c - 1, ?_, by simpa using Hw.out, by rw [Hm.out]; omega⟩⟩
          rw [Hm.out]
          exact q7.put (g _ q7.lt)
        have x3 : (W.alloc (.cells #[.pointer (some ⟨B6, 0, none⟩)] 49)).cell? ⟨W.heap.size, 0, none⟩ = some (.pointer (some ⟨B6, 0, none⟩)) := by simp [go_sem]
        have i3 : (W.alloc (.cells #[.pointer (some ⟨B6, 0, none⟩)] 49)).cell? ⟨B6, 0, none⟩ = some (.int .i64 (op : Int)) := by
          obtain ⟨vs, e, hc6⟩ := RD.in_
          cases e
          exact hc6.cell (j := 0) rfl
        have hzW : w.heap.size + 2 ≤ (W.alloc (.cells #[.pointer (some ⟨B6, 0, none⟩)] 49)).heap.size := by
          have := RD.ok.lt
          omega
        have h6z : B6 < (W.alloc (.cells #[.pointer (some ⟨B6, 0, none⟩)] 49)).heap.size := by
          have := q6.lt
          simp
          omega
        have h7z : B7 < (W.alloc (.cells #[.pointer (some ⟨B6, 0, none⟩)] 49)).heap.size := by
          have := q7.lt
          simp
          omega
        have hT4 := hT.on RD.bel
        clear bW q2 q3 q6 q7 b1 h01 HO
        generalize (W.alloc (.cells #[.pointer (some ⟨B6, 0, none⟩)] 49)) = W4 at *
        generalize W.heap.size = X at *
        refine wp_range (stab_const [B6, B7]) (gf := 41) (lb := #[.pointer (some ⟨X, 0, none⟩)]) rfl (enters_of Tryz.func41 (by kernel_rfl) rfl)
          (used_seq (stab_const [B6, B7]) X B6 (op : Int) W4 hT4 x3 i3) (Below.refl _ _) (fun _ => rfl)
          (fun j A => Rd w (op : Int) r B6 B7 j A)
          (fun c' A => c' = .ret ∧ R = none ∧ Below w.heap.size w A ∧ Cel A w.heap.size (insC (0, 0, 0, 0)) 37 ∧ Cel A (w.heap.size + 1) #[.bool false] 4)
          ?hI ?hIx (fun i A h => h.inn) RD ?a1 ?assign ?body ?done ?stop
        case hI =>
          intro j A A' row h hg hr'
          exact h.own hg (fun x e => ⟨by have := (hr' x e).1; omega, (hr' x e).2⟩)
        case hIx =>
          rintro c' u A A' row ⟨h1, h2, h3, h4, h5⟩ hg hr'
          exact ⟨h1, h2, below_own h3 hg (fun x e => by have := (hr' x e).1; omega) h3.size, h4.own hg (fun x e => (hr' x e).2), h5.own hg (fun x e => (hr' x e).2)⟩
        case assign =>
          intro l x W K hK
          gi_wp2
          exact hK
        case body =>
          intro l2 j k A hj hR
          obtain ⟨aj, cj, e7, ewv, ecj⟩ := hR.rest
          have hul := (List.getElem?_eq_some_iff.1 hj).1
          have cc7 := e7.cell (j := 0) (v := .slice aj (r.length - j) cj) rfl
          by_cases hjm : j = r.length
          · have hrn : R = none := by rw [← HR.out]; exact insW_len ho (by omega)
            subst hrn
            have hz0 : r.length - j = 0 := by omega
            rw [hz0] at cc7
            obtain ⟨s1, s2, s3, s4⟩ := hR.out (Below.refl _ A) W4.heap.size
            have f0 := hR.res.cell (j := 0) (v := .int .i64 0) rfl
            have f1 := hR.res.cell (j := 1) (v := .int .i64 0) rfl
            have f2 := hR.res.cell (j := 2) (v := .int .i64 0) rfl
            have f3 := hR.res.cell (j := 3) (v := .int .i64 0) rfl
            have f4 := hR.ok.cell (j := 0) (v := .bool false) rfl
            have z := fun j => hR.res.fz j
            have z4 := hR.ok.fz 0
            unfold encU
            gi_wp2_with fail
            iterate 6 (first | (refine ⟨trivial, ?_⟩; gi_wp2_with fail) | (refine ⟨(fun _ h => (by cases h)), ?_⟩; gi_wp2_with fail) | skip)
            exact ⟨s1, rfl, s2, s3, s4⟩
          · have hjl : j < r.length := by have := hR.le; omega
            obtain ⟨x, hx⟩ : ∃ x, r[j]? = some x := ⟨_, List.getElem?_eq_getElem hjl⟩
            rw [List.drop_eq_getElem_cons hjl, (List.getElem?_eq_some_iff.1 hx).2] at ewv
            obtain ⟨mj, hmj⟩ : ∃ mj, r.length - j = mj + 1 := ⟨r.length - j - 1, by omega⟩
            have hmj2 : r.length - (j + 1) = mj := by omega
            obtain ⟨xb, xo, xa, rfl, hxc, hxs, hxw⟩ := wv_tl ewv (n := mj) (c := cj) (by rw [List.length_drop]; omega) (by omega)
            rw [hmj] at cc7
            have hxA := cell_on hR.bel hxc
            have hmi : ¬ ((mj : Int) + 1 = 0) := by omega
            have HN := isnumber_any x (by have := HRL.out x (List.mem_of_getElem? hx); omega) A
            cases hv : numW x with
            | none =>
              have hrn : R = none := by rw [← HR.out]; exact insW_nums (numsW_stop hx hv)
              subst hrn
              rw [hv] at HN
              simp only [Option.isSome_none] at HN
              clear hx hv hxs hxw ewv hmj hmj2 hjm
              unfold encU
              gi_wp2_with (refine ⟨trivial, ?_⟩; gi_at_call 48; refine (CallsIn.inRound l2 (callsIn_wide.2 HN)).mono ?_; rintro e A1 ⟨rfl, hb1⟩; have f0 := (hR.res.below hb1).cell (j := 0) (v := .int .i64 0) rfl; have f1 := (hR.res.below hb1).cell (j := 1) (v := .int .i64 0) rfl; have f2 := (hR.res.below hb1).cell (j := 2) (v := .int .i64 0) rfl; have f3 := (hR.res.below hb1).cell (j := 3) (v := .int .i64 0) rfl; have f4 := (hR.ok.below hb1).cell (j := 0) (v := .bool false) rfl; have z := fun j => (hR.res.below hb1).fz j; have z4 := (hR.ok.below hb1).fz 0)
              obtain ⟨s1, s2, s3, s4⟩ := hR.out hb1 W4.heap.size
              exact ⟨s1, rfl, s2, s3, s4⟩
            | some v =>
              rw [hv] at HN
              simp only [Option.isSome_some] at HN
              have HA := fun W => Tryz.strconv_Atoi_ok (strB x) (by rw [strB_size]; have := HRL.out x (List.mem_of_getElem? hx); omega) v (by rw [strB_data]; exact atoi_is hv) W
              have hkl := (usQ_mem (List.mem_of_getElem? hj)).1
              have HM := fun A1 hb => Hid.mk (hR.more (A1 := A1) hne hB6 hB7 hb hj hx hv (a := xa) (c := cj - 1) hxw (by omega) W4.heap.size)
              rw [hmj2] at HM
              have H7 : ∀ A1, Below A.heap.size A A1 → A1.cell? ⟨B7, 0, none⟩ = some (.slice (some ⟨xb, xo, none⟩) (mj + 1) cj) := fun A1 hb => by rw [← hmj]; exact (e7.below hb).cell rfl
              obtain ⟨vs, e1, e2⟩ := hR.in_
              have H6 : ∀ A1, Below A.heap.size A A1 → A1.cell? ⟨B6, k + 1, none⟩ = some (.int .i64 (nk (setQ ((usQ (op : Int)).take j) vs ((op : Int), 0, 0, 0)) k)) ∧ A1.frozen? ⟨B6, k + 1, none⟩ = false ∧ A1.frozen? ⟨B7, 0, none⟩ = false := fun A1 hb => ⟨(e2.below hb).cell (insC_num _ hkl), (e2.below hb).fz _, (e7.below hb).fz _⟩
              generalize nk (setQ ((usQ (op : Int)).take j) vs ((op : Int), 0, 0, 0)) k = old at *
              have HH7 := Hid.mk H7
              have HH6 := Hid.mk H6
              have HHM := Hid.mk HM
              have hxcA : ∀ A1, Below A.heap.size A A1 → A1.cell? ⟨xb, xo, none⟩ = some (.string (strB x)) := fun A1 hb => cell_on hb hxA
              have HHx := Hid.mk hxcA
              clear hxcA HM H6 H7 e1 e2 hx hv hxw ewv hmj hmj2 hjm hul hj
              unfold encU
              gi_wp2_with (first
                | (refine ⟨trivial, ?_⟩; gi_at_call 48; refine (CallsIn.inRound l2 (callsIn_wide.2 HN)).mono ?_; rintro e A1 ⟨rfl, hb1⟩; have g7 := HH7.out A1 hb1; have gx := HHx.out A1 hb1)
                | (refine ⟨trivial, ?_⟩; gi_at_call 49; refine (CallsIn.inRound l2 (callsIn_wide.2 (HA _))).mono ?_; rintro e A2 ⟨rfl, hb2⟩; have hb3 : Below A.heap.size A A2 := (hb2.elim (fun e => (by rw [e]; exact hb1)) (fun ⟨t, e⟩ => (by rw [e]; exact hb1.trans ((Lib.bytesWorld_below A1 5 t).mono hb1.size)))); clear hb2; have g7' := HH7.out A2 hb3; obtain ⟨g6, gz6, gz7⟩ := HH6.out A2 hb3))
              exact (HHM.out A2 hb3).out
        case done =>
          intro D A hD hR hK
          obtain ⟨vs, e1, e2⟩ := hR.in_
          obtain ⟨aj, cj, e7, ewv, ecj⟩ := hR.rest
          rw [List.take_length] at e2
          generalize hX : setQ (usQ (op : Int)) vs ((op : Int), 0, 0, 0) = X at *
          obtain ⟨q, hq⟩ : ∃ q : Bool, decide (r.length - (usQ (op : Int)).length = 0) = q := ⟨_, rfl⟩
          have hRq : R.isSome = q ∧ ∀ y, R = some y → X = y := by
            by_cases hl : r.length = (usQ (op : Int)).length
            · have : R = some X := by
                rw [← HR.out, ← hX]
                refine insW_some ho ?_ hl
                rwa [List.take_of_length_le (by omega)] at e1
              subst this
              refine ⟨?_, fun y h => by cases h; rfl⟩
              rw [← hq]
              simp
              omega
            · have : R = none := by rw [← HR.out]; exact insW_len ho hl
              subst this
              refine ⟨?_, fun y h => by cases h⟩
              rw [← hq]
              have := hR.le
              simp
              omega
          have HRq := Hid.mk hRq
          have hle := hR.le
          have Hres := Hid.mk hR.res
          have Hok := Hid.mk hR.ok
          obtain ⟨mj, hmj⟩ : ∃ mj, r.length - (usQ (op : Int)).length = mj := ⟨_, rfl⟩
          rw [hmj] at e7 hq
          have hq2 : ((mj : Int) == 0) = q := by rw [← hq]; simp [BEq.beq]
          have hbel := hR.bel
          have f0 := hR.res.cell (j := 0) (v := .int .i64 0) rfl
          have f1 := hR.res.cell (j := 1) (v := .int .i64 0) rfl
          have f2 := hR.res.cell (j := 2) (v := .int .i64 0) rfl
          have f3 := hR.res.cell (j := 3) (v := .int .i64 0) rfl
          have f4 := hR.ok.cell (j := 0) (v := .bool false) rfl
          have z := fun j => hR.res.fz j
          have z4 := hR.ok.fz 0
          obtain ⟨x0, x1, x2, x3'⟩ := X
          have y0 := e2.cell (j := 0) (v := .int .i64 x0) rfl
          have y1 := e2.cell (j := 1) (v := .int .i64 x1) rfl
          have y2 := e2.cell (j := 2) (v := .int .i64 x2) rfl
          have y3 := e2.cell (j := 3) (v := .int .i64 x3') rfl
          have y7 := e7.cell (j := 0) (v := .slice aj mj cj) rfl
          have hDl := (Array.getElem?_eq_some_iff.1 hK).1
          have n60 : w.heap.size ≠ B6 := by omega
          have n61 : w.heap.size + 1 ≠ B6 := by omega
          have n70 : w.heap.size ≠ B7 := by omega
          have n71 : w.heap.size + 1 ≠ B7 := by omega
          clear hR e1 e2 e7 hX hRq hq ewv
          gi_wp2_with fail
          refine wpIn_mono (Q := Exit.then (fun a' W' => a'.tmps.getD 2 undef = .pointer (some ⟨w.heap.size, 0, none⟩) ∧ a'.tmps.getD 3 undef = .pointer (some ⟨w.heap.size + 1, 0, none⟩) ∧ a'.defers = [mkD D] ∧ Cel W' w.heap.size (insC (x0, x1, x2, x3')) 37 ∧ Cel W' (w.heap.size + 1) #[.bool q] 4 ∧ But [w.heap.size, w.heap.size + 1] A W') (fun _ _ _ => False)) ?reg2 ?aft2
          case aft2 =>
            rintro e ⟨tm, df⟩ W' h
            cases e with
            | normal =>
              obtain ⟨t2, t3, td, g1, g2, g3⟩ := h
              dsimp only at t2 t3 td
              subst td
              gi_wp2_with fail
              have hM : Marks W4.heap.size [D] W' := ⟨by simp, fun y hy => by
                simp at hy
                subst hy
                exact ⟨hD, (g3.block y hDl (by simp; omega)).trans hK⟩⟩
              refine post_marks (Ds := [D]) hM (fun W2 hb => ⟨_, results_cc rfl _ _ w.heap.size (x0, x1, x2, x3') t2 (g1.but hb (by simp; omega)) (w.heap.size + 1) (.bool q) t3 ((g2.but hb (by simp; omega)).cell rfl), ⟨(x0, x1, x2, x3'), by rw [HRq.out.1], HRq.out.2⟩, ?_⟩)
              exact (hbel.trans (g3.below hbel.size (by simp))).trans (hb.below (Nat.le_trans hbel.size g3.size) (by simp; omega))
            | _ => exact h.elim
          refine wpIn_wide.2 ?_
          go_region
          refine ⟨rfl, rfl, rfl, ?_, ?_, ?_⟩
          · have g := ((((Hres.out.set (j := 0) (.int .i64 x0)).set (j := 1) (.int .i64 x1)).set (j := 2) (.int .i64 x2)).set (j := 3) (.int .i64 x3')).other (k' := w.heap.size + 1) (j := 0) (by omega) (.bool q)
            exact g
          · have g := ((((Hok.out.other (k' := w.heap.size) (j := 0) (by omega) (.int .i64 x0)).other (k' := w.heap.size) (j := 1) (by omega) (.int .i64 x1)).other (k' := w.heap.size) (j := 2) (by omega) (.int .i64 x2)).other (k' := w.heap.size) (j := 3) (by omega) (.int .i64 x3')).set (j := 0) (.bool q)
            exact g
          · exact ((((((But.refl _ A).set (p := ⟨w.heap.size, 0, none⟩) (by simp) _).set (p := ⟨w.heap.size, 1, none⟩) (by simp) _).set (p := ⟨w.heap.size, 2, none⟩) (by simp) _).set (p := ⟨w.heap.size, 3, none⟩) (by simp) _).set (p := ⟨w.heap.size + 1, 0, none⟩) (by simp) _).drew
        case stop =>
          rintro D c' A hD ⟨rfl, rfl, h2, h3, h4⟩ hK
          gi_wp2_with fail
          have hM : Marks W4.heap.size [D] A := ⟨by simp, fun y hy => by simp at hy; subst hy; exact ⟨hD, hK⟩⟩
          refine post_marks (Ds := [D]) hM (fun W' hb => ⟨_, results_cc rfl _ _ w.heap.size (0, 0, 0, 0) rfl (h3.but hb (by simp; omega)) (w.heap.size + 1) (.bool false) rfl ((h4.but hb (by simp; omega)).cell rfl), ⟨_, rfl, fun y h => by cases h⟩, h2.trans (hb.below h2.size (by simp; omega))⟩)
      | _ => exact h.elim
    refine wpIn_region_any hmx ?_
    change wpAnyIn _ _ _ _ _ _ _ _ _ (World.drew _)
    refine wpAnyIn_take (i := 0) (v := .int .i64 (op : Int)) rfl rfl (by kernel_rfl) (by kernel_rfl) (by kernel_rfl) (fun _ _ _ h => h) ⟨Or.inl ⟨rfl, fun w => by go_simp⟩, fun _ => rfl⟩ ?_
    refine wpAnyIn_take (i := 1) (v := .agg #[.int .i64 (op : Int), .int .i64 0, .int .i64 0, .int .i64 0]) rfl rfl (by kernel_rfl) (by kernel_rfl) (by kernel_rfl) (fun _ _ _ h => h) ⟨Or.inl ⟨rfl, fun w => by go_simp⟩, fun _ => rfl⟩ ?_
    refine wpAnyIn_take (i := 2) (v := .slice (some ⟨b, o, none⟩) (m + 1) c) rfl rfl (by kernel_rfl) (by kernel_rfl) (by kernel_rfl) (fun _ _ _ h => h) ⟨Or.inl ⟨rfl, fun w => by go_simp⟩, fun _ => rfl⟩ ?_
    refine wpAnyIn_take (i := 3) (v := .slice at_ m (c - 1)) rfl rfl (by kernel_rfl) (by kernel_rfl) (by kernel_rfl) (fun _ _ _ h => h) ⟨Or.inl ⟨rfl, fun w => by have h9 := hsl w; go_simp⟩, fun _ => rfl⟩ ?_
    simp only [Act.put, List.setIfInBounds_toArray, List.set_cons_zero, List.set_cons_succ, List.getElem_toArray, List.getElem_cons_zero, List.getElem_cons_succ]
    refine wpAnyIn_ready (rs := [4, 5]) (by kernel_rfl) (by simp) ?_
    refine AllReadyIn.cons rfl (fun K hK => ?_) (AllReadyIn.cons rfl (fun K hK => ?_) AllReadyIn.nil)
    · go_simp
      refine hK _ _ ?_
      clear hK K
      refine wpAnyIn_drop 5 rfl (by kernel_rfl) ?_
      show wpListIn _ _ _ _ _ [_, _, _] _ _
      gi_wp2_with fail
      obtain ⟨k1, k2, k3, k4, k5⟩ := four_new w #[.int .i64 0, .int .i64 0, .int .i64 0, .int .i64 0] #[.bool false] (insC ((op : Int), 0, 0, 0)) #[.slice at_ m (c - 1)] 37 4 37 56
      exact ⟨w.heap.size + 1 + 1, w.heap.size + 1 + 1 + 1, by omega, by omega, by omega, k1, k2, k3, k4, k5, rfl⟩
    · go_simp
      refine hK _ _ ?_
      clear hK K
      refine wpAnyIn_ready (rs := [4]) (by kernel_rfl) (by simp) ?_
      refine AllReadyIn.cons rfl (fun K hK => ?_) AllReadyIn.nil
      go_simp
      refine hK _ _ ?_
      clear hK K
      refine wpAnyIn_drop 6 rfl (by kernel_rfl) ?_
      show wpListIn _ _ _ _ _ [_, _] _ _
      gi_wp2_with fail
      obtain ⟨k1, k2, k3, k4, k5⟩ := four_new w #[.int .i64 0, .int .i64 0, .int .i64 0, .int .i64 0] #[.bool false] #[.slice at_ m (c - 1)] (insC ((op : Int), 0, 0, 0)) 37 4 56 37
      exact ⟨w.heap.size + 1 + 1 + 1, w.heap.size + 1 + 1, by omega, by omega, by omega, k1, k2, k3, k5, k4, rfl⟩

theorem inst_any {l : List UInt8} {r : List (List UInt8)} {a : Option Addr} {c : Nat} {w : World} (hw : WV w a (l :: r)) (hc : r.length + 1 ≤ c) (hr : r.length ≤ 10000) (hrl : ∀ x ∈ r, x.length ≤ 10000) (hT : Tab w) :
    Calls Tryz.prog 21 #[.slice a (r.length + 1) c] w fun e w' => LineV (insW (l :: r)) e ∧ Below w.heap.size w w' := callsIn_wide.1 (inst_in hw hc hr hrl hT)

end Go.Proofs.YtbcdjpafdmgbmaaGreatDoor
