/- The calls of a source, of each kind. -/
/- Parse, the program's: the next instruction. -/
import Derived.Test.YtbcdjpafdmgbmaaGreatDoorJ16BackT
import Derived.Test.YtbcdjpafdmgbmaaGreatDoorJ05BackT
import Derived.Test.YtbcdjpafdmgbmaaGreatDoorJ15BackT
import Derived.Laws.Rows
namespace Go.Proofs.YtbcdjpafdmgbmaaGreatDoor
open Go.RowKit

theorem numT_err {most : Nat} {bs : List UInt8} (h : (numT most bs).1 ≠ 0) : (numT most bs).2 = (0, []) := by
  unfold numT at h ⊢
  simp only at h ⊢
  split
  · rename_i h0
    rw [if_pos h0] at h
    split
    · rfl
    · rename_i h1
      rw [if_neg h1] at h
      exact absurd h0 h
  · rename_i h0
    exact numG_err _ _ _ h0
theorem intT_err {least most : Int} {bs : List UInt8} (h : (intT least most bs).1 ≠ 0) : (intT least most bs).2 = (0, []) := by
  unfold intT at h ⊢
  simp only at h ⊢
  split
  · rename_i h0
    rw [if_pos h0] at h
    split
    · rfl
    · rename_i h1
      rw [if_neg h1] at h
      exact absurd rfl h
  · rfl
theorem textT_err {most : Int} {bs : List UInt8} (h : (textT most bs).1 ≠ 0) : (textT most bs).2 = ([], []) := by
  unfold textT at h ⊢
  simp only at h ⊢
  split
  · rename_i h0
    rw [if_pos h0] at h
    split
    · rfl
    · rename_i h1
      rw [if_neg h1] at h
      exact absurd rfl h
  · rfl
theorem flagT_err {bs : List UInt8} (h : (flagT bs).1 ≠ 0) : (flagT bs).2 = (false, []) := by
  cases bs with
  | nil => rfl
  | cons c t =>
    by_cases h1 : 1 < c.toNat
    · simp [flagT, h1]
    · simp [flagT, h1] at h
theorem byteT_err {bs : List UInt8} (h : (byteT bs).1 ≠ 0) : (byteT bs).2 = (0, []) := by
  cases bs with
  | nil => rfl
  | cons c t => exact absurd rfl h
theorem intsG_err {least most : Int} {n : Nat} {bs : List UInt8} (h : (intsG least most n bs).1 ≠ 0) : (intsG least most n bs).2 = ([], []) := by
  rw [← joinI_nil] at h ⊢
  unfold joinI at h ⊢
  split
  · rename_i h0
    rw [if_pos h0] at h
    exact absurd rfl h
  · rfl
theorem intsT_err {count least most : Int} {bs : List UInt8} (h : (intsT count least most bs).1 ≠ 0) : (intsT count least most bs).2 = ([], []) := by
  unfold intsT at h ⊢
  simp only at h ⊢
  split
  · rename_i h0
    rw [if_pos h0] at h
    exact intsG_err h
  · rfl

/-- What a call of a source tells. -/
def GotS {α : Type} (B : Nat) (w : World) (V : α → Value → World → Prop) (f : List UInt8 → Nat × α × List UInt8) (z : α) (st : Nat × List UInt8) (e : Ending) (w' : World) : Prop :=
  But [B] w w' ∧ SQ w' B (getS f z st).2 ∧ ∃ v, e = .returned v ∧ V (getS f z st).1 v w'
section
variable {α : Type} {B : Nat} {w w' : World} {V : α → Value → World → Prop} {f : List UInt8 → Nat × α × List UInt8} {z : α} {st : Nat × List UInt8} {v Z : Value}
theorem GotS.ok (h0 : st.1 = 0) (hb : But [B] w w') (hs : SQ w' B ((f st.2).1, if (f st.2).1 = 0 then (f st.2).2.2 else [])) (hv0 : (f st.2).1 = 0 → V (f st.2).2.1 v w') (hv1 : (f st.2).1 ≠ 0 → v = Z) (hZ : V z Z w') (hf : (f st.2).1 ≠ 0 → (f st.2).2 = (z, [])) : GotS B w V f z st (.returned v) w' := by
  have e : getS f z st = ((f st.2).2.1, (f st.2).1, (f st.2).2.2) := by unfold getS; rw [if_pos h0]
  refine ⟨hb, ?_, v, rfl, ?_⟩
  · rw [e]
    by_cases hx : (f st.2).1 = 0
    · rw [if_pos hx] at hs
      exact hs
    · rw [if_neg hx] at hs
      rw [hf hx]
      exact hs
  · rw [e]
    by_cases hx : (f st.2).1 = 0
    · exact hv0 hx
    · rw [hv1 hx, hf hx]
      exact hZ
theorem GotS.no (h0 : st.1 ≠ 0) (hb : But [] w w') (hs : SQ w B st) (hZ : V z Z w') : GotS B w V f z st (.returned Z) w' := by
  have e : getS f z st = (z, st) := by unfold getS; rw [if_neg h0]
  refine ⟨hb.wide, ?_, Z, rfl, ?_⟩
  · rw [e]
    exact hs.keep hb
  · rw [e]
    exact hZ
end

theorem ToldV.imp {B : Nat} {w w' : World} {e : Ending} {V U : Value → World → Prop} {x : Nat} {t : List UInt8} (h : ToldV B w w' e V x t) (hu : ∀ v w', V v w' → U v w') : ToldV B w w' e U x t :=
  ⟨h.1, h.2.imp (fun ⟨a, v, b, c, d⟩ => ⟨a, v, b, hu _ _ c, d⟩) id⟩

theorem byte_any (B : Nat) (bs : List UInt8) (w : World) (h : SR w B 0 bs) :
    Calls Tryz.prog 55 #[.pointer (some ⟨B, 0, none⟩)] w fun e w' => ToldV B w w' e (fun v _ => v = .int .u8 ((byteT bs).2.1.toNat : Int)) (byteT bs).1 (byteT bs).2.2 := by
  cases bs with
  | nil =>
    refine (next_short B w h).mono ?_
    rintro e w' ⟨rfl, rfl⟩
    exact ⟨But.refl _ _, .inr ⟨by simp [byteT], rfl, [], h⟩⟩
  | cons c t =>
    refine (next_ok B c t w h).mono ?_
    rintro e w' ⟨rfl, hb, hs⟩
    exact ⟨hb, .inl ⟨rfl, _, rfl, rfl, hs⟩⟩

/-- Texts, ints by their rows. -/
def strV (l : List UInt8) : Value := .string ⟨l.toArray⟩

section
variable {B : Nat}

set_option maxHeartbeats 1000000 in
theorem src28 (st : Nat × List UInt8) (w : World) (h : SQ w B st) (most : Nat) :
    Calls Tryz.prog 13 #[.pointer (some ⟨B, 0, none⟩), .int .u64 (most : Int)] w fun e w' => GotS B w (fun (n : Nat) v _ => v = .int .u64 (n : Int)) (numT most) 0 st e w' := by
  obtain ⟨bs, h, h1, h2⟩ := h
  have hmf : ∀ (fn : Fn) (first cap : Array Value) (w : World), (Instr.makeFunc fn first cap).run Tryz.prog w = .ok (.func fn first cap) w := fun _ _ _ _ => rfl
  have hb0 : But [] w ((w.alloc (.cells #[.pointer (some ⟨B, 0, none⟩)] 38)).alloc (.cells #[.int .u64 (most : Int)] 40)) := (((But.refl [] w).alloc _).alloc _)
  by_cases h0 : st.1 = 0
  · have e0 := h1 h0
    subst e0
    rw [h0] at h
    have h' := h.keep hb0
    have hB := h.lt
    have c0 : ((w.alloc (.cells #[.pointer (some ⟨B, 0, none⟩)] 38)).alloc (.cells #[.int .u64 (most : Int)] 40)).cell? ⟨w.heap.size, 0, none⟩ = some (.pointer (some ⟨B, 0, none⟩)) := by simp [go_sem]
    have c1 : ((w.alloc (.cells #[.pointer (some ⟨B, 0, none⟩)] 38)).alloc (.cells #[.int .u64 (most : Int)] 40)).cell? ⟨w.heap.size + 1, 0, none⟩ = some (.int .u64 (most : Int)) := by simp [go_sem]
    have hg := get46_any B st.2 _ h' w.heap.size (w.heap.size + 1) _ _ _ (fun w1 hb => step47 (h'.keep hb) most (hb.cell c0) (hb.cell c1))
    clear h1 h2
    go_enter Tryz.func13, Tryz.ntmps13
    go_wp2_with (go_at_call 29; refine hg.mono ?_; rintro e w' ⟨hb1, hs1, v, rfl, hv0, hv1⟩; have HG := Hid.mk hs1; have H0 := Hid.mk hv0; have H1 := Hid.mk hv1; clear hs1 hv0 hv1)
    go_ret
    exact GotS.ok h0 (hb0.wide.trans hb1) HG.out H0.out H1.out rfl numT_err
  · have hg := get46_err B st.1 bs _ (h.keep hb0) h0
    have hh : SQ w B st := ⟨bs, h, h1, h2⟩
    clear h1 h2
    go_enter Tryz.func13, Tryz.ntmps13
    go_wp2_with (go_at_call 29; refine (hg _).mono ?_; rintro e w' ⟨rfl, hb1⟩)
    go_ret
    exact GotS.no h0 (hb0.trans hb1) hh rfl

set_option maxHeartbeats 1000000 in
theorem none28 (p : Option Addr) (w : World) (h : NoS w p) (most : Nat) :
    Calls Tryz.prog 13 #[.pointer p, .int .u64 (most : Int)] w fun e w' => e = .returned (.int .u64 0) ∧ But [] w w' := by
  have hmf : ∀ (fn : Fn) (first cap : Array Value) (w : World), (Instr.makeFunc fn first cap).run Tryz.prog w = .ok (.func fn first cap) w := fun _ _ _ _ => rfl
  have hb0 : But [] w ((w.alloc (.cells #[.pointer p] 38)).alloc (.cells #[.int .u64 (most : Int)] 40)) := (((But.refl [] w).alloc _).alloc _)
  have hg := get46_none p _ (h.keep hb0)
  go_enter Tryz.func13, Tryz.ntmps13
  go_wp2_with (go_at_call 29; refine (hg _).mono ?_; rintro e w' ⟨rfl, hb1⟩)
  go_ret
  exact ⟨rfl, hb0.trans hb1⟩

set_option maxHeartbeats 1000000 in
theorem src29 (st : Nat × List UInt8) (w : World) (h : SQ w B st) (least : Int) (most : Int) :
    Calls Tryz.prog 33 #[.pointer (some ⟨B, 0, none⟩), .int .i64 least, .int .i64 most] w fun e w' => GotS B w (fun (n : Int) v _ => v = .int .i64 n) (intT least most) 0 st e w' := by
  obtain ⟨bs, h, h1, h2⟩ := h
  have hmf : ∀ (fn : Fn) (first cap : Array Value) (w : World), (Instr.makeFunc fn first cap).run Tryz.prog w = .ok (.func fn first cap) w := fun _ _ _ _ => rfl
  have hb0 : But [] w (((w.alloc (.cells #[.pointer (some ⟨B, 0, none⟩)] 38)).alloc (.cells #[.int .i64 least] 3)).alloc (.cells #[.int .i64 most] 3)) := ((((But.refl [] w).alloc _).alloc _).alloc _)
  by_cases h0 : st.1 = 0
  · have e0 := h1 h0
    subst e0
    rw [h0] at h
    have h' := h.keep hb0
    have hB := h.lt
    have c0 : (((w.alloc (.cells #[.pointer (some ⟨B, 0, none⟩)] 38)).alloc (.cells #[.int .i64 least] 3)).alloc (.cells #[.int .i64 most] 3)).cell? ⟨w.heap.size, 0, none⟩ = some (.pointer (some ⟨B, 0, none⟩)) := by simp [go_sem]
    have c1 : (((w.alloc (.cells #[.pointer (some ⟨B, 0, none⟩)] 38)).alloc (.cells #[.int .i64 least] 3)).alloc (.cells #[.int .i64 most] 3)).cell? ⟨w.heap.size + 1, 0, none⟩ = some (.int .i64 least) := by simp [go_sem]
    have c2 : (((w.alloc (.cells #[.pointer (some ⟨B, 0, none⟩)] 38)).alloc (.cells #[.int .i64 least] 3)).alloc (.cells #[.int .i64 most] 3)).cell? ⟨w.heap.size + 2, 0, none⟩ = some (.int .i64 most) := by simp [go_sem]
    have hg := get49_any B st.2 _ h' w.heap.size (w.heap.size + 1) (w.heap.size + 2) _ _ _ (fun w1 hb => step50 (h'.keep hb) least most (hb.cell c0) (hb.cell c1) (hb.cell c2))
    clear h1 h2
    go_enter Tryz.func33, Tryz.ntmps33
    go_wp2_with (go_at_call 56; refine hg.mono ?_; rintro e w' ⟨hb1, hs1, v, rfl, hv0, hv1⟩; have HG := Hid.mk hs1; have H0 := Hid.mk hv0; have H1 := Hid.mk hv1; clear hs1 hv0 hv1)
    go_ret
    exact GotS.ok h0 (hb0.wide.trans hb1) HG.out H0.out H1.out rfl intT_err
  · have hg := get49_err B st.1 bs _ (h.keep hb0) h0
    have hh : SQ w B st := ⟨bs, h, h1, h2⟩
    clear h1 h2
    go_enter Tryz.func33, Tryz.ntmps33
    go_wp2_with (go_at_call 56; refine (hg _).mono ?_; rintro e w' ⟨rfl, hb1⟩)
    go_ret
    exact GotS.no h0 (hb0.trans hb1) hh rfl

set_option maxHeartbeats 1000000 in
theorem none29 (p : Option Addr) (w : World) (h : NoS w p) (least : Int) (most : Int) :
    Calls Tryz.prog 33 #[.pointer p, .int .i64 least, .int .i64 most] w fun e w' => e = .returned (.int .i64 0) ∧ But [] w w' := by
  have hmf : ∀ (fn : Fn) (first cap : Array Value) (w : World), (Instr.makeFunc fn first cap).run Tryz.prog w = .ok (.func fn first cap) w := fun _ _ _ _ => rfl
  have hb0 : But [] w (((w.alloc (.cells #[.pointer p] 38)).alloc (.cells #[.int .i64 least] 3)).alloc (.cells #[.int .i64 most] 3)) := ((((But.refl [] w).alloc _).alloc _).alloc _)
  have hg := get49_none p _ (h.keep hb0)
  go_enter Tryz.func33, Tryz.ntmps33
  go_wp2_with (go_at_call 56; refine (hg _).mono ?_; rintro e w' ⟨rfl, hb1⟩)
  go_ret
  exact ⟨rfl, hb0.trans hb1⟩

set_option maxHeartbeats 1000000 in
theorem src34 (st : Nat × List UInt8) (w : World) (h : SQ w B st) :
    Calls Tryz.prog 32 #[.pointer (some ⟨B, 0, none⟩)] w fun e w' => GotS B w (fun (c : UInt8) v _ => v = .int .u8 (c.toNat : Int)) (byteT) 0 st e w' := by
  obtain ⟨bs, h, h1, h2⟩ := h
  have hmf : ∀ (fn : Fn) (first cap : Array Value) (w : World), (Instr.makeFunc fn first cap).run Tryz.prog w = .ok (.func fn first cap) w := fun _ _ _ _ => rfl
  have hb0 : But [] w w := (But.refl [] w)
  by_cases h0 : st.1 = 0
  · have e0 := h1 h0
    subst e0
    rw [h0] at h
    have h' := h.keep hb0
    have hg := get60_any B st.2 _ h' _ _ _ (fun w1 hb => byte_any B st.2 w1 (h'.keep hb))
    clear h1 h2
    go_enter Tryz.func32, Tryz.ntmps32
    go_wp2_with (go_at_call 54; refine hg.mono ?_; rintro e w' ⟨hb1, hs1, v, rfl, hv0, hv1⟩; have HG := Hid.mk hs1; have H0 := Hid.mk hv0; have H1 := Hid.mk hv1; clear hs1 hv0 hv1)
    go_ret
    exact GotS.ok h0 (hb0.wide.trans hb1) HG.out H0.out H1.out rfl byteT_err
  · have hg := get60_err B st.1 bs _ (h.keep hb0) h0
    have hh : SQ w B st := ⟨bs, h, h1, h2⟩
    clear h1 h2
    go_enter Tryz.func32, Tryz.ntmps32
    go_wp2_with (go_at_call 54; refine (hg _).mono ?_; rintro e w' ⟨rfl, hb1⟩)
    go_ret
    exact GotS.no h0 (hb0.trans hb1) hh rfl

set_option maxHeartbeats 1000000 in
theorem none34 (p : Option Addr) (w : World) (h : NoS w p) :
    Calls Tryz.prog 32 #[.pointer p] w fun e w' => e = .returned (.int .u8 0) ∧ But [] w w' := by
  have hmf : ∀ (fn : Fn) (first cap : Array Value) (w : World), (Instr.makeFunc fn first cap).run Tryz.prog w = .ok (.func fn first cap) w := fun _ _ _ _ => rfl
  have hb0 : But [] w w := (But.refl [] w)
  have hg := get60_none p _ (h.keep hb0)
  go_enter Tryz.func32, Tryz.ntmps32
  go_wp2_with (go_at_call 54; refine (hg _).mono ?_; rintro e w' ⟨rfl, hb1⟩)
  go_ret
  exact ⟨rfl, hb0.trans hb1⟩

end
end Go.Proofs.YtbcdjpafdmgbmaaGreatDoor
namespace Go.Proofs.YtbcdjpafdmgbmaaGreatDoor
open Go.RowKit Go.Shelf
attribute [local go_sem] Oper.semAt_some

/-- The result that is kept in cells of its own. -/
theorem results_cA {fn : Func} {p : Tmp} (h : fn.results = #[.cell p 37]) (tmps : Array Value) (w : World) (g : Nat) (x : Ins) (hp : tmps.getD p undef = .pointer (some ⟨g, 0, none⟩)) (hc : Cel w g (insC x) 37) : (results fn tmps).run Tryz.prog w = .ok (.agg (insC x)) w := by
  have hp' : tmps[p]?.getD undef = .pointer (some ⟨g, 0, none⟩) := by simpa using hp
  have hl := run_loadVar_row (P := Tryz.prog) w g 37 37 (insC x) (0, 0) _ hc Tryz.underlying37 (by rfl) (by kernel_rfl)
  simp [results, h, hp', asAddr, hl]
/-- The step that only touches S. -/
theorem kp_list {S : List Nat} {base : Nat} {W W' : World} (hb : But S W W') (hin : OwnIn (fun _ => S) W) : Kp (fun _ => S) base W W' := by
  refine ⟨⟨hb.size, fun k o _ hk hc => ?_⟩, fun k o hk _ hn => (hb.block k (Array.getElem?_eq_some_iff.1 hk).1 hn).trans hk, fun _ _ h => h⟩
  refine (hb.block k (Array.getElem?_eq_some_iff.1 hk).1 (fun hS => ?_)).trans hk
  obtain ⟨o', ho', hc'⟩ := hin k hS
  rw [hk] at ho'
  cases ho'
  rw [hc] at hc'
  cases hc'
theorem but_of {A B : World} {row : Option Nat} (hg : A.grownBy B row) : But row.toList A B :=
  ⟨hg.os, hg.tape, hg.output, hg.size, fun k hk hs => hg.block k hk (fun e => hs (by simp [← e]))⟩
theorem sq_blk {A : World} {S : Nat} {st : St} (h : SQ A S st) : ∃ o : Obj, A.heap[S]? = some o ∧ o.isCells = true := by
  obtain ⟨bs, ⟨a, c, h, _⟩, _⟩ := h
  exact ⟨_, h, rfl⟩
theorem insC_set (x : Ins) {k : Nat} (hk : k < 3) (v : Int) : (insC x).setIfInBounds (k + 1) (.int .i64 v) = insC (nset x k v) := by
  match k, hk with
  | 0, _ => rfl
  | 1, _ => rfl
  | 2, _ => rfl

abbrev minI : Int := -9223372036854775808
abbrev maxI : Int := 9223372036854775807

set_option maxRecDepth 100000 in
set_option maxHeartbeats 4000000 in
theorem next_in (S : Nat) (st : St) (w w0 : World) (hs : SQ w S st) (hT : Tab w0) (hb0 : Below w0.heap.size w0 w) (hS0 : w0.heap.size ≤ S) :
    CallsIn Fence.wide 9 Tryz.prog 14 #[.pointer (some ⟨S, 0, none⟩)] w fun e w' => e = .returned (.agg (insC (nextP minI maxI st).1)) ∧ But [S] w w' ∧ SQ w' S (nextP minI maxI st).2 := by
  have hS := hs.lt
  have b1 : But [] w ((w.alloc (.cells #[.pointer (some ⟨S, 0, none⟩)] 38)).alloc (.cells #[.int .i64 0, .int .i64 0, .int .i64 0, .int .i64 0] 37)) := ((But.refl [] w).alloc _).alloc _
  have HB := src34 st _ (hs.keep b1)
  have hwr : wrap64 ((getS byteT 0 st).1.toNat : Int) = ((getS byteT 0 st).1.toNat : Int) := by
    have := (getS byteT 0 st).1.toNat_lt
    unfold wrap64
    omega
  refine callsIn_of_wp_marks Tryz.func14 rfl trivial ?_ rfl
  simp only [Tryz.ntmps14, List.size_toArray, List.length_cons, List.length_nil, Nat.reduceAdd, Nat.reduceSub, Array.replicate_succ, Array.replicate_zero, List.push_toArray, List.append_toArray, List.nil_append, List.cons_append]
  gi_wp2_with (first
    | (refine ⟨trivial, ?_⟩; gi_at_call 32; refine (callsIn_wide.2 HB).mono ?_; rintro e w1 ⟨hb1, hs1, v1, rfl, hv1⟩; subst hv1)
    | (refine ⟨trivial, ?_⟩; gi_at_call 18; refine (callsIn_wide.2 (used_any _ _)).mono ?_; rintro e w5 ⟨rfl, rfl⟩))
  have hn : Hid (nextP minI maxI st = fillQ minI maxI (usQ (opI (getS byteT 0 st).1).1) (opI (getS byteT 0 st).1) (getS byteT 0 st).2) := Hid.mk rfl
  have ho : ((getS byteT 0 st).1.toNat : Int) = (opI (getS byteT 0 st).1).1 := rfl
  have p1 : Cel ((w.alloc (.cells #[.pointer (some ⟨S, 0, none⟩)] 38)).alloc (.cells #[.int .i64 0, .int .i64 0, .int .i64 0, .int .i64 0] 37)) w.heap.size #[.pointer (some ⟨S, 0, none⟩)] 38 := (Cel.new w _ 38).put (Below.heap_alloc _ _ _ (by simp))
  have r1 : Cel ((w.alloc (.cells #[.pointer (some ⟨S, 0, none⟩)] 38)).alloc (.cells #[.int .i64 0, .int .i64 0, .int .i64 0, .int .i64 0] 37)) (w.heap.size + 1) #[.int .i64 0, .int .i64 0, .int .i64 0, .int .i64 0] 37 := by
    have := Cel.new (w.alloc (.cells #[.pointer (some ⟨S, 0, none⟩)] 38)) #[.int .i64 0, .int .i64 0, .int .i64 0, .int .i64 0] 37
    rwa [World.size_alloc] at this
  have hz1 := hb1.size
  simp only [World.size_alloc] at hz1
  have p2 := p1.but hb1 (by simp; omega)
  have r2 := r1.but hb1 (by simp; omega)
  have bw : But [S] w w1 := b1.wide.trans hb1
  clear p1 r1 HB b1 hb1
  have b2 : But [] w1 ((w1.alloc (.cells #[.int .i64 ((getS byteT 0 st).1.toNat : Int), .int .i64 0, .int .i64 0, .int .i64 0] 37)).alloc (.cells #[.pointer (some ⟨w1.heap.size, 0, none⟩)] 49)) := ((But.refl [] w1).alloc _).alloc _
  have i3 : Cel ((w1.alloc (.cells #[.int .i64 ((getS byteT 0 st).1.toNat : Int), .int .i64 0, .int .i64 0, .int .i64 0] 37)).alloc (.cells #[.pointer (some ⟨w1.heap.size, 0, none⟩)] 49)) w1.heap.size (insC (opI (getS byteT 0 st).1)) 37 := (Cel.new w1 _ 37).put (Below.heap_alloc _ _ _ (by simp))
  have x3 : ((w1.alloc (.cells #[.int .i64 ((getS byteT 0 st).1.toNat : Int), .int .i64 0, .int .i64 0, .int .i64 0] 37)).alloc (.cells #[.pointer (some ⟨w1.heap.size, 0, none⟩)] 49)).cell? ⟨w1.heap.size + 1, 0, none⟩ = some (.pointer (some ⟨w1.heap.size, 0, none⟩)) := by simp [go_sem]
  have p3 := p2.but b2 (by simp)
  have r3 := r2.but b2 (by simp)
  have hs3 := hs1.keep b2
  have bw3 : But [S] w _ := bw.trans b2.wide
  clear p2 r2 b2
  rw [ho] at *
  clear ho hwr
  have hz3 : w1.heap.size < ((w1.alloc (.cells #[.int .i64 (opI (getS byteT 0 st).1).1, .int .i64 0, .int .i64 0, .int .i64 0] 37)).alloc (.cells #[.pointer (some ⟨w1.heap.size, 0, none⟩)] 49)).heap.size := by simp; omega
  generalize ((w1.alloc (.cells #[.int .i64 (opI (getS byteT 0 st).1).1, .int .i64 0, .int .i64 0, .int .i64 0] 37)).alloc (.cells #[.pointer (some ⟨w1.heap.size, 0, none⟩)] 49)) = W at *
  clear hs1 bw
  generalize opI (getS byteT 0 st).1 = x at *
  generalize (getS byteT 0 st).2 = s1 at *
  clear hs
  generalize w1.heap.size = B at *
  have hSB : S ≠ B := by omega
  refine wp_range (stab_const [S, B]) (gf := 41) (lb := #[.pointer (some ⟨B + 1, 0, none⟩)]) rfl (enters_of Tryz.func41 (by kernel_rfl) rfl)
    (used_seq (stab_const [S, B]) (B + 1) B x.1 W (hT.on (hb0.trans (bw3.below hb0.size (by simpa using hS0)))) x3 (i3.cell rfl)) (Below.refl _ _) (fun _ => rfl)
    (fun j A => SQ A S (fillQ minI maxI ((usQ x.1).take j) x s1).2 ∧ Cel A B (insC (fillQ minI maxI ((usQ x.1).take j) x s1).1) 37 ∧ Cel A w.heap.size #[.pointer (some ⟨S, 0, none⟩)] 38 ∧ Cel A (w.heap.size + 1) #[.int .i64 0, .int .i64 0, .int .i64 0, .int .i64 0] 37 ∧ But [S] w A)
    (fun _ _ => False) ?hI (fun c' u A A' row h _ _ => h) ?inn ⟨hs3, i3, p3, r3, bw3⟩ ?a1 ?assign ?body ?done ?stop
  case hI =>
    rintro j A A' row ⟨h1, h2, h3, h4, h5⟩ hg' hr
    have hr2 := fun r e => (hr r e).2
    have hb := but_of hg'
    have hz := bw3.size
    refine ⟨h1.but hb (fun y hy => ?_), h2.own hg' hr2, h3.own hg' hr2, h4.own hg' hr2, h5.trans_new hb (fun y hy => .inr ?_)⟩
    · have := (hr y (by simpa using hy)).1
      omega
    · have := (hr y (by simpa using hy)).1
      omega
  case inn =>
    rintro j A ⟨h1, h2, h3, h4, h5⟩ k hk
    simp at hk
    rcases hk with rfl | rfl
    · exact sq_blk h1
    · exact ⟨_, h2, rfl⟩
  case assign =>
    intro l x W K hK
    gi_wp2
    exact hK
  case body =>
    rintro l2 j k A hj ⟨h1, h2, h3, h4, h5⟩
    have hkl := (usQ_mem (List.mem_of_getElem? hj)).1
    have hf := fillQ_succ minI maxI hj x s1
    have hin : OwnIn (fun _ => [S, B]) A := by
      intro k hk
      simp at hk
      rcases hk with rfl | rfl
      · exact sq_blk h1
      · exact ⟨_, h2, rfl⟩
    generalize fillQ minI maxI ((usQ x.1).take j) x s1 = r at *
    have H1 := src29 r.2 A h1 minI maxI
    have cp := h3.cell (j := 0) (v := .pointer (some ⟨S, 0, none⟩)) rfl
    unfold encU
    gi_wp2_with (refine ⟨trivial, ?_⟩; gi_at_call 33; refine (CallsIn.inRound l2 (callsIn_wide.2 H1)).mono ?_; rintro e A1 ⟨hb1, hs1, v1, rfl, hv1⟩; subst hv1; have i1 := h2.but hb1 (by simpa using hSB.symm); have cv := i1.cell (insC_num r.1 hkl); have fz := i1.fz (k + 1))
    have hb2 : But [S, B] A (A1.setCell ⟨B, k + 1, none⟩ (.int .i64 (getS (intT minI maxI) 0 r.2).1)) := (hb1.mono (by simp)).set (by simp) _
    have hz := bw3.size
    refine ⟨kp_list hb2 hin, ?_, ?_, h3.but hb2 (by simp; omega), h4.but hb2 (by simp; omega), h5.trans_new hb2 (fun y hy => ?_)⟩
    · rw [hf]
      exact hs1.but (S := [B]) ((But.refl _ A1).set (by simp) _) (by simp; omega)
    · rw [hf, ← insC_set r.1 hkl]
      exact i1.set _
    · simp at hy
      rcases hy with rfl | rfl
      · exact .inl (by simp)
      · exact .inr (by omega)
  case done =>
    rintro D A hD ⟨h1, h2, h3, h4, h5⟩ hK
    rw [List.take_length, ← hn.out] at h1 h2
    have g0 := h2.cell (j := 0) (v := .int .i64 (nextP minI maxI st).1.1) rfl
    have g1 := h2.cell (j := 1) (v := .int .i64 (nextP minI maxI st).1.2.1) rfl
    have g2 := h2.cell (j := 2) (v := .int .i64 (nextP minI maxI st).1.2.2.1) rfl
    have g3 := h2.cell (j := 3) (v := .int .i64 (nextP minI maxI st).1.2.2.2) rfl
    have f0 := h4.cell (j := 0) (v := .int .i64 0) rfl
    have f1 := h4.cell (j := 1) (v := .int .i64 0) rfl
    have f2 := h4.cell (j := 2) (v := .int .i64 0) rfl
    have f3 := h4.cell (j := 3) (v := .int .i64 0) rfl
    have z := fun j => h4.fz j
    gi_wp2_with fail
    have hz := bw3.size
    have q1 := (((h4.set (j := 0) (.int .i64 (nextP minI maxI st).1.1)).set (j := 1) (.int .i64 (nextP minI maxI st).1.2.1)).set (j := 2) (.int .i64 (nextP minI maxI st).1.2.2.1)).set (j := 3) (.int .i64 (nextP minI maxI st).1.2.2.2)
    have q2 := ((((But.refl [w.heap.size + 1] A).set (p := ⟨w.heap.size + 1, 0, none⟩) (by simp) (.int .i64 (nextP minI maxI st).1.1)).set (p := ⟨w.heap.size + 1, 1, none⟩) (by simp) (.int .i64 (nextP minI maxI st).1.2.1)).set (p := ⟨w.heap.size + 1, 2, none⟩) (by simp) (.int .i64 (nextP minI maxI st).1.2.2.1)).set (p := ⟨w.heap.size + 1, 3, none⟩) (by simp) (.int .i64 (nextP minI maxI st).1.2.2.2)
    generalize ((((A.setCell ⟨w.heap.size + 1, 0, none⟩ (.int .i64 (nextP minI maxI st).1.1)).setCell ⟨w.heap.size + 1, 1, none⟩ (.int .i64 (nextP minI maxI st).1.2.1)).setCell ⟨w.heap.size + 1, 2, none⟩ (.int .i64 (nextP minI maxI st).1.2.2.1)).setCell ⟨w.heap.size + 1, 3, none⟩ (.int .i64 (nextP minI maxI st).1.2.2.2)) = A2 at q1 q2 ⊢
    have hDl := (Array.getElem?_eq_some_iff.1 hK).1
    have hM : Marks W.heap.size [D] A2 := ⟨by simp, fun y hy => by
      simp at hy
      subst hy
      exact ⟨hD, (q2.block y hDl (by simp; omega)).trans hK⟩⟩
    refine post_marks (Ds := [D]) hM (fun W' hb => ⟨_, results_cA rfl _ _ (w.heap.size + 1) (nextP minI maxI st).1 rfl (Cel.but (A := A2) q1 hb (by simp; omega)), rfl, ?_, ?_⟩)
    · exact (h5.trans_new q2 (by simp)).trans_new hb (fun y hy => by simp at hy; exact .inr (by omega))
    · exact (h1.but q2 (by simp; omega)).but hb (by simp; omega)
  case stop =>
    rintro D c' A _ h _
    exact h.elim

theorem next_any {S : Nat} {st : St} {w w0 : World} (hs : SQ w S st) (hT : Tab w0) (hb0 : Below w0.heap.size w0 w) (hS0 : w0.heap.size ≤ S) :
    Calls Tryz.prog 14 #[.pointer (some ⟨S, 0, none⟩)] w fun e w' => e = .returned (.agg (insC (nextP minI maxI st).1)) ∧ But [S] w w' ∧ SQ w' S (nextP minI maxI st).2 := callsIn_wide.1 (next_in S st w w0 hs hT hb0 hS0)

end Go.Proofs.YtbcdjpafdmgbmaaGreatDoor
