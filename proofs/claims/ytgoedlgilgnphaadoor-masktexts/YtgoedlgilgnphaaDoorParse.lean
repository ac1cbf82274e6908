/- Parse. -/
import Derived.Test.YtgoedlgilgnphaaDoorSplitM
namespace Go.Proofs.YtgoedlgilgnphaaDoor
open Go.RowKit Go.Shelf
attribute [local go_sem] Oper.semAt_some

def okAll (l : List (List UInt8)) : Prop := ∀ p ∈ l, (partV p).2 = true
def accL (l : List (List UInt8)) : Nat := l.foldl (fun x p => x ||| (partV p).1) 0

theorem partV_lt (p : List UInt8) : (partV p).1 < 18446744073709551616 := by
  unfold partV
  dsimp only
  generalize memV (if (cutL p 45).2.2 = true then (cutL p 45).2.1 else (cutL p 45).1) = y
  generalize memV (cutL p 45).1 = x
  by_cases h : x.2 = true ∧ y.2 = true
  · rw [if_pos h]; exact and_lt (below_lt (clampN_le _))
  · rw [if_neg h]; simp

theorem set_other {W : World} {B k : Nat} (v : Value) (h : k ≠ B) : (W.setCell ⟨B, 0, none⟩ v).heap[k]? = W.heap[k]? := Below.heap_setCell _ _ _ k h

theorem accL_lt (l : List (List UInt8)) : accL l < 18446744073709551616 := by
  unfold accL
  have : ∀ (l : List (List UInt8)) (x : Nat), x < 18446744073709551616 → l.foldl (fun x p => x ||| (partV p).1) x < 18446744073709551616 := by
    intro l
    induction l with
    | nil => exact fun x h => h
    | cons p l ih => exact fun x h => ih _ (Nat.or_lt_two_pow (n := 64) h (partV_lt p))
  exact this l 0 (by omega)

theorem accL_snoc (l : List (List UInt8)) (p : List UInt8) : accL (l ++ [p]) = accL l ||| (partV p).1 := by simp [accL]

theorem mv1_boxed {Bs B : Nat} {t : TypeId} {v : Value} {W W' : World} (h : Boxed W B t v) (hm : Mv1 Bs W W') (hne : B ≠ Bs) : Boxed W' B t v := (hm.block B hne).trans h
theorem mv1_below {Bs n : Nat} {w W W' : World} (h : Below n w W) (hm : Mv1 Bs W W') (hn : n ≤ Bs) : Below n w W' :=
  ⟨hm.os.trans h.os, hm.tape.trans h.tape, hm.output.trans h.output, by rw [hm.size]; exact h.size, fun k hk => (hm.block k (by omega)).trans (h.block k hk)⟩
theorem put_boxed {B l : Nat} {t : TypeId} {v : Value} {W : World} (h : Boxed W B t v) (o : Obj) (hne : B ≠ l) : Boxed (W.putObj l o) B t v := (World.putObj_heap_other hne).trans h
theorem put_below {n l : Nat} {w W : World} (h : Below n w W) (o : Obj) (hn : n ≤ l) : Below n w (W.putObj l o) :=
  ⟨h.os, h.tape, h.output, by rw [World.putObj_size]; exact h.size, fun k hk => (World.putObj_heap_other (by omega)).trans (h.block k hk)⟩

theorem split_state (n : Nat) (hn : 1 ≤ n) (Bs : Nat) (s : List UInt8) (hs : s.length ≤ 400) (w : World) (hB : Bs + 1 + 1 < w.heap.size)
    (c0 : Boxed w Bs 9 (.string ⟨s.toArray⟩)) (c1 : Boxed w (Bs + 1) 9 (.string ⟨#[44]⟩)) (c2 : Boxed w (Bs + 1 + 1) 3 (.int .i64 0)) :
    SeqState n Tryd.prog 59 #[.pointer (some ⟨Bs + 1, 0, none⟩), .pointer (some ⟨Bs, 0, none⟩), .pointer (some ⟨Bs + 1 + 1, 0, none⟩)] (fun x : P400 => #[Value.string ⟨x.1.toArray⟩]) (Kq3 Bs) (Mv1 Bs) (fun ys => valsP ys = splitL s) (fun pre => valsP pre <+: splitL s) (splitL s).length w :=
  fun l J Jx W hW hJ _ hY h0 => split1_in n hn l Bs s hs J Jx hJ hY W ((hW.block _ (by omega)).trans c0) ((hW.block _ (by omega)).trans c1) ((hW.block _ (by omega)).trans c2) h0

/-- What Parse tells. -/
def parseV (s : List UInt8) (p : Nat × Bool) : Prop :=
  (okAll (splitL s) ∧ textL (accL (splitL s)) = s ∧ p = (accL (splitL s), true)) ∨ (¬ (okAll (splitL s) ∧ textL (accL (splitL s)) = s) ∧ p = (0, false))

set_option maxRecDepth 100000 in
set_option maxHeartbeats 2000000 in
theorem parse_in (s : List UInt8) (hs : s.length ≤ 400) (h0 : s ≠ [45]) (w : World) (hT : Tab w) (hE : Errs w) :
    CallsIn Fence.wide 6 Tryd.prog 33 #[.string ⟨s.toArray⟩] w fun e w' => (∃ p, parseV s p ∧ e = .returned (.tuple #[.int .u64 (p.1 : Nat), .bool p.2])) ∧ Below w.heap.size w w' := by
  have hd : (s == [45]) = false := by simpa using h0
  have hsz6 := hE.size
  refine callsIn_of_wp_marks Tryd.func33 rfl trivial ?_ rfl
  simp only [Tryd.ntmps33, List.size_toArray, List.length_cons, List.length_nil, Nat.reduceAdd, Nat.reduceSub, Array.replicate_succ, Array.replicate_zero, List.push_toArray, List.append_toArray, List.nil_append, List.cons_append]
  gi_wp2_with (refine ⟨trivial, ?_⟩; gi_at_call 42; refine (callsIn_wide.2 (splitseq_any _ _)).mono ?_; rintro e w' ⟨rfl, rfl⟩)
  have a0 := Boxed.new w 23 (.int .u64 0)
  have B0 : Below w.heap.size w (w.alloc (Obj.cells #[.int .u64 0] 23)) := (Below.refl _ w).alloc (Nat.le_refl _) _
  have z0 : (w.alloc (Obj.cells #[.int .u64 0] 23)).heap.size = w.heap.size + 1 := by simp
  generalize w.alloc (Obj.cells #[.int .u64 0] 23) = w0 at a0 B0 z0 ⊢
  have a1 := Boxed.new w0 4 (.bool false)
  replace a0 := a0.alloc (Obj.cells #[.bool false] 4)
  replace B0 := B0.alloc (by omega) (Obj.cells #[.bool false] 4)
  have z1 : (w0.alloc (Obj.cells #[.bool false] 4)).heap.size = w.heap.size + 1 + 1 := by simp [z0]
  rw [z0] at a1
  generalize w0.alloc (Obj.cells #[.bool false] 4) = w1 at a0 a1 B0 z1 ⊢
  have a2 := Boxed.new w1 23 (.int .u64 0)
  replace a0 := a0.alloc (Obj.cells #[.int .u64 0] 23)
  replace a1 := a1.alloc (Obj.cells #[.int .u64 0] 23)
  replace B0 := B0.alloc (by omega) (Obj.cells #[.int .u64 0] 23)
  have z2 : (w1.alloc (Obj.cells #[.int .u64 0] 23)).heap.size = w.heap.size + 1 + 1 + 1 := by simp [z1]
  rw [z1] at a2
  generalize w1.alloc (Obj.cells #[.int .u64 0] 23) = w2 at a0 a1 a2 B0 z2 ⊢
  have c0 := Boxed.new w2 9 (.string ⟨s.toArray⟩)
  replace a0 := a0.alloc (Obj.cells #[.string ⟨s.toArray⟩] 9)
  replace a1 := a1.alloc (Obj.cells #[.string ⟨s.toArray⟩] 9)
  replace a2 := a2.alloc (Obj.cells #[.string ⟨s.toArray⟩] 9)
  replace B0 := B0.alloc (by omega) (Obj.cells #[.string ⟨s.toArray⟩] 9)
  have z3 : (w2.alloc (Obj.cells #[.string ⟨s.toArray⟩] 9)).heap.size = w.heap.size + 1 + 1 + 1 + 1 := by simp [z2]
  rw [z2] at c0
  generalize w2.alloc (Obj.cells #[.string ⟨s.toArray⟩] 9) = w3 at a0 a1 a2 c0 B0 z3 ⊢
  have c1 := Boxed.new w3 9 (.string ⟨#[44]⟩)
  replace a0 := a0.alloc (Obj.cells #[.string ⟨#[44]⟩] 9)
  replace a1 := a1.alloc (Obj.cells #[.string ⟨#[44]⟩] 9)
  replace a2 := a2.alloc (Obj.cells #[.string ⟨#[44]⟩] 9)
  replace c0 := c0.alloc (Obj.cells #[.string ⟨#[44]⟩] 9)
  replace B0 := B0.alloc (by omega) (Obj.cells #[.string ⟨#[44]⟩] 9)
  have z4 : (w3.alloc (Obj.cells #[.string ⟨#[44]⟩] 9)).heap.size = w.heap.size + 1 + 1 + 1 + 1 + 1 := by simp [z3]
  rw [z3] at c1
  generalize w3.alloc (Obj.cells #[.string ⟨#[44]⟩] 9) = w4 at a0 a1 a2 c0 c1 B0 z4 ⊢
  have c2 := Boxed.new w4 3 (.int .i64 0)
  replace a0 := a0.alloc (Obj.cells #[.int .i64 0] 3)
  replace a1 := a1.alloc (Obj.cells #[.int .i64 0] 3)
  replace a2 := a2.alloc (Obj.cells #[.int .i64 0] 3)
  replace c0 := c0.alloc (Obj.cells #[.int .i64 0] 3)
  replace c1 := c1.alloc (Obj.cells #[.int .i64 0] 3)
  replace B0 := B0.alloc (by omega) (Obj.cells #[.int .i64 0] 3)
  have z5 : (w4.alloc (Obj.cells #[.int .i64 0] 3)).heap.size = w.heap.size + 1 + 1 + 1 + 1 + 1 + 1 := by simp [z4]
  rw [z4] at c2
  generalize w4.alloc (Obj.cells #[.int .i64 0] 3) = W0 at a0 a1 a2 c0 c1 c2 B0 z5 ⊢
  clear z0 z1 z2 z3 z4
  refine range_state (n := 6) (by omega) (gf := 59) (lb := #[.pointer (some ⟨w.heap.size + 1 + 1 + 1 + 1, 0, none⟩), .pointer (some ⟨w.heap.size + 1 + 1 + 1, 0, none⟩), .pointer (some ⟨w.heap.size + 1 + 1 + 1 + 1 + 1, 0, none⟩)]) rfl (enters_of Tryd.func59 (by kernel_rfl) rfl) (fun _ => rfl)
    (split_state (6 - 1) (by omega) (w.heap.size + 1 + 1 + 1) s hs W0 (by omega) c0 c1 c2)
    (fun A B h k h1 h2 => h.block k (by omega)) (fun A B C h1 h2 => ⟨h2.1.trans h1.1, h2.2.1.trans h1.2.1, h2.2.2.trans h1.2.2⟩)
    (fun W l o hl => ⟨World.putObj_heap_other (by omega), World.putObj_heap_other (by omega), World.putObj_heap_other (by omega)⟩)
    (fun pre W => Boxed W w.heap.size 23 (.int .u64 0) ∧ Boxed W (w.heap.size + 1) 4 (.bool false) ∧ Boxed W (w.heap.size + 1 + 1) 23 (.int .u64 (accL (valsP pre) : Nat)) ∧ okAll (valsP pre) ∧ Below w.heap.size w W ∧ W0.heap.size + 2 ≤ W.heap.size)
    (fun pre W => Boxed W w.heap.size 23 (.int .u64 0) ∧ Boxed W (w.heap.size + 1) 4 (.bool false) ∧ ¬ okAll (valsP pre) ∧ Below w.heap.size w W)
    (fun t A B h hm => ⟨mv1_boxed h.1 hm (by omega), mv1_boxed h.2.1 hm (by omega), mv1_boxed h.2.2.1 hm (by omega), h.2.2.2.1, mv1_below h.2.2.2.2.1 hm (by omega), by rw [hm.size]; exact h.2.2.2.2.2⟩)
    (fun t A B h hm => ⟨mv1_boxed h.1 hm (by omega), mv1_boxed h.2.1 hm (by omega), h.2.2.1, mv1_below h.2.2.2 hm (by omega)⟩)
    (fun t W l o h hl => ⟨put_boxed h.1 o (by omega), put_boxed h.2.1 o (by omega), put_boxed h.2.2.1 o (by omega), h.2.2.2.1, put_below h.2.2.2.2.1 o (by omega), by rw [World.putObj_size]; exact h.2.2.2.2.2⟩)
    (fun t W l o h hl => ⟨put_boxed h.1 o (by omega), put_boxed h.2.1 o (by omega), h.2.2.1, put_below h.2.2.2 o (by omega)⟩)
    (fun o1 o2 => ⟨(a0.alloc _).alloc _, (a1.alloc _).alloc _, (a2.alloc _).alloc _, fun p hp => by simp [valsP] at hp, (B0.alloc (by omega) _).alloc (by simp; omega) _, by simp⟩)
    ?a1 ?assign ?body ?done ?stop
  case assign =>
    intro l x W K hK
    gi_wp2
    exact hK
  case body =>
    rintro l pre ⟨x, hx⟩ W ⟨b0, b1, b2, hok, hB, hsz⟩ hlt
    have hP := parsePart_any x hx W (hE.below hB hsz6)
    have hpv := partV_lt x
    have hsn := accL_snoc (valsP pre) x
    have hvp : valsP (pre ++ [⟨x, hx⟩]) = valsP pre ++ [x] := by simp [valsP]
    have hal := accL_lt (valsP pre)
    have hbits := bits_or_u64_nat _ _ hal hpv
    generalize hpx : partV x = px at hP hpv hsn hbits
    obtain ⟨v, ok⟩ := px
    dsimp only at hP hpv hsn hbits ⊢
    have hc2 := b2.cell
    generalize accL (valsP pre) = ac at *
    cases ok with
    | false =>
      gi_wp2_with (refine ⟨trivial, ?_⟩; gi_at_call 43; refine (callsIn_wide.2 hP).mono ?_; rintro e W1 ⟨rfl, hb1⟩; have d0 : Boxed W1 w.heap.size 23 (.int .u64 0) := (hb1.block _ (by omega)).trans b0; have d1 : Boxed W1 (w.heap.size + 1) 4 (.bool false) := (hb1.block _ (by omega)).trans b1; have k0 := d0.cell; have k1 := d1.cell; have f0 := d0.frozen; have f1 := d1.frozen; have f2 := (d1.other (B' := w.heap.size) (by omega) (.int .u64 0)).frozen; have k2 := (d1.other (B' := w.heap.size) (by omega) (.int .u64 0)).cell)
      refine ⟨⟨(set_other _ (by omega)).trans ((set_other _ (by omega)).trans (hb1.block _ (by omega))), (set_other _ (by omega)).trans ((set_other _ (by omega)).trans (hb1.block _ (by omega)))⟩, (d0.set _).other (by omega) _, (d1.other (by omega) _).set _, ?_, ?_⟩
      · intro h
        have := h x (by rw [hvp]; simp)
        rw [hpx] at this
        cases this
      · exact ((hB.trans (hb1.mono hB.size)).setCell (p := ⟨w.heap.size, 0, none⟩) (Nat.le_refl _) _).setCell (p := ⟨w.heap.size + 1, 0, none⟩) (Nat.le_succ _) _
    | true =>
      gi_wp2_with (refine ⟨trivial, ?_⟩; gi_at_call 43; refine (callsIn_wide.2 hP).mono ?_; rintro e W1 ⟨rfl, hb1⟩; have d2 : Boxed W1 (w.heap.size + 1 + 1) 23 (.int .u64 ac) := (hb1.block _ (by omega)).trans b2; have k2 := d2.cell; have f2 := d2.frozen)
      refine ⟨⟨(set_other _ (by omega)).trans (hb1.block _ (by omega)), (set_other _ (by omega)).trans (hb1.block _ (by omega))⟩, ⟨(set_other _ (by omega)).trans (hb1.block _ (by omega)), (set_other _ (by omega)).trans (hb1.block _ (by omega)), (set_other _ (by omega)).trans (hb1.block _ (by omega))⟩, (set_other _ (by omega)).trans ((hb1.block _ (by omega)).trans b0), (set_other _ (by omega)).trans ((hb1.block _ (by omega)).trans b1), ?_, ?_, ?_, ?_⟩
      · rw [hvp, hsn]; exact d2.set _
      · intro p hp
        rw [hvp, List.mem_append] at hp
        rcases hp with h | h
        · exact hok p h
        · obtain rfl : p = x := by simpa using h
          rw [hpx]
      · exact (hB.trans (hb1.mono hB.size)).setCell (p := ⟨w.heap.size + 1 + 1, 0, none⟩) (by simp; omega) _
      · have := hb1.size
        simp only [World.setCell, Array.size_modify]
        omega
  case done =>
    rintro ys W hys ⟨b0, b1, b2, hok, hB, hsz⟩ hK
    have hc2 := b2.cell
    rw [hys] at *
    have htx := fun W hT => text_any (accL (splitL s)) (accL_lt _) W hT
    have hpV : parseV s (if textL (accL (splitL s)) = s then (accL (splitL s), true) else (0, false)) := by
      unfold parseV
      split
      · exact .inl ⟨hok, ‹_›, rfl⟩
      · exact .inr ⟨fun h => by have := h.2; contradiction, rfl⟩
    generalize accL (splitL s) = ac at *
    by_cases htt : textL ac = s
    · have hdt : (textL ac == s) = true := by simpa using htt
      rw [if_pos htt] at hpV
      gi_wp2_with (refine ⟨trivial, ?_⟩; gi_at_call 35; refine (callsIn_wide.2 (htx _ (hT.below hB (Nat.le_refl _)))).mono ?_; rintro e W1 ⟨rfl, hb1⟩; have d0 : Boxed W1 w.heap.size 23 (.int .u64 0) := (hb1.block _ (by omega)).trans b0; have d1 : Boxed W1 (w.heap.size + 1) 4 (.bool false) := (hb1.block _ (by omega)).trans b1; have d2 : Boxed W1 (w.heap.size + 1 + 1) 23 (.int .u64 ac) := (hb1.block _ (by omega)).trans b2; have k0 := d0.cell; have k1 := d1.cell; have k2 := d2.cell; have f0 := d0.frozen; have f1 := d1.frozen; have f2 := (d1.other (B' := w.heap.size) (by omega) (.int .u64 ac)).frozen; have k3 := (d1.other (B' := w.heap.size) (by omega) (.int .u64 ac)).cell)
      have hK' : ((W1.setCell ⟨w.heap.size, 0, none⟩ (.int .u64 ac)).setCell ⟨w.heap.size + 1, 0, none⟩ (.bool true)).heap[W0.heap.size]? = some (.deferred (some [])) := (set_other _ (by omega)).trans ((set_other _ (by omega)).trans ((hb1.block _ (by omega)).trans hK))
      refine ⟨by simp, .inl ⟨_, _, by rw [z5], run_takeDeferred hK', ?_⟩⟩
      have q0 := (put_boxed ((d0.set (.int .u64 ac)).other (B' := w.heap.size + 1) (by omega) (.bool true)) (l := W0.heap.size) (.deferred none) (by omega)).cell
      have q1 := (put_boxed ((d1.other (B' := w.heap.size) (by omega) (.int .u64 ac)).set (.bool true)) (l := W0.heap.size) (.deferred none) (by omega)).cell
      refine ⟨.tuple #[(.int .u64 ac), (.bool true)], ?_, ⟨_, hpV, rfl⟩, put_below (((hB.trans (hb1.mono hB.size)).setCell (p := ⟨w.heap.size, 0, none⟩) (Nat.le_refl _) _).setCell (p := ⟨w.heap.size + 1, 0, none⟩) (Nat.le_succ _) _) _ (by omega)⟩
      simp [results, Tryd.f33, go_sem, q0, q1]
    · have hdt : (textL ac == s) = false := by simpa using htt
      rw [if_neg htt] at hpV
      gi_wp2_with (refine ⟨trivial, ?_⟩; gi_at_call 35; refine (callsIn_wide.2 (htx _ (hT.below hB (Nat.le_refl _)))).mono ?_; rintro e W1 ⟨rfl, hb1⟩; have d0 : Boxed W1 w.heap.size 23 (.int .u64 0) := (hb1.block _ (by omega)).trans b0; have d1 : Boxed W1 (w.heap.size + 1) 4 (.bool false) := (hb1.block _ (by omega)).trans b1; have d2 : Boxed W1 (w.heap.size + 1 + 1) 23 (.int .u64 ac) := (hb1.block _ (by omega)).trans b2; have k0 := d0.cell; have k1 := d1.cell; have k2 := d2.cell; have f0 := d0.frozen; have f1 := d1.frozen; have f2 := (d1.other (B' := w.heap.size) (by omega) (.int .u64 0)).frozen; have k3 := (d1.other (B' := w.heap.size) (by omega) (.int .u64 0)).cell)
      have hK' : ((W1.setCell ⟨w.heap.size, 0, none⟩ (.int .u64 0)).setCell ⟨w.heap.size + 1, 0, none⟩ (.bool false)).heap[W0.heap.size]? = some (.deferred (some [])) := (set_other _ (by omega)).trans ((set_other _ (by omega)).trans ((hb1.block _ (by omega)).trans hK))
      refine ⟨by simp, .inl ⟨_, _, by rw [z5], run_takeDeferred hK', ?_⟩⟩
      have q0 := (put_boxed ((d0.set (.int .u64 0)).other (B' := w.heap.size + 1) (by omega) (.bool false)) (l := W0.heap.size) (.deferred none) (by omega)).cell
      have q1 := (put_boxed ((d1.other (B' := w.heap.size) (by omega) (.int .u64 0)).set (.bool false)) (l := W0.heap.size) (.deferred none) (by omega)).cell
      refine ⟨.tuple #[(.int .u64 0), (.bool false)], ?_, ⟨_, hpV, rfl⟩, put_below (((hB.trans (hb1.mono hB.size)).setCell (p := ⟨w.heap.size, 0, none⟩) (Nat.le_refl _) _).setCell (p := ⟨w.heap.size + 1, 0, none⟩) (Nat.le_succ _) _) _ (by omega)⟩
      simp [results, Tryd.f33, go_sem, q0, q1]
  case stop =>
    rintro pre W hpre ⟨b0, b1, hno, hB⟩ hK
    gi_wp2
    refine ⟨by simp, .inl ⟨_, _, by rw [z5], run_takeDeferred hK, ?_⟩⟩
    have q0 := (put_boxed b0 (l := W0.heap.size) (.deferred none) (by omega)).cell
    have q1 := (put_boxed b1 (l := W0.heap.size) (.deferred none) (by omega)).cell
    refine ⟨.tuple #[.int .u64 0, .bool false], ?_, ⟨(0, false), .inr ⟨fun h => hno (fun p hp => h.1 p (hpre.subset hp)), rfl⟩, rfl⟩, put_below hB _ (by omega)⟩
    simp [results, Tryd.f33, go_sem, q0, q1]

theorem parse_any (s : List UInt8) (hs : s.length ≤ 400) (h0 : s ≠ [45]) (w : World) (hT : Tab w) (hE : Errs w) :
    Calls Tryd.prog 33 #[.string ⟨s.toArray⟩] w fun e w' => (∃ p, parseV s p ∧ e = .returned (.tuple #[.int .u64 (p.1 : Nat), .bool p.2])) ∧ Below w.heap.size w w' :=
  (callsIn_wide (n := 6)).1 (parse_in s hs h0 w hT hE)

end Go.Proofs.YtgoedlgilgnphaaDoor
