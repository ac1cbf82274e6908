/- Rows of ints of a call's own; an append to one; the reference's Ints; the document's example. -/
import Derived.Test.YtpaedcknhlojkaaMoveB
import Derived.Test.YtpaedcknhlojkaaLall
import Derived.Deep.RegionLaw
namespace Go.Proofs.Ytpaedcknhlojkaa
open Go.RowKit

section
variable {w w' : World} {q : List Int}
theorem RowI.but {S : List Nat} {base : Nat} {v : Value} (h : RowI w base v q) (hb : But S w w') (hS : ∀ x ∈ S, x < base) : RowI w' base v q := by
  refine ⟨h.1, ?_⟩
  rcases h.2 with h | ⟨g, cap, cur, h1, h2, h3, h4⟩
  · exact .inl h
  · exact .inr ⟨g, cap, cur, h1, h2, (hb.block g (Array.getElem?_eq_some_iff.1 h3).1 (fun e => by have := hS g e; omega)).trans h3, h4⟩
theorem RowI.below {base : Nat} {v : Value} (h : RowI w base v q) (hb : Below w.heap.size w w') : RowI w' base v q := h.but (S := []) (.of_below hb) (by simp)
theorem RowI.shape {base : Nat} {v : Value} (h : RowI w base v q) : ∃ a c, v = .slice a q.length c ∧ q.length ≤ c ∧ c ≤ maxLen ∧ (a = none → c = 0) ∧ ∀ j x, q[j]? = some x → ∃ g, a = some ⟨g, 0, none⟩ ∧ w.cell? ⟨g, j, none⟩ = some (.int .i64 x) := by
  have h' := h
  rcases h.2 with ⟨rfl, h0⟩ | ⟨g, cap, cur, rfl, hg, hb, hc, hm, _⟩
  · exact ⟨none, 0, by rw [h0], by omega, by unfold maxLen; omega, fun _ => rfl, fun j x hx => by have := (List.getElem?_eq_some_iff.1 hx).1; omega⟩
  · refine ⟨_, cap, rfl, hc, hm, (fun e => (by cases e)), fun j x hx => ⟨g, rfl, ?_⟩⟩
    have hj := (List.getElem?_eq_some_iff.1 hx).1
    have := World.ownsRow.cellAt h' j (by omega)
    rw [this, List.getElem?_map, hx]
    rfl
end

/-- A slice's numbers can be read. -/
def Reads (w : World) (sp : Option Addr) (c : Nat) (xs : List Int) : Prop := (sp = none ∧ c = 0 ∧ xs = []) ∨ ∃ ad, sp = some ad ∧ ∀ j x, xs[j]? = some x → w.cell? (ad.add j) = some (.int .i64 x)

theorem run_app {w : World} {base : Nat} {v : Value} {k : Nat} {xs : List Int} {ty : TypeId} (hown : w.ownsRow base 3 1 v k (xs.map (Value.int .i64))) {sp : Option Addr} {m c : Nat} {news : List Int} (hl : news.length = m) (hr : Reads w sp c news)
    (hk : k + m ≤ 100000) (hb : base ≤ w.heap.size) :
    ∃ v' w', (Builtin.append_ #[33, 33] ty #[v, .slice sp m c]).run Try.prog w = .ok v' w' ∧ w'.ownsRow base 3 1 v' (k + m) ((xs ++ news).map (Value.int .i64)) ∧ w.grownBy w' v.ownBlock := by
  obtain ⟨i0, hi, hz0, hz1, hz2⟩ := info_parts info3
  rcases hr with ⟨rfl, rfl, rfl⟩ | ⟨ad, rfl, hc⟩
  · obtain rfl : m = 0 := by simpa using hl.symm
    refine ⟨v, w, run_append_owned_none w base 33 ty 3 i0 1 Try.underlying33 hi v k _ hown, by simpa using hown, ⟨rfl, rfl, rfl, Nat.le_refl _, fun _ _ _ => rfl⟩⟩
  · obtain ⟨v', w', h1, h2, h3, _⟩ := run_append_own (P := Try.prog) w base 33 ty 3 i0 (.int .i64 0) 1 8 Try.underlying33 hi hz0 hz1 hz2 rfl (by decide) v k _ hown ad m c (news.map (Value.int .i64)) (by simpa using hl)
      (fun j u hu => by rw [List.getElem?_map] at hu; obtain ⟨x, hx, rfl⟩ := Option.map_eq_some_iff.1 hu; exact hc j x hx) (fun u hu => by obtain ⟨x, _, rfl⟩ := List.mem_map.1 hu; rfl) (by unfold maxLen; omega) (by omega) hb
    exact ⟨v', w', h1, by rw [List.map_append]; exact h2, h3⟩

theorem wpList_app {w : World} {ops : Array Oper} {rest : List Oper} {o : Oper} {a : Act} {Q : Exit → Act → World → Prop} (hg : o.guard = none) (s x : Operand) (hop : o.op = Op.call { callee := Callee.builtin Builtin.append, args := #[s, x], argTypes := #[33, 33] })
    (base : Nat) (v : Value) (k : Nat) (xs : List Int) (hs : a.eval s = v) (hown : w.ownsRow base 3 1 v k (xs.map (Value.int .i64))) (sp : Option Addr) (m c : Nat) (news : List Int) (hx : a.eval x = .slice sp m c) (hl : news.length = m) (hr : Reads w sp c news)
    (hk : k + m ≤ 100000) (hb : base ≤ w.heap.size)
    (hK : ∀ v' w', w'.ownsRow base 3 1 v' (k + m) ((xs ++ news).map (Value.int .i64)) → w.grownBy w' v.ownBlock → wpList Try.prog ops Q rest (a.put o.dst v') w') :
    wpList Try.prog ops Q (o :: rest) a w := by
  refine wpList_plain hg fun K hK' => ?_
  obtain ⟨v', w', hrun, r1, r2⟩ := run_app (ty := o.type) hown hl hr hk hb
  unfold Oper.wp
  simp [execOp, hop, resolve, invoke, builtin, hs, hx, hrun, Result.andThen]
  exact hK' _ _ (hK v' w' r1 r2)

theorem step_app {w : World} {ops : Array Oper} {o : Oper} {a : Act} {K : Act → World → Prop} {Q : Exit → Act → World → Prop} {E : Prop} (hg : o.guard = none) (s x : Operand) (hop : o.op = Op.call { callee := Callee.builtin Builtin.append, args := #[s, x], argTypes := #[33, 33] })
    (base : Nat) (v : Value) (k : Nat) (xs : List Int) (hs : a.eval s = v) (hown : w.ownsRow base 3 1 v k (xs.map (Value.int .i64))) (sp : Option Addr) (m c : Nat) (news : List Int) (hx : a.eval x = .slice sp m c) (hl : news.length = m) (hr : Reads w sp c news)
    (hk : k + m ≤ 100000) (hb : base ≤ w.heap.size)
    (hK : ∀ v' w', w'.ownsRow base 3 1 v' (k + m) ((xs ++ news).map (Value.int .i64)) → w.grownBy w' v.ownBlock → K (a.put o.dst v') w') :
    if Region.wanted o (yielded ops a.tmps) = true then Oper.wp Try.prog o a w K Q else E := by
  have hw : Region.wanted o (yielded ops a.tmps) = true := by simp [Region.wanted, hg]
  rw [if_pos hw]
  obtain ⟨v', w', hrun, r1, r2⟩ := run_app (ty := o.type) hown hl hr hk hb
  unfold Oper.wp
  simp [execOp, hop, resolve, invoke, builtin, hs, hx, hrun, Result.andThen]
  exact hK v' w' r1 r2

theorem own_shape {w : World} {base k : Nat} {v : Value} {xs : List Value} (h : w.ownsRow base 3 1 v k xs) : ∃ a c, v = .slice a k c := by
  rcases h.2 with ⟨rfl, h0⟩ | ⟨g, cap, cur, rfl, _⟩
  · exact ⟨none, 0, by rw [h0]⟩
  · exact ⟨_, cap, rfl⟩
theorem But.grown {S : List Nat} {a b c : World} {row : Option Nat} (h : But S a b) (hg : b.grownBy c row) (hr : ∀ k, row = some k → a.heap.size ≤ k) : But S a c :=
  ⟨hg.os.trans h.os, hg.tape.trans h.tape, hg.output.trans h.output, Nat.le_trans h.size hg.size, fun k hk hs =>
    (hg.block k (Nat.lt_of_lt_of_le hk h.size) (fun e => by have := hr k e.symm; omega)).trans (h.block k hk hs)⟩
theorem Reads.but {w w' : World} {sp : Option Addr} {c : Nat} {xs : List Int} (h : Reads w sp c xs) (hb : But [] w w') : Reads w' sp c xs :=
  h.imp id (fun ⟨ad, e, hc⟩ => ⟨ad, e, fun j x hx => hb.cell (hc j x hx)⟩)
theorem reads_one (w : World) (x : Int) : Reads (w.alloc (.cells #[.int .i64 x] 3)) (some ⟨w.heap.size, 0, none⟩) 1 [x] := by
  refine .inr ⟨_, rfl, fun j y hj => ?_⟩
  cases j with
  | zero =>
    simp at hj
    subst hj
    simp [Addr.add, go_sem]
  | succ j => simp at hj
theorem own_none (w : World) : (w.alloc (.cells #[] 3)).ownsRow w.heap.size 3 1 (.slice (some ⟨w.heap.size, 0, none⟩) 0 0) 0 (([] : List Int).map (Value.int .i64)) := by
  have := World.ownsRow_lit (base := w.heap.size) (e := 3) (size := 1) w #[] 0 (Nat.le_refl _) (Nat.zero_le _) rfl
  exact this
theorem own_one (w : World) (x : Int) : (w.alloc (.cells #[.int .i64 x] 3)).ownsRow w.heap.size 3 1 (.slice (some ⟨w.heap.size, 0, none⟩) 1 1) 1 ([x].map (Value.int .i64)) := by
  have := World.ownsRow_lit (base := w.heap.size) (e := 3) (size := 1) w #[.int .i64 x] 1 (Nat.le_refl _) (by unfold maxLen; omega) rfl
  exact this
/-- A slice's numbers, from its block's first cell on. -/
def IntsR (w : World) (a : Option Addr) (xs : List Int) : Prop := ∀ j x, xs[j]? = some x → ∃ g, a = some ⟨g, 0, none⟩ ∧ w.cell? ⟨g, j, none⟩ = some (.int .i64 x)
theorem RowI.open' {w : World} {base : Nat} {v : Value} {q : List Int} (h : RowI w base v q) : ∃ a c, v = .slice a q.length c ∧ IntsR w a q := by
  obtain ⟨a, c, e, _, _, _, hx⟩ := h.shape
  exact ⟨a, c, e, hx⟩

set_option maxHeartbeats 1000000 in
theorem ints_any (a b : Option Addr) (c d : Nat) (xs : List Int) (w : World) (hn : xs.length ≤ 4096) (ha : IntsR w a xs) (hb : IntsR w b xs) :
    Calls Try.prog 17 #[.slice a xs.length c, .slice b xs.length d] w fun e w' => e = .returned (.bool true) ∧ Below w.heap.size w w' := by
  go_enter Try.func17, Try.ntmps17
  go_wp2_with fail
  go_loopw [13, 5] (fun q _ wr => ∃ j : Nat, j ≤ xs.length ∧ q = .int .i64 j ∧ Drawn w wr) (fun q _ _ => 4096 - (intOf q).toNat)
  case atStart => exact ⟨0, by omega, rfl, Drawn.refl _⟩
  case round =>
    obtain ⟨j, hj, rfl, hB⟩ := hrel
    by_cases hlt : j < xs.length
    · obtain ⟨g1, rfl, hc1⟩ := ha j (xs[j]) (by simp)
      obtain ⟨g2, rfl, hc2⟩ := hb j (xs[j]) (by simp)
      generalize xs[j] = x at hc1 hc2
      replace hc1 := (Drawn.but (S := []) hB).cell hc1
      replace hc2 := (Drawn.but (S := []) hB).cell hc2
      have h1 : (j : Int) < (xs.length : Int) := by omega
      have h0 : (0 : Int) ≤ (j : Int) := by omega
      go_wp2_with fail
      go_quiet (fail)
      go_wp2_with fail
      go_roundw
      case rel => exact ⟨j + 1, by omega, by simp, hB.trans ⟨nq, rfl⟩⟩
      case measure =>
        simp [intOf]
        omega
    · obtain rfl : j = xs.length := by omega
      go_wp2_with fail
      go_ret
      exact ⟨rfl, (Drawn.but (S := []) hB).below (Nat.le_refl _) (by simp)⟩


theorem RowI.reads {w : World} {lo : Nat} {a : Option Addr} {c l : Nat} {q : List Int} (h : RowI w lo (.slice a l c) q) : Reads w a c q := by
  obtain ⟨a', c', e, _, _, hn, hx⟩ := h.shape
  simp only [Value.slice.injEq] at e
  obtain ⟨rfl, rfl, rfl⟩ := e
  cases a with
  | none =>
    refine .inl ⟨rfl, hn rfl, ?_⟩
    cases q with
    | nil => rfl
    | cons y t => obtain ⟨g, e, _⟩ := hx 0 y rfl; cases e
  | some ad =>
    refine .inr ⟨ad, rfl, fun j x hj => ?_⟩
    obtain ⟨g, e, hc⟩ := hx j x hj
    cases e
    rw [WideShapes.add_plain, Nat.zero_add]
    exact hc

theorem IntsR.below {w w' : World} {a : Option Addr} {xs : List Int} (h : IntsR w a xs) (hb : Below w.heap.size w w') : IntsR w' a xs := fun j x hx => by
  obtain ⟨g, e, hc⟩ := h j x hx
  exact ⟨g, e, cell_on hb hc⟩
theorem ints_two (w : World) (x y : Int) : IntsR (w.alloc (.cells #[.int .i64 x, .int .i64 y] 3)) (some ⟨w.heap.size, 0, none⟩) [x, y] := by
  intro j z hz
  refine ⟨_, rfl, ?_⟩
  match j, hz with
  | 0, hz => simp at hz; subst hz; simp [go_sem]
  | 1, hz => simp at hz; subst hz; simp [go_sem]
  | j + 2, hz => simp at hz

set_option maxRecDepth 100000 in
set_option maxHeartbeats 2000000 in
theorem lives_any (w : World) :
    Calls Try.prog 8 #[] w fun e w' => e = .returned (.bool true) ∧ Below w.heap.size w w' := by
  go_enter Try.func8, Try.ntmps8
  go_wp2_with (first
    | (go_at_call 9; refine (new_some 3 2 (by decide) (by decide) (by decide) (by decide) _).mono ?_; rintro e w1 ⟨P, rfl, h, hk, hB⟩; change LQ w1 P 3 2 [[], []] at h)
    | (go_at_call 18; (with_reducible refine (push_any h 0 2).mono ?_); rintro e w2 ⟨rfl, h2, b2⟩; change LQ w2 P 3 2 [[2], []] at h2; clear h)
    | (go_at_call 18; (with_reducible refine (push_any h2 0 1).mono ?_); rintro e w3 ⟨rfl, h3, b3⟩; change LQ w3 P 3 2 [[2, 1], []] at h3; clear h2)
    | (go_at_call 20; refine (move_any h3 0 1).mono ?_; rintro e w4 ⟨rfl, h4, b4⟩; change LQ w4 P 3 2 [[], [2, 1]] at h4; clear h3)
    | (go_at_call 16; refine (lall_any _ _ _ _ (h4.src 1)).mono ?_; rintro e w5 ⟨v, rfl, hr, b5⟩; change RowI w5 w4.heap.size v [2, 1] at hr; obtain ⟨va, vc, rfl, hva⟩ := hr.open')
    | (go_at_call 17; refine (ints_any va (some ⟨w5.heap.size, 0, none⟩) vc 2 [2, 1] _ (by decide) (hva.below ((Below.refl _ _).alloc (Nat.le_refl _) _)) (ints_two w5 2 1)).mono ?_; rintro e w6 ⟨rfl, b6⟩))
  go_ret
  refine ⟨rfl, ?_⟩
  have hk' : ∀ x ∈ P.S, w.heap.size ≤ x := fun x hx => hk x (P_S hx)
  have s4 := hB.trans (((b2.trans b3).trans b4).below hB.size hk')
  have s5 := s4.trans (b5.mono s4.size)
  have s6 := s5.alloc s5.size (.cells #[.int .i64 2, .int .i64 1] 3)
  exact s6.trans (b6.mono s6.size)

end Go.Proofs.Ytpaedcknhlojkaa
