/- Rows of ints and of bytes of a call's own; appends to them. -/
import Derived.Test.YtcffmdimfmpheaaDoorCMem
import Derived.Deep.RegionLaw
namespace Go.Proofs.YtcffmdimfmpheaaDoor
open Go.RowKit

theorem info3 : (Tryd.prog.info? 3).map (fun i => (i.zero, i.size, i.bytes)) = some (some (.int .i64 0), 1, 8) := by kernel_rfl
theorem info5 : (Tryd.prog.info? 5).map (fun i => (i.zero, i.size, i.bytes)) = some (some (.int .u8 0), 1, 1) := by kernel_rfl

/-- A slice of ints that the call made. -/
def RowI (w : World) (base : Nat) (v : Value) (xs : List Int) : Prop := w.ownsRow base 3 1 v xs.length (xs.map (Value.int .i64))
theorem row_lower {W : World} {b b' : Nat} {v : Value} {k : Nat} {xs : List Value} (h : W.ownsRow b' 3 1 v k xs) (hb : b ≤ b') : W.ownsRow b 3 1 v k xs :=
  ⟨h.1, h.2.imp id (fun ⟨g, cap, cur, h1, h2, h3⟩ => ⟨g, cap, cur, h1, by omega, h3⟩)⟩

section
variable {w w' : World} {q : List Int}
theorem RowI.but {S : List Nat} {base : Nat} {v : Value} (h : RowI w base v q) (hb : But S w w') (hS : ∀ x ∈ S, x < base) : RowI w' base v q := by
  refine ⟨h.1, ?_⟩
  rcases h.2 with h | ⟨g, cap, cur, h1, h2, h3, h4⟩
  · exact .inl h
  · exact .inr ⟨g, cap, cur, h1, h2, (hb.block g (Array.getElem?_eq_some_iff.1 h3).1 (fun e => by have := hS g e; omega)).trans h3, h4⟩
theorem RowI.below {base : Nat} {v : Value} (h : RowI w base v q) (hb : Below w.heap.size w w') : RowI w' base v q := h.but (S := []) (.of_below hb) (by simp)
theorem RowI.shape {base : Nat} {v : Value} (h : RowI w base v q) : ∃ a c, v = .slice a q.length c ∧ q.length ≤ c ∧ c ≤ maxLen ∧ (a = none → c = 0) ∧ ∀ j x, q[j]? = some x → ∃ g, a = some ⟨g, 0, none⟩ ∧ w.cell? ⟨g, j, none⟩ = some (.int .i64 x) := by
  have h' := h
  rcases h.2 with ⟨rfl, h0⟩ | ⟨g, cap, cur, rfl, hg, hb, hc, hm, _⟩
  · exact ⟨none, 0, by rw [h0], by omega, by unfold maxLen; omega, fun _ => rfl, fun j x hx => by have := (List.getElem?_eq_some_iff.1 hx).1; omega⟩
  · refine ⟨_, cap, rfl, hc, hm, (fun e => (by cases e)), fun j x hx => ⟨g, rfl, ?_⟩⟩
    have hj := (List.getElem?_eq_some_iff.1 hx).1
    have := World.ownsRow.cellAt h' j (by omega)
    rw [this, List.getElem?_map, hx]
    rfl
end

/-- A slice's numbers can be read. -/
def Reads (w : World) (sp : Option Addr) (c : Nat) (xs : List Int) : Prop := (sp = none ∧ c = 0 ∧ xs = []) ∨ ∃ ad, sp = some ad ∧ ∀ j x, xs[j]? = some x → w.cell? (ad.add j) = some (.int .i64 x)

theorem own_shape {w : World} {base k : Nat} {v : Value} {xs : List Value} (h : w.ownsRow base 3 1 v k xs) : ∃ a c, v = .slice a k c := by
  rcases h.2 with ⟨rfl, h0⟩ | ⟨g, cap, cur, rfl, _⟩
  · exact ⟨none, 0, by rw [h0]⟩
  · exact ⟨_, cap, rfl⟩
theorem But.grown {S : List Nat} {a b c : World} {row : Option Nat} (h : But S a b) (hg : b.grownBy c row) (hr : ∀ k, row = some k → a.heap.size ≤ k) : But S a c :=
  ⟨hg.os.trans h.os, hg.tape.trans h.tape, hg.output.trans h.output, Nat.le_trans h.size hg.size, fun k hk hs =>
    (hg.block k (Nat.lt_of_lt_of_le hk h.size) (fun e => by have := hr k e.symm; omega)).trans (h.block k hk hs)⟩
theorem Reads.but {w w' : World} {sp : Option Addr} {c : Nat} {xs : List Int} (h : Reads w sp c xs) (hb : But [] w w') : Reads w' sp c xs :=
  h.imp id (fun ⟨ad, e, hc⟩ => ⟨ad, e, fun j x hx => hb.cell (hc j x hx)⟩)
theorem reads_one (w : World) (x : Int) : Reads (w.alloc (.cells #[.int .i64 x] 3)) (some ⟨w.heap.size, 0, none⟩) 1 [x] := by
  refine .inr ⟨_, rfl, fun j y hj => ?_⟩
  cases j with
  | zero =>
    simp at hj
    subst hj
    simp [Addr.add, go_sem]
  | succ j => simp at hj
theorem own_none (w : World) : (w.alloc (.cells #[] 3)).ownsRow w.heap.size 3 1 (.slice (some ⟨w.heap.size, 0, none⟩) 0 0) 0 (([] : List Int).map (Value.int .i64)) := by
  have := World.ownsRow_lit (base := w.heap.size) (e := 3) (size := 1) w #[] 0 (Nat.le_refl _) (Nat.zero_le _) rfl
  exact this
theorem own_one (w : World) (x : Int) : (w.alloc (.cells #[.int .i64 x] 3)).ownsRow w.heap.size 3 1 (.slice (some ⟨w.heap.size, 0, none⟩) 1 1) 1 ([x].map (Value.int .i64)) := by
  have := World.ownsRow_lit (base := w.heap.size) (e := 3) (size := 1) w #[.int .i64 x] 1 (Nat.le_refl _) (by unfold maxLen; omega) rfl
  exact this
/-- A slice's numbers, from its block's first cell on. -/
def IntsR (w : World) (a : Option Addr) (xs : List Int) : Prop := ∀ j x, xs[j]? = some x → ∃ g, a = some ⟨g, 0, none⟩ ∧ w.cell? ⟨g, j, none⟩ = some (.int .i64 x)
theorem RowI.open' {w : World} {base : Nat} {v : Value} {q : List Int} (h : RowI w base v q) : ∃ a c, v = .slice a q.length c ∧ IntsR w a q := by
  obtain ⟨a, c, e, _, _, _, hx⟩ := h.shape
  exact ⟨a, c, e, hx⟩

theorem RowI.reads {w : World} {lo : Nat} {a : Option Addr} {c l : Nat} {q : List Int} (h : RowI w lo (.slice a l c) q) : Reads w a c q := by
  obtain ⟨a', c', e, _, _, hn, hx⟩ := h.shape
  simp only [Value.slice.injEq] at e
  obtain ⟨rfl, rfl, rfl⟩ := e
  cases a with
  | none =>
    refine .inl ⟨rfl, hn rfl, ?_⟩
    cases q with
    | nil => rfl
    | cons y t => obtain ⟨g, e, _⟩ := hx 0 y rfl; cases e
  | some ad =>
    refine .inr ⟨ad, rfl, fun j x hj => ?_⟩
    obtain ⟨g, e, hc⟩ := hx j x hj
    cases e
    rw [WideShapes.add_plain, Nat.zero_add]
    exact hc

/-- Bytes that the call made, or ones with no room behind them. -/
def Bk (w : World) (lo : Nat) (v : Value) (bs : List UInt8) : Prop := Own w lo v bs ∨ ∃ ad : Addr, v = .slice (some ad) bs.length bs.length ∧ ∀ j b, bs[j]? = some b → w.cell? (ad.add j) = some (.int .u8 (b.toNat : Int))

theorem grown_below {w w' : World} {row : Option Nat} {lo : Nat} (h : w.grownBy w' row) (hl : lo ≤ w.heap.size) (hr : ∀ k, row = some k → lo ≤ k) : Below lo w w' :=
  ⟨h.os, h.tape, h.output, h.size, fun k hk => h.block k (by omega) (fun e => by have := hr k e.symm; omega)⟩

theorem own_lt {w : World} {lo : Nat} {v : Value} {bs : List UInt8} (h : Own w lo v bs) : ∀ k, v.ownBlock = some k → lo ≤ k := fun k e => (World.ownsRow.lt h k e).1

theorem run_bown {w : World} {lo : Nat} {v : Value} {bs : List UInt8} {ty : TypeId} (h : Own w lo v bs) {B : Nat} {sp : Option Addr} {m c : Nat} {news : List UInt8} (hl : news.length = m) (hr : Byts w B sp c news) (hk : bs.length + m ≤ 1000000) (hb : lo ≤ w.heap.size) :
    ∃ v' w', (Builtin.append_ #[47, 47] ty #[v, .slice sp m c]).run Tryd.prog w = .ok v' w' ∧ Own w' lo v' (bs ++ news) ∧ Below lo w w' := by
  obtain ⟨i0, hi, hz0, hz1, hz2⟩ := info_parts info5
  have hrd : (sp = none ∧ c = 0 ∧ news = []) ∨ ∃ ad, sp = some ad ∧ ∀ j b, news[j]? = some b → w.cell? (ad.add j) = some (.int .u8 (b.toNat : Int)) := by
    rcases hr with ⟨rfl, rfl⟩ | ⟨G, o, rfl, hG, hlc, hm, hc⟩
    · cases sp with
      | none => exact .inl ⟨rfl, rfl, rfl⟩
      | some ad => exact .inr ⟨ad, rfl, fun j b hj => by simp at hj⟩
    · exact .inr ⟨⟨G, o, none⟩, rfl, fun j b hj => by rw [WideShapes.add_plain]; exact hc j b hj⟩
  rcases hrd with ⟨rfl, rfl, rfl⟩ | ⟨ad, rfl, hc⟩
  · obtain rfl : m = 0 := by simpa using hl.symm
    refine ⟨v, w, run_append_owned_none w lo 47 ty 5 i0 1 Tryd.underlying47 hi v bs.length _ h, by simpa using h, Below.refl _ _⟩
  · obtain ⟨v', w', h1, h2, h3, _⟩ := run_append_own (P := Tryd.prog) w lo 47 ty 5 i0 (.int .u8 0) 1 1 Tryd.underlying47 hi hz0 hz1 hz2 rfl (by decide) v bs.length _ h ad m c (bc news) (by rw [bc_len]; omega)
      (fun j u hu => by obtain ⟨b, hb, rfl⟩ := bc_out hu; exact hc j b hb) (fun u hu => by unfold bc at hu; obtain ⟨x, _, rfl⟩ := List.mem_map.1 hu; rfl) (by unfold maxLen; omega) (by omega) hb
    refine ⟨v', w', h1, ?_, grown_below h3 hb (own_lt h)⟩
    unfold Own
    rw [List.length_append, hl, bc_app]
    exact h2

theorem run_bclip {w : World} {lo : Nat} {ad : Addr} {bs : List UInt8} {ty : TypeId} (hcl : ∀ j b, bs[j]? = some b → w.cell? (ad.add j) = some (.int .u8 (b.toNat : Int))) {B : Nat} {sp : Option Addr} {m c : Nat} {news : List UInt8} (hl : news.length = m) (hr : Byts w B sp c news) (hm1 : 0 < m) (hk : bs.length + m ≤ 1000000) (hb : lo ≤ w.heap.size) :
    ∃ v' w', (Builtin.append_ #[47, 47] ty #[.slice (some ad) bs.length bs.length, .slice sp m c]).run Tryd.prog w = .ok v' w' ∧ Own w' lo v' (bs ++ news) ∧ Below lo w w' := by
  obtain ⟨i0, hi, hz0, hz1, hz2⟩ := info_parts info5
  rcases hr with ⟨rfl, rfl⟩ | ⟨G', o', rfl, hG, hlc, hm, hc⟩
  · simp at hl
    omega
  · have hr := run_append_grow (P := Tryd.prog) w 47 ty 5 i0 (.int .u8 0) Tryd.underlying47 hi hz0 ad bs.length bs.length (bc bs) (by rw [bc_len, hz1]; omega) (fun j u hu => by obtain ⟨b, hb, rfl⟩ := bc_out hu; exact hcl j b hb)
      ⟨G', o', none⟩ m c (bc news) (by rw [bc_len, hz1]; omega) (fun j u hu => by obtain ⟨b, hb, rfl⟩ := bc_out hu; rw [WideShapes.add_plain]; exact hc j b hb) (by omega) (by omega) (growslice_fits (by omega) (by rw [hz2]; omega))
    refine ⟨_, _, hr, ?_, ((But.refl [] w).drew.alloc _).below hb (by simp)⟩
    have hge := grownCap_ge w (bs.length + m) bs.length 5
    have hlen : (bc bs ++ bc news).length = (bs.length + m) * 1 := by rw [List.length_append, bc_len, bc_len]; omega
    have hcm : grownCap w (bs.length + m) bs.length 5 ≤ maxLen := grownCap_le_maxLen w (bs.length + m) bs.length 5 (by unfold maxLen; omega)
    unfold Own
    rw [List.length_append, hl, bc_app]
    refine ⟨hlen, .inr ⟨w.heap.size, _, _, rfl, hb, heap_alloc_new w.drew _, hge, hcm, ?_, ?_⟩⟩
    · have hz : (Value.int IntKind.u8 0).cells.size = 1 := rfl
      simp only [Array.size_append, List.size_toArray, size_zeroCells, hz, bc_len]
      omega
    · simp only [Array.toList_append, List.append_assoc]
      rw [← List.append_assoc, ← hlen]
      exact List.take_left

theorem run_bapp {w : World} {lo : Nat} {v : Value} {bs : List UInt8} {ty : TypeId} (h : Bk w lo v bs) {B : Nat} {sp : Option Addr} {m c : Nat} {news : List UInt8} (hl : news.length = m) (hr : Byts w B sp c news) (hm1 : 0 < m) (hk : bs.length + m ≤ 1000000) (hb : lo ≤ w.heap.size) :
    ∃ v' w', (Builtin.append_ #[47, 47] ty #[v, .slice sp m c]).run Tryd.prog w = .ok v' w' ∧ Own w' lo v' (bs ++ news) ∧ Below lo w w' := by
  rcases h with h | ⟨ad, rfl, hcl⟩
  · exact run_bown h hl hr hk hb
  · exact run_bclip hcl hl hr hm1 hk hb

section
variable {w : World} {ops : Array Oper} {rest : List Oper} {o : Oper} {a : Act} {Q : Exit → Act → World → Prop}
/-- An append to such bytes. -/
theorem wpList_bapp (hg : o.guard = none) (s x : Operand) (hop : o.op = Op.call { callee := Callee.builtin Builtin.append, args := #[s, x], argTypes := #[47, 47] })
    (lo : Nat) (v : Value) (bs : List UInt8) (hs : a.eval s = v) (h : Bk w lo v bs) (B : Nat) (sp : Option Addr) (m c : Nat) (news : List UInt8) (hx : a.eval x = .slice sp m c) (hl : news.length = m) (hr : Byts w B sp c news) (hm1 : 0 < m)
    (hk : bs.length + m ≤ 1000000) (hb : lo ≤ w.heap.size)
    (hK : ∀ v' w', Own w' lo v' (bs ++ news) → Below lo w w' → wpList Tryd.prog ops Q rest (a.put o.dst v') w') :
    wpList Tryd.prog ops Q (o :: rest) a w := by
  refine wpList_plain hg fun K hK' => ?_
  obtain ⟨v', w', hrun, r1, r2⟩ := run_bapp (ty := o.type) h hl hr hm1 hk hb
  unfold Oper.wp
  simp [execOp, hop, resolve, invoke, builtin, hs, hx, hrun, Result.andThen]
  exact hK' _ _ (hK v' w' r1 r2)
/-- An append to bytes of the call's own. -/
theorem wpList_bown (hg : o.guard = none) (s x : Operand) (hop : o.op = Op.call { callee := Callee.builtin Builtin.append, args := #[s, x], argTypes := #[47, 47] })
    (lo : Nat) (v : Value) (bs : List UInt8) (hs : a.eval s = v) (h : Own w lo v bs) (B : Nat) (sp : Option Addr) (m c : Nat) (news : List UInt8) (hx : a.eval x = .slice sp m c) (hl : news.length = m) (hr : Byts w B sp c news)
    (hk : bs.length + m ≤ 1000000) (hb : lo ≤ w.heap.size)
    (hK : ∀ v' w', Own w' lo v' (bs ++ news) → Below lo w w' → wpList Tryd.prog ops Q rest (a.put o.dst v') w') :
    wpList Tryd.prog ops Q (o :: rest) a w := by
  refine wpList_plain hg fun K hK' => ?_
  obtain ⟨v', w', hrun, r1, r2⟩ := run_bown (ty := o.type) h hl hr hk hb
  unfold Oper.wp
  simp [execOp, hop, resolve, invoke, builtin, hs, hx, hrun, Result.andThen]
  exact hK' _ _ (hK v' w' r1 r2)
end

/-- One byte in a new block. -/
theorem byts_one (w : World) (b : UInt8) {x : Int} (hx : x = (b.toNat : Int)) : Byts (w.alloc (.cells #[.int .u8 x] 5)) (w.heap.size + 1) (some ⟨w.heap.size, 0, none⟩) 1 [b] := by
  subst hx
  refine .inr ⟨w.heap.size, 0, rfl, by omega, by simp, by unfold maxLen; omega, fun j y hj => ?_⟩
  cases j with
  | zero =>
    simp at hj
    subst hj
    simp [go_sem]
  | succ j => simp at hj
theorem own_nob (w : World) : Own (w.alloc (.cells #[] 5)) w.heap.size (.slice (some ⟨w.heap.size, 0, none⟩) 0 0) [] :=
  World.ownsRow_lit (base := w.heap.size) (e := 5) (size := 1) w #[] 0 (Nat.le_refl _) (Nat.zero_le _) rfl
theorem own_nil (w : World) (lo : Nat) : Own w lo (.slice none 0 0) [] := World.ownsRow_nil w lo 5 1
theorem Own.below {w w' : World} {lo : Nat} {v : Value} {bs : List UInt8} (h : Own w lo v bs) (hb : Below w.heap.size w w') : Own w' lo v bs := h.but (S := []) (.of_below hb) (by simp)
theorem Own.alloc {w : World} {lo : Nat} {v : Value} {bs : List UInt8} (h : Own w lo v bs) (o : Obj) : Own (w.alloc o) lo v bs := h.but (S := []) ((But.refl [] w).alloc o) (by simp)
theorem Bk.but {w w' : World} {lo : Nat} {v : Value} {bs : List UInt8} (h : Bk w lo v bs) (hb : But [] w w') : Bk w' lo v bs := by
  rcases h with h | ⟨ad, e, hc⟩
  · exact .inl (h.but hb (by simp))
  · exact .inr ⟨ad, e, fun j b hj => hb.cell (hc j b hj)⟩

end Go.Proofs.YtcffmdimfmpheaaDoor
