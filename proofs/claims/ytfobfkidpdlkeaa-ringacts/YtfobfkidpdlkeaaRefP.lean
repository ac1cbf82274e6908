/- An append of any slice of ints to a row of the call's own; contracts of the reference's Push and Front. -/
import Derived.Test.YtfobfkidpdlkeaaRef
import Derived.Deep.RegionLaw
namespace Go.Proofs.Ytfobfkidpdlkeaa
open Go.RowKit

/-- A slice's numbers can be read. -/
def Reads (w : World) (sp : Option Addr) (c : Nat) (xs : List Int) : Prop := (sp = none ∧ c = 0 ∧ xs = []) ∨ ∃ ad, sp = some ad ∧ ∀ j x, xs[j]? = some x → w.cell? (ad.add j) = some (.int .i64 x)

theorem run_app {w : World} {base : Nat} {v : Value} {k : Nat} {xs : List Int} {ty : TypeId} (hown : w.ownsRow base 3 1 v k (xs.map (Value.int .i64))) {sp : Option Addr} {m c : Nat} {news : List Int} (hl : news.length = m) (hr : Reads w sp c news)
    (hk : k + m ≤ 100000) (hb : base ≤ w.heap.size) :
    ∃ v' w', (Builtin.append_ #[32, 32] ty #[v, .slice sp m c]).run Try.prog w = .ok v' w' ∧ w'.ownsRow base 3 1 v' (k + m) ((xs ++ news).map (Value.int .i64)) ∧ w.grownBy w' v.ownBlock := by
  obtain ⟨i0, hi, hz0, hz1, hz2⟩ := info_parts info3
  rcases hr with ⟨rfl, rfl, rfl⟩ | ⟨ad, rfl, hc⟩
  · obtain rfl : m = 0 := by simpa using hl.symm
    refine ⟨v, w, run_append_owned_none w base 32 ty 3 i0 1 Try.underlying32 hi v k _ hown, by simpa using hown, ⟨rfl, rfl, rfl, Nat.le_refl _, fun _ _ _ => rfl⟩⟩
  · obtain ⟨v', w', h1, h2, h3, _⟩ := run_append_own (P := Try.prog) w base 32 ty 3 i0 (.int .i64 0) 1 8 Try.underlying32 hi hz0 hz1 hz2 rfl (by decide) v k _ hown ad m c (news.map (Value.int .i64)) (by simpa using hl)
      (fun j u hu => by rw [List.getElem?_map] at hu; obtain ⟨x, hx, rfl⟩ := Option.map_eq_some_iff.1 hu; exact hc j x hx) (fun u hu => by obtain ⟨x, _, rfl⟩ := List.mem_map.1 hu; rfl) (by unfold maxLen; omega) (by omega) hb
    exact ⟨v', w', h1, by rw [List.map_append]; exact h2, h3⟩

theorem wpList_app {w : World} {ops : Array Oper} {rest : List Oper} {o : Oper} {a : Act} {Q : Exit → Act → World → Prop} (hg : o.guard = none) (s x : Operand) (hop : o.op = Op.call { callee := Callee.builtin Builtin.append, args := #[s, x], argTypes := #[32, 32] })
    (base : Nat) (v : Value) (k : Nat) (xs : List Int) (hs : a.eval s = v) (hown : w.ownsRow base 3 1 v k (xs.map (Value.int .i64))) (sp : Option Addr) (m c : Nat) (news : List Int) (hx : a.eval x = .slice sp m c) (hl : news.length = m) (hr : Reads w sp c news)
    (hk : k + m ≤ 100000) (hb : base ≤ w.heap.size)
    (hK : ∀ v' w', w'.ownsRow base 3 1 v' (k + m) ((xs ++ news).map (Value.int .i64)) → w.grownBy w' v.ownBlock → wpList Try.prog ops Q rest (a.put o.dst v') w') :
    wpList Try.prog ops Q (o :: rest) a w := by
  refine wpList_plain hg fun K hK' => ?_
  obtain ⟨v', w', hrun, r1, r2⟩ := run_app (ty := o.type) hown hl hr hk hb
  unfold Oper.wp
  simp [execOp, hop, resolve, invoke, builtin, hs, hx, hrun, Result.andThen]
  exact hK' _ _ (hK v' w' r1 r2)

theorem step_app {w : World} {ops : Array Oper} {o : Oper} {a : Act} {K : Act → World → Prop} {Q : Exit → Act → World → Prop} {E : Prop} (hg : o.guard = none) (s x : Operand) (hop : o.op = Op.call { callee := Callee.builtin Builtin.append, args := #[s, x], argTypes := #[32, 32] })
    (base : Nat) (v : Value) (k : Nat) (xs : List Int) (hs : a.eval s = v) (hown : w.ownsRow base 3 1 v k (xs.map (Value.int .i64))) (sp : Option Addr) (m c : Nat) (news : List Int) (hx : a.eval x = .slice sp m c) (hl : news.length = m) (hr : Reads w sp c news)
    (hk : k + m ≤ 100000) (hb : base ≤ w.heap.size)
    (hK : ∀ v' w', w'.ownsRow base 3 1 v' (k + m) ((xs ++ news).map (Value.int .i64)) → w.grownBy w' v.ownBlock → K (a.put o.dst v') w') :
    if Region.wanted o (yielded ops a.tmps) = true then Oper.wp Try.prog o a w K Q else E := by
  have hw : Region.wanted o (yielded ops a.tmps) = true := by simp [Region.wanted, hg]
  rw [if_pos hw]
  obtain ⟨v', w', hrun, r1, r2⟩ := run_app (ty := o.type) hown hl hr hk hb
  unfold Oper.wp
  simp [execOp, hop, resolve, invoke, builtin, hs, hx, hrun, Result.andThen]
  exact hK v' w' r1 r2

theorem RowR.reads {w : World} {lo : Nat} {a : Option Addr} {c l : Nat} {q : List Int} (h : RowR w lo (.slice a l c) q) : Reads w a c q := by
  obtain ⟨a', c', e, _, _, hn, hx⟩ := h.shape
  simp only [Value.slice.injEq] at e
  obtain ⟨rfl, rfl, rfl⟩ := e
  cases a with
  | none =>
    refine .inl ⟨rfl, hn rfl, ?_⟩
    cases q with
    | nil => rfl
    | cons y t => obtain ⟨g, e, _⟩ := hx 0 y rfl; cases e
  | some ad =>
    refine .inr ⟨ad, rfl, fun j x hj => ?_⟩
    obtain ⟨g, e, hc⟩ := hx j x hj
    cases e
    rw [WideShapes.add_plain, Nat.zero_add]
    exact hc

theorem own_shape {w : World} {base k : Nat} {v : Value} {xs : List Value} (h : w.ownsRow base 3 1 v k xs) : ∃ a c, v = .slice a k c := by
  rcases h.2 with ⟨rfl, h0⟩ | ⟨g, cap, cur, rfl, _⟩
  · exact ⟨none, 0, by rw [h0]⟩
  · exact ⟨_, cap, rfl⟩
theorem But.grown {S : List Nat} {a b c : World} {row : Option Nat} (h : But S a b) (hg : b.grownBy c row) (hr : ∀ k, row = some k → a.heap.size ≤ k) : But S a c :=
  ⟨hg.os.trans h.os, hg.tape.trans h.tape, hg.output.trans h.output, Nat.le_trans h.size hg.size, fun k hk hs =>
    (hg.block k (Nat.lt_of_lt_of_le hk h.size) (fun e => by have := hr k e.symm; omega)).trans (h.block k hk hs)⟩
theorem But.cell {w w' : World} (h : But [] w w') {p : Addr} {v : Value} (hc : w.cell? p = some v) : w'.cell? p = some v :=
  (World.cell?_of_block (h.block p.block (World.block_lt_of_cell? w p hc) (by simp))).trans hc
theorem Reads.but {w w' : World} {sp : Option Addr} {c : Nat} {xs : List Int} (h : Reads w sp c xs) (hb : But [] w w') : Reads w' sp c xs :=
  h.imp id (fun ⟨ad, e, hc⟩ => ⟨ad, e, fun j x hx => hb.cell (hc j x hx)⟩)
theorem reads_one (w : World) (x : Int) : Reads (w.alloc (.cells #[.int .i64 x] 3)) (some ⟨w.heap.size, 0, none⟩) 1 [x] := by
  refine .inr ⟨_, rfl, fun j y hj => ?_⟩
  cases j with
  | zero =>
    simp at hj
    subst hj
    simp [Addr.add, go_sem]
  | succ j => simp at hj
theorem own_none (w : World) : (w.alloc (.cells #[] 3)).ownsRow w.heap.size 3 1 (.slice (some ⟨w.heap.size, 0, none⟩) 0 0) 0 (([] : List Int).map (Value.int .i64)) := by
  have := World.ownsRow_lit (base := w.heap.size) (e := 3) (size := 1) w #[] 0 (Nat.le_refl _) (Nat.zero_le _) rfl
  exact this
theorem own_one (w : World) (x : Int) : (w.alloc (.cells #[.int .i64 x] 3)).ownsRow w.heap.size 3 1 (.slice (some ⟨w.heap.size, 0, none⟩) 1 1) 1 ([x].map (Value.int .i64)) := by
  have := World.ownsRow_lit (base := w.heap.size) (e := 3) (size := 1) w #[.int .i64 x] 1 (Nat.le_refl _) (by unfold maxLen; omega) rfl
  exact this
/-- What the reference's queue has become: another row, laid since. -/
theorem RF.put {w w1 : World} {lo M n : Nat} {q' : List Int} {v v' : Value} (hlo : lo ≤ w.heap.size) (h1 : w.heap[M]? = some (.cells #[.int .i64 n, v] 34 (0, 0))) (hb : But [] w w1) (ho : RowI w1 w.heap.size v' q') (hq : q'.length ≤ n) (hn : n ≤ 4096) :
    RF (w1.setCell ⟨M, 1, none⟩ v') lo M n q' ∧ But [M] w (w1.setCell ⟨M, 1, none⟩ v') := by
  have hlt := (Array.getElem?_eq_some_iff.1 h1).1
  have e1 := (hb.block M hlt (by simp)).trans h1
  refine ⟨⟨v', ?_, ?_, hq, hn⟩, (hb.mono (by simp)).set (p := ⟨M, 1, none⟩) (by simp) _⟩
  · have := heap_setCell_same w1 M 1 _ 34 v' e1
    rw [this]
    rfl
  · have hb2 : But [M] w1 (w1.setCell ⟨M, 1, none⟩ v') := (But.refl _ _).set (p := ⟨M, 1, none⟩) (by simp) _
    exact .inl (row_lower (RowI.but (base := w.heap.size) ho hb2 (by simp; omega)) hlo)

section
variable {w : World} {lo M n : Nat} {q : List Int}

set_option maxHeartbeats 1000000 in
theorem rpush_any (h : RF w lo M n q) (hlo : lo ≤ w.heap.size) (x : Int) :
    Calls Try.prog 25 #[.pointer (some ⟨M, 0, none⟩), .int .i64 x] w fun e w' => e = .returned (.int .i64 (errQ n q)) ∧ RF w' lo M n (addQ n q (q ++ [x])) ∧ But [M] w w' := by
  have hlt := h.lt
  obtain ⟨v, h1, h2, h3, h4⟩ := h
  obtain ⟨a, c, rfl, -, -, -, -⟩ := h2.shape
  have c1 : w.cell? ⟨M, 1, none⟩ = some (.slice a q.length c) := by simp [World.cell?, h1]
  have c0 : w.cell? ⟨M, 0, none⟩ = some (.int .i64 n) := by simp [World.cell?, h1]
  unfold errQ addQ
  by_cases hq : q.length < n
  · rw [if_pos hq, if_pos hq]
    have hq' : (q.length : Int) < (n : Int) := by omega
    have HR := h2.reads
    have d1 : ∀ k o, ((w.drewN k).alloc o).cell? ⟨M, 1, none⟩ = some (.slice a q.length c) := fun k o => (((But.refl [] w).drewN k).alloc o).cell c1
    have OW := fun k => own_none (w.drewN k)
    go_enter Try.func25, Try.ntmps25
    go_wp2_with fail
    go_quiet (fail)
    go_wp2_with (first
      | (at_builtin; refine wpList_app rfl _ _ rfl w.heap.size _ 0 [] rfl (OW nq) _ _ _ q rfl rfl (HR.but (((But.refl [] w).drewN nq).alloc _)) (by omega) (by simp) ?_; intro v2 w2 ho2 hg2; have hb2 : But [] w w2 := (((But.refl [] w).drewN nq).alloc _).grown hg2 (fun k e => by cases e; exact Nat.le_refl _); clear d1 OW HR)
      | (at_builtin; refine wpList_app rfl _ _ rfl w.heap.size _ _ _ rfl (ho2.alloc _) _ _ _ [x] rfl rfl (reads_one _ _) (by omega) (by have := hb2.size; simp; omega) ?_; intro v3 w3 ho3 hg3; obtain ⟨sa, sc, rfl⟩ := own_shape ho3; have hb3 : But [] w w3 := (hb2.alloc _).grown hg3 (fun k e => (ho2.lt k e).1); have c3 := hb3.cell c1; have f3 : w3.frozen? ⟨M, 1, none⟩ = false := by simp [World.frozen?, hb3.block M hlt (by simp), h1]))
    go_ret
    rw [List.nil_append, Nat.zero_add] at ho3
    obtain ⟨r1, r2⟩ := RF.put (q' := q ++ [x]) hlo h1 hb3 (by unfold RowI; simpa using ho3) (by simp; omega) h4
    exact ⟨rfl, r1, r2⟩
  · rw [if_neg hq, if_neg hq]
    have hq' : (n : Int) ≤ (q.length : Int) := by omega
    have e : q.length = n := by omega
    go_enter Try.func25, Try.ntmps25
    go_wp2_with fail
    go_quiet (fail)
    go_wp2_with fail
    go_ret
    exact ⟨rfl, ⟨_, h1, h2, h3, h4⟩, (But.refl _ w).drewN _⟩

set_option maxHeartbeats 1000000 in
theorem rfront_any (h : RF w lo M n q) (hlo : lo ≤ w.heap.size) (x : Int) :
    Calls Try.prog 26 #[.pointer (some ⟨M, 0, none⟩), .int .i64 x] w fun e w' => e = .returned (.int .i64 (errQ n q)) ∧ RF w' lo M n (addQ n q (x :: q)) ∧ But [M] w w' := by
  have hlt := h.lt
  obtain ⟨v, h1, h2, h3, h4⟩ := h
  obtain ⟨a, c, rfl, -, -, -, -⟩ := h2.shape
  have c1 : w.cell? ⟨M, 1, none⟩ = some (.slice a q.length c) := by simp [World.cell?, h1]
  have c0 : w.cell? ⟨M, 0, none⟩ = some (.int .i64 n) := by simp [World.cell?, h1]
  unfold errQ addQ
  by_cases hq : q.length < n
  · rw [if_pos hq, if_pos hq]
    have hq' : (q.length : Int) < (n : Int) := by omega
    have HR := h2.reads
    have d1 : ∀ k o, ((w.drewN k).alloc o).cell? ⟨M, 1, none⟩ = some (.slice a q.length c) := fun k o => (((But.refl [] w).drewN k).alloc o).cell c1
    have OW := fun k => own_one (w.drewN k) x
    go_enter Try.func26, Try.ntmps26
    go_wp2_with fail
    go_quiet (fail)
    go_wp2_with (first
      | (at_builtin; refine wpList_app rfl _ _ rfl w.heap.size _ 1 [x] rfl (OW nq) _ _ _ q rfl rfl (HR.but (((But.refl [] w).drewN nq).alloc _)) (by omega) (by simp) ?_; intro v3 w3 ho3 hg3; obtain ⟨sa, sc, rfl⟩ := own_shape ho3; have hb3 : But [] w w3 := (((But.refl [] w).drewN nq).alloc _).grown hg3 (fun k e => by cases e; exact Nat.le_refl _); have c3 := hb3.cell c1; have f3 : w3.frozen? ⟨M, 1, none⟩ = false := by simp [World.frozen?, hb3.block M hlt (by simp), h1]))
    go_ret
    obtain ⟨r1, r2⟩ := RF.put (q' := x :: q) hlo h1 hb3 (by unfold RowI; rw [List.length_cons, Nat.add_comm]; exact ho3) (by simp; omega) h4
    exact ⟨rfl, r1, r2⟩
  · rw [if_neg hq, if_neg hq]
    have hq' : (n : Int) ≤ (q.length : Int) := by omega
    have e : q.length = n := by omega
    go_enter Try.func26, Try.ntmps26
    go_wp2_with fail
    go_quiet (fail)
    go_wp2_with fail
    go_ret
    exact ⟨rfl, ⟨_, h1, h2, h3, h4⟩, (But.refl _ w).drewN _⟩
end

end Go.Proofs.Ytfobfkidpdlkeaa
