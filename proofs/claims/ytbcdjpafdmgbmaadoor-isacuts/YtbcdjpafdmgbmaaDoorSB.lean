/- strings.Builder: what its calls leave, block by block. -/
import Derived.Test.YtbcdjpafdmgbmaaDoorUsed
import Derived.Test.YtbcdjpafdmgbmaaDoorGood
import Derived.Test.YtbcdjpafdmgbmaaDoorCPutL
import Derived.Test.YtbcdjpafdmgbmaaDoorBat
import Derived.Test.YtbcdjpafdmgbmaaDoorShelf
import Derived.Lib.Builder
import Derived.Laws.Externs
namespace Go.Proofs.YtbcdjpafdmgbmaaDoor
open Go.RowKit Go.Shelf

theorem infoSB : (Tryd.prog.info? 90).map (·.size) = some 2 := by kernel_rfl

set_option maxHeartbeats 1000000 in
set_option maxRecDepth 100000 in
theorem copy_used (b : Nat) (w : World) (h0 : w.cell? ⟨b, 0, none⟩ = some (.pointer (some ⟨b, 0, none⟩))) :
    Calls Tryd.prog 83 #[.pointer (some ⟨b, 0, none⟩)] w fun e w' => e = .returned (.tuple #[]) ∧ w' = w := by
  obtain ⟨j, hj, _⟩ := Option.map_eq_some_iff.1 infoSB
  go_enter Tryd.func83, Tryd.ntmps83
  go_wp2
  rw [Lib.run_neq_ptr_same w _ Tryd.underlying88 hj]
  go_wp2
  go_end0
  exact ⟨rfl, rfl⟩

set_option maxHeartbeats 1000000 in
set_option maxRecDepth 100000 in
theorem copy_fresh (b : Nat) (w : World) (h0 : w.cell? ⟨b, 0, none⟩ = some (.pointer none)) (hsh : w.shape? b = some (90, 2)) (hfz : w.frozen? ⟨b, 0, none⟩ = false) :
    Calls Tryd.prog 83 #[.pointer (some ⟨b, 0, none⟩)] w fun e w' => e = .returned (.tuple #[]) ∧ w' = w.setCell ⟨b, 0, none⟩ (.pointer (some ⟨b, 0, none⟩)) := by
  obtain ⟨j, hj, hjs⟩ := Option.map_eq_some_iff.1 infoSB
  go_enter Tryd.func83, Tryd.ntmps83
  go_wp2
  rw [Lib.run_to_unsafe w ⟨b, 0, none⟩ Tryd.underlying88 Tryd.underlying130 hj (by rw [hjs]; decide) hsh (Nat.zero_lt_succ 1)]
  simp only [Result.andThen]
  rw [Oper.upon_value]
  go_wp2
  rw [run_callFunc_extern Tryd.func99 (by kernel_rfl) (by kernel_rfl) (by kernel_rfl) (e := Extern.AbiNoEscape.same) (by kernel_rfl)]
  rw [Lib.run_noEscape]
  simp only [Result.andThen]
  rw [Oper.upon_value]
  go_wp2
  rw [Lib.run_from_unsafe w ⟨b, 0, none⟩ Tryd.underlying130 Tryd.underlying88 hj hsh (by kernel_rfl)]
  simp only [Result.andThen]
  rw [Oper.upon_value]
  go_wp2
  go_end0
  exact ⟨rfl, rfl⟩

/-- A builder of the call's own that holds the bytes l. -/
structure Bd (w : World) (lo b : Nat) (v : Value) (l : List UInt8) : Prop where
  at_ : ∃ p, w.heap[b]? = some (.cells #[p, v] 90 (0, 0)) ∧ (p = .pointer none ∨ p = .pointer (some ⟨b, 0, none⟩))
  own : Own w lo v l
  lo : lo ≤ b
/-- The blocks of a builder. -/
def ownB (b : Nat) (A : World) : List Nat := b :: (match A.cell? ⟨b, 1, none⟩ with | some v => v.ownBlock.toList | none => [])

section
variable {w w' : World} {lo b : Nat} {v : Value} {l : List UInt8}
theorem Bd.blk (h : Bd w lo b v l) : ownB b w = b :: v.ownBlock.toList := by
  obtain ⟨p, hb, _⟩ := h.at_
  unfold ownB
  simp [World.cell?, hb]
theorem Bd.ne (h : Bd w lo b v l) : v.ownBlock ≠ some b := by
  obtain ⟨p, hb, _⟩ := h.at_
  exact Lib.ownBlock_ne h.own hb (by decide)
theorem Bd.lt (h : Bd w lo b v l) : b < w.heap.size := by
  obtain ⟨p, hb, _⟩ := h.at_
  exact (Array.getElem?_eq_some_iff.1 hb).1
theorem Bd.inn (h : Bd w lo b v l) : OwnIn (ownB b) w := by
  intro k hk
  rw [h.blk] at hk
  obtain ⟨p, hb, _⟩ := h.at_
  rcases List.mem_cons.1 hk with rfl | hk
  · exact ⟨_, hb, rfl⟩
  · rcases h.own.2 with ⟨rfl, _⟩ | ⟨g, cap, cur, rfl, _, hg, _⟩
    · simp [Value.ownBlock] at hk
    · simp [Value.ownBlock] at hk
      subst hk
      exact ⟨_, hg, rfl⟩
theorem Bd.blk_lo (h : Bd w lo b v l) : ∀ k ∈ ownB b w, lo ≤ k := by
  intro k hk
  rw [h.blk] at hk
  rcases List.mem_cons.1 hk with rfl | hk
  · exact h.lo
  · exact own_lt h.own k (by simpa using hk)
/-- Where none of its blocks turned it is as it was. -/
theorem Bd.keep (h : Bd w lo b v l) (hk : ∀ k ∈ ownB b w, w'.heap[k]? = w.heap[k]?) : Bd w' lo b v l := by
  obtain ⟨p, hb, hp⟩ := h.at_
  have hB := h.blk
  exact ⟨⟨p, (hk b (by rw [hB]; simp)).trans hb, hp⟩, ownsRow_put h.own (fun k e => hk k (by rw [hB]; simp [e])), h.lo⟩
theorem Bd.but {S : List Nat} (h : Bd w lo b v l) (hb : But S w w') (hS : ∀ k ∈ ownB b w, k ∉ S) : Bd w' lo b v l :=
  h.keep (fun k hk => by
    obtain ⟨o, ho, _⟩ := h.inn k hk
    exact hb.block k (Array.getElem?_eq_some_iff.1 ho).1 (hS k hk))
theorem Bd.lib (h : Bd w lo b v l) : Lib.IsBuilder 90 5 lo b (bc l) w := by
  have hne := h.ne
  obtain ⟨p, hb, hp⟩ := h.at_
  have ho : w.ownsRow lo 5 1 v (bc l).length (bc l) := by rw [bc_len]; exact h.own
  rcases hp with rfl | rfl
  · exact .inl ⟨h.lo, v, hb, ho, hne⟩
  · exact .inr ⟨h.lo, v, hb, ho, hne⟩
end

theorem stab_b (b : Nat) : Stab (ownB b) := by
  intro A B row hA hg hr
  unfold ownB
  have hb : b ∈ ownB b A := by unfold ownB; simp
  obtain ⟨o, ho, hc⟩ := hA b hb
  have e : B.heap[b]? = A.heap[b]? := hg.block b (Array.getElem?_eq_some_iff.1 ho).1 (fun e => by
    obtain ⟨o', ho', hc'⟩ := hr b e.symm
    rw [ho] at ho'
    cases ho'
    rw [hc] at hc'
    cases hc')
  rw [show B.cell? ⟨b, 1, none⟩ = A.cell? ⟨b, 1, none⟩ from World.cell?_of_block e]

/-- Only the builder's blocks turn; those that are its own now were its own, or are new. -/
structure StB (b : Nat) (w w' : World) : Prop where
  but : But (ownB b w) w w'
  new : ∀ k ∈ ownB b w', k ∈ ownB b w ∨ w.heap.size ≤ k
theorem StB.refl (b : Nat) (w : World) : StB b w w := ⟨But.refl _ w, fun _ h => .inl h⟩
theorem StB.trans {b : Nat} {x y z : World} (h : StB b x y) (k : StB b y z) : StB b x z :=
  ⟨h.but.trans_new k.but h.new, fun i hi => (k.new i hi).elim (h.new i) (fun l => .inr (Nat.le_trans h.but.size l))⟩
theorem StB.keep {b : Nat} {w w' : World} (hb : OwnIn (ownB b) w) (h : But [] w w') : StB b w w' := ⟨h.wide, fun k hk => .inl (by rw [Stab.but (stab_b b) hb h] at hk; exact hk)⟩
theorem StB.kp {b base : Nat} {w w' : World} (h : StB b w w') (hin : OwnIn (ownB b) w) : Kp (ownB b) base w w' := by
  refine ⟨⟨h.but.size, fun k o _ hk hc => ?_⟩, fun k o hk _ hn => (h.but.block k (Array.getElem?_eq_some_iff.1 hk).1 hn).trans hk, fun k hk hn hk' => ?_⟩
  · refine (h.but.block k (Array.getElem?_eq_some_iff.1 hk).1 (fun hS => ?_)).trans hk
    obtain ⟨o', ho', hc'⟩ := hin k hS
    rw [hk] at ho'
    cases ho'
    rw [hc] at hc'
    cases hc'
  · exact (h.new k hk').elim hn (fun l => by omega)
theorem StB.below {b lo : Nat} {w w' : World} (h : StB b w w') (hl : ∀ k ∈ ownB b w, lo ≤ k) (hn : lo ≤ w.heap.size) : Below lo w w' := h.but.below hn hl

/-- Behind copyCheck. -/
theorem copy_any {lo b : Nat} {v : Value} {l : List UInt8} {w : World} (h : Bd w lo b v l) :
    Calls Tryd.prog 83 #[.pointer (some ⟨b, 0, none⟩)] w fun e w' => e = .returned (.tuple #[]) ∧ w'.heap[b]? = some (.cells #[.pointer (some ⟨b, 0, none⟩), v] 90 (0, 0)) ∧ Bd w' lo b v l ∧ But [b] w w' ∧ ownB b w' = ownB b w := by
  have hne := h.ne
  obtain ⟨p, hb, hp⟩ := h.at_
  rcases hp with rfl | rfl
  · refine (copy_fresh b w (by simp [World.cell?, hb]) (by simp [World.shape?, hb]) (by simp [World.frozen?, hb])).mono ?_
    rintro e w' ⟨rfl, rfl⟩
    have e1 : (w.setCell ⟨b, 0, none⟩ (.pointer (some ⟨b, 0, none⟩))).heap[b]? = some (.cells #[.pointer (some ⟨b, 0, none⟩), v] 90 (0, 0)) := heap_setCell_same w b 0 _ 90 _ hb
    have h2 : Bd (w.setCell ⟨b, 0, none⟩ (.pointer (some ⟨b, 0, none⟩))) lo b v l := ⟨⟨_, e1, .inr rfl⟩, ownsRow_put h.own (fun k ek => Below.heap_setCell _ _ _ _ (fun e => hne (by rw [ek, e]))), h.lo⟩
    exact ⟨rfl, e1, h2, (But.refl [b] w).set (by simp) _, by rw [h2.blk, h.blk]⟩
  · refine (copy_used b w (by simp [World.cell?, hb])).mono ?_
    rintro e w' ⟨rfl, rfl⟩
    exact ⟨rfl, hb, h, But.refl _ _, rfl⟩

/-- Where the bytes lie behind an append of a text. -/
theorem str_at {w : World} {lo : Nat} {v : Value} {n : Nat} {xs : List Value} {ty : TypeId} (hown : w.ownsRow lo 5 1 v n xs) (s : ByteArray) (hk : n + s.size ≤ 1000000) {v' : Value} {w' : World}
    (hrun : (Builtin.append_ #[32, 9] ty #[v, .string s]).run Tryd.prog w = .ok v' w') : v'.ownBlock = v.ownBlock ∨ v'.ownBlock = some w.heap.size := by
  obtain ⟨i0, hi, hz0, hz1, hz2⟩ := info_parts info5
  have hxl : xs.length = n := by simpa using hown.1
  have h63 : n + s.size ≤ 9223372036854775807 := by omega
  rcases hown.2 with ⟨rfl, rfl⟩ | ⟨g, cap, cur, rfl, hbg, hg, hnc, hcm, hcs, htake⟩
  · by_cases hm : s.size = 0
    · have hf := Lib.run_firstCells_string (P := Tryd.prog) w 1 s
      rw [hm] at hf
      have hr : (Builtin.append_ #[32, 9] ty #[.slice none 0 0, .string s]).run Tryd.prog w = .ok (.slice none 0 0) w := by
        simp [Builtin.append_, run_underlying Tryd.underlying32, run_underlying Tryd.underlying9, sizeOf, typeInfo, hi, hz1, Builtin.lenOf, hm, hf]
      rw [hr] at hrun
      cases hrun
      exact .inl rfl
    · have hr := run_append_nil_string (P := Tryd.prog) w 32 9 ty 5 i0 (.int .u8 0) Tryd.underlying32 Tryd.underlying9 hi hz0 s (by omega) (by omega) (by rw [hz2]; omega)
      rw [hr] at hrun
      cases hrun
      exact .inr rfl
  · by_cases hroom : n + s.size ≤ cap
    · have hr := Lib.run_append_room_string (P := Tryd.prog) w 32 9 ty 5 i0 Tryd.underlying32 Tryd.underlying9 hi hz1 g n cap cur hg s hroom (by omega)
      rw [hr] at hrun
      cases hrun
      exact .inl rfl
    · have holds : ∀ j u, xs[j]? = some u → w.cell? ((⟨g, 0, none⟩ : Addr).add j) = some u := hown.cells (g := g) rfl
      have hr := Lib.run_append_grow_string (P := Tryd.prog) w 32 9 ty 5 i0 (.int .u8 0) Tryd.underlying32 Tryd.underlying9 hi hz0 ⟨g, 0, none⟩ n cap xs (by rw [hz1]; simpa using hxl) holds s (by omega) (by omega) (by rw [hz2]; exact growslice_fits (by omega) (by omega))
      rw [hr] at hrun
      cases hrun
      exact .inr rfl

theorem wpList_sat {w : World} {ops : Array Oper} {rest : List Oper} {o : Oper} {a : Act} {Q : Exit → Act → World → Prop} (hg : o.guard = none) (sl x : Operand) (hop : o.op = Op.call { callee := Callee.builtin Builtin.append, args := #[sl, x], argTypes := #[32, 9] })
    (lo : Nat) (v : Value) (bs : List UInt8) (hs : a.eval sl = v) (h : Own w lo v bs) (s : ByteArray) (hx : a.eval x = .string s) (hk : bs.length + s.size ≤ 1000000) (hb : lo ≤ w.heap.size)
    (hK : ∀ v' w', Own w' lo v' (bs ++ s.data.toList) → w.grownBy w' v.ownBlock → (v'.ownBlock = v.ownBlock ∨ v'.ownBlock = some w.heap.size) → wpList Tryd.prog ops Q rest (a.put o.dst v') w') :
    wpList Tryd.prog ops Q (o :: rest) a w := by
  refine wpList_plain hg fun K hK' => ?_
  obtain ⟨i0, hi, hz0, hz1, hz2⟩ := info_parts info5
  obtain ⟨v', w', hrun, r1, r2, _⟩ := Lib.run_append_own_string (P := Tryd.prog) w lo 32 9 o.type 5 i0 Tryd.underlying32 Tryd.underlying9 hi hz0 hz1 hz2 v bs.length (bc bs) h s (by unfold maxLen; omega) (by omega) hb
  have r3 := str_at h s hk hrun
  have r4 : Own w' lo v' (bs ++ s.data.toList) := by
    unfold Own
    rw [List.length_append, bc_app]
    rw [strCells_bc] at r1
    exact r1
  unfold Oper.wp
  simp [execOp, hop, resolve, invoke, builtin, hs, hx, hrun, Result.andThen]
  exact hK' _ _ (hK v' w' r4 r2 r3)

theorem slice_of {w : World} {lo : Nat} {v : Value} {bs : List UInt8} (h : Own w lo v bs) : ∃ a c, v = .slice a bs.length c := by
  obtain ⟨a, c, e, _⟩ := h.byts
  exact ⟨a, c, e⟩

theorem slice_n {w : World} {lo n : Nat} {v : Value} {bs : List UInt8} (h : Own w lo v bs) (hn : bs.length = n) : ∃ a c, v = .slice a n c := by
  subst hn
  exact slice_of h
theorem str_size (s : List UInt8) : (⟨s.toArray⟩ : ByteArray).size = s.length := List.size_toArray ..

/-- What a write leaves. -/
theorem wrote {lo b : Nat} {v v' : Value} {l l' : List UInt8} {w w1 wa w2 : World} (h : Bd w lo b v l) (e1 : w1.heap[b]? = some (.cells #[.pointer (some ⟨b, 0, none⟩), v] 90 (0, 0))) (h1 : Bd w1 lo b v l) (b1 : But [b] w w1) (eb : ownB b w1 = ownB b w)
    (ba : But [] w1 wa) (ho : Own w2 lo v' l') (hg : wa.grownBy w2 v.ownBlock) (hw : v'.ownBlock = v.ownBlock ∨ v'.ownBlock = some wa.heap.size) :
    Bd (w2.setCell ⟨b, 1, none⟩ v') lo b v' l' ∧ StB b w (w2.setCell ⟨b, 1, none⟩ v') ∧ w2.heap[b]? = some (.cells #[.pointer (some ⟨b, 0, none⟩), v] 90 (0, 0)) := by
  have hne := h1.ne
  have ea : wa.heap[b]? = some (.cells #[.pointer (some ⟨b, 0, none⟩), v] 90 (0, 0)) := (ba.block b h1.lt (by simp)).trans e1
  have hlt := (Array.getElem?_eq_some_iff.1 ea).1
  have e2 : w2.heap[b]? = some (.cells #[.pointer (some ⟨b, 0, none⟩), v] 90 (0, 0)) := (hg.block b hlt (fun e => hne e.symm)).trans ea
  have e3 : (w2.setCell ⟨b, 1, none⟩ v').heap[b]? = some (.cells #[.pointer (some ⟨b, 0, none⟩), v'] 90 (0, 0)) := heap_setCell_same w2 b 1 _ 90 v' e2
  have hne2 : v'.ownBlock ≠ some b := Lib.ownBlock_ne ho e2 (by decide)
  have h3 : Bd (w2.setCell ⟨b, 1, none⟩ v') lo b v' l' := ⟨⟨_, e3, .inr rfl⟩, ownsRow_put ho (fun k ek => Below.heap_setCell _ _ _ _ (fun e => hne2 (by rw [ek, e]))), h.lo⟩
  refine ⟨h3, ⟨?_, ?_⟩, e2⟩
  · have t1 : But (ownB b w) w wa := (b1.mono (fun x hx => by rw [h.blk]; simp at hx; simp [hx])).trans ba.wide
    have t2 : But (ownB b w) wa w2 := ⟨hg.os, hg.tape, hg.output, hg.size, fun k hk hs => hg.block k hk (fun e => hs (by rw [h.blk]; simp [← e]))⟩
    exact (t1.trans t2).set (by rw [h.blk]; simp) _
  · intro k hk
    rw [h3.blk] at hk
    rw [h.blk]
    rcases List.mem_cons.1 hk with rfl | hk
    · exact .inl (by simp)
    · have hk' : v'.ownBlock = some k := by simpa using hk
      rcases hw with e | e
      · exact .inl (by rw [hk'] at e; simp [← e])
      · rw [hk'] at e
        cases e
        exact .inr (Nat.le_trans b1.size ba.size)

set_option maxHeartbeats 1000000 in
theorem sb_byte {lo b : Nat} {v : Value} {l : List UInt8} {w : World} (h : Bd w lo b v l) (c : UInt8) (hlen : l.length ≤ 100000) (hlo : lo ≤ w.heap.size) :
    Calls Tryd.prog 53 #[.pointer (some ⟨b, 0, none⟩), .int .u8 (c.toNat : Int)] w fun e w' => e = .returned .nilIface ∧ (∃ v', Bd w' lo b v' (l ++ [c])) ∧ StB b w w' := by
  obtain ⟨a0, c0, rfl⟩ := slice_of h.own
  go_enter Tryd.func53, Tryd.ntmps53
  go_wp2_with (first
    | (go_at_call 83; (with_reducible refine (copy_any h).mono ?_); rintro e w1 ⟨rfl, e1, h1, b1, eb⟩; have c1 : w1.cell? ⟨b, 1, none⟩ = some (.slice a0 l.length c0) := (by simp [World.cell?, e1]); replace e1 := Hid.mk e1; replace eb := Hid.mk eb)
    | (at_builtin; refine wpList_bat rfl _ _ rfl lo _ l rfl (h1.own.alloc _) (w1.heap.size + 1) _ 1 1 [c] rfl rfl (byts_one w1 c rfl) (by omega) (by have := b1.size; simp; omega) ?_; intro v' w2 ho hg hw; obtain ⟨a', c', ev⟩ := slice_n (n := l.length + 1) ho (by simp); obtain ⟨r1, r2, r3⟩ := wrote h e1.out h1 b1 eb.out ((But.refl [] w1).alloc _) ho hg hw; subst ev; have d1 : w2.cell? ⟨b, 1, none⟩ = some (.slice a0 l.length c0) := (by simp [World.cell?, r3]); have f1 : w2.frozen? ⟨b, 1, none⟩ = false := (by simp [World.frozen?, r3]); replace r3 := Hid.mk r3))
  go_ret
  exact ⟨rfl, ⟨_, r1⟩, r2⟩

set_option maxHeartbeats 1000000 in
theorem sb_str {lo b : Nat} {v : Value} {l : List UInt8} {w : World} (h : Bd w lo b v l) (s : List UInt8) (hlen : l.length + s.length ≤ 100000) (hlo : lo ≤ w.heap.size) :
    Calls Tryd.prog 52 #[.pointer (some ⟨b, 0, none⟩), .string ⟨s.toArray⟩] w fun e w' => (∃ u, e = .returned u) ∧ (∃ v', Bd w' lo b v' (l ++ s)) ∧ StB b w w' := by
  obtain ⟨a0, c0, rfl⟩ := slice_of h.own
  go_enter Tryd.func52, Tryd.ntmps52
  go_wp2_with (first
    | (go_at_call 83; (with_reducible refine (copy_any h).mono ?_); rintro e w1 ⟨rfl, e1, h1, b1, eb⟩; have c1 : w1.cell? ⟨b, 1, none⟩ = some (.slice a0 l.length c0) := (by simp [World.cell?, e1]); replace e1 := Hid.mk e1; replace eb := Hid.mk eb)
    | (at_builtin; refine wpList_sat rfl _ _ rfl lo _ l rfl h1.own ⟨s.toArray⟩ rfl (by rw [str_size]; omega) (by have := b1.size; omega) ?_; intro v' w2 ho hg hw; change Own w2 lo v' (l ++ s) at ho; obtain ⟨a', c', ev⟩ := slice_n (n := l.length + s.length) ho (by simp); obtain ⟨r1, r2, r3⟩ := wrote h e1.out h1 b1 eb.out (But.refl [] w1) ho hg hw; subst ev; have d1 : w2.cell? ⟨b, 1, none⟩ = some (.slice a0 l.length c0) := (by simp [World.cell?, r3]); have f1 : w2.frozen? ⟨b, 1, none⟩ = false := (by simp [World.frozen?, r3]); replace r3 := Hid.mk r3))
  go_ret2
  exact ⟨⟨_, rfl⟩, ⟨_, r1⟩, r2⟩

end Go.Proofs.YtbcdjpafdmgbmaaDoor
