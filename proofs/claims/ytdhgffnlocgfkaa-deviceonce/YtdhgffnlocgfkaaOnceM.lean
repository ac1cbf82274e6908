/- For DeviceOnce: ids that stand are unlike; a block of counts; ints that are appended. -/
import Derived.Test.YtdhgffnlocgfkaaLives
import Derived.Test.YtdhgffnlocgfkaaOpens
namespace Go.Proofs.Ytdhgffnlocgfkaa
open Go.RowKit

/-- No two have one id. -/
def Un (xs : List Rq) : Prop := (xs.map (·.1)).Nodup
theorem Un.nil : Un [] := List.nodup_nil
theorem Un.add {xs : List Rq} {la : Nat} (h : Un xs) (ho : OkS la xs) (r : Rq) (hr : r.1 = (la : Int) + 1) : Un (xs ++ [r]) := by
  unfold Un
  rw [List.map_append, List.nodup_append]
  refine ⟨h, by simp, fun a ha b hb e => ?_⟩
  obtain ⟨q, hq, rfl⟩ := List.mem_map.1 ha
  simp at hb
  have := (ho q hq).2.2
  omega
theorem erase_mid {xs : List Rq} {p : Nat} {r : Rq} (h : xs[p]? = some r) : ∃ u v, xs = u ++ r :: v ∧ xs.eraseIdx p = u ++ v := by
  obtain ⟨u, v, e, hu, _⟩ := mid_of h
  refine ⟨u, v, e, ?_⟩
  rw [e, List.eraseIdx_append_of_length_le (by omega), hu, Nat.sub_self]
  rfl
theorem Un.erase {xs : List Rq} {p : Nat} {r : Rq} (h : Un xs) (hp : xs[p]? = some r) : Un (xs.eraseIdx p) ∧ ∀ q ∈ xs.eraseIdx p, q.1 ≠ r.1 := by
  obtain ⟨u, v, e, e2⟩ := erase_mid hp
  unfold Un at h ⊢
  rw [e, List.map_append, List.map_cons, List.nodup_append, List.nodup_cons] at h
  obtain ⟨h1, ⟨h2, h3⟩, h4⟩ := h
  rw [e2, List.map_append, List.nodup_append]
  refine ⟨⟨h1, h3, fun a ha b hb => h4 a ha b (by simp [hb])⟩, fun q hq e3 => ?_⟩
  rcases List.mem_append.1 hq with hq | hq
  · exact h4 q.1 (List.mem_map_of_mem hq) r.1 (by simp) e3
  · exact h2 (e3 ▸ List.mem_map_of_mem hq)

theorem ix_set {xs : List Int} {p m : Nat} {v : Int} (hm : m < xs.length) : ix (xs.set p v) m = if m = p then v else ix xs m := by
  unfold ix
  by_cases h : m = p
  · subst h
    rw [if_pos rfl, List.getD_eq_getElem?_getD, List.getElem?_set_self hm]
    rfl
  · rw [if_neg h, List.getD_eq_getElem?_getD, List.getD_eq_getElem?_getD, List.getElem?_set_ne (Ne.symm h)]
/-- Those that stand were not seen. -/
def Ns (sn : List Int) (xs : List Rq) : Prop := ∀ r ∈ xs, ix sn r.1.toNat = 0
theorem Ns.erase {sn : List Int} {xs : List Rq} {p : Nat} {r : Rq} {la : Nat} (h : Ns sn xs) (hu : Un xs) (ho : OkS la xs) (hl : la ≤ 40) (hs : sn.length = 41) (hp : xs[p]? = some r) : Ns (sn.set r.1.toNat 1) (xs.eraseIdx p) := fun q hq => by
  have hq' := List.mem_of_mem_eraseIdx hq
  have h1 := (ho q hq').2
  have h2 := (ho r (List.mem_of_getElem? hp)).2
  have h3 := (hu.erase hp).2 q hq
  rw [ix_set (by omega), if_neg (by omega)]
  exact h q hq'

/-- A block of ints that is being written. -/
def WB (w : World) (G n : Nat) (xs : List Int) : Prop := xs.length = n ∧ (∀ j, j < n → w.cell? ⟨G, j, none⟩ = some (.int .i64 (ix xs j))) ∧ ∀ j, j < n → w.frozen? ⟨G, j, none⟩ = false
theorem WB.set {w : World} {G n p : Nat} {xs : List Int} {v : Int} (h : WB w G n xs) (hp : p < n) : WB (w.setCell ⟨G, p, none⟩ (.int .i64 v)) G n (xs.set p v) := by
  obtain ⟨h0, h1, h2⟩ := h
  refine ⟨by rw [List.length_set]; exact h0, fun m hm => ?_, fun m hm => by rw [← h2 m hm]; simp⟩
  rw [ix_set (by omega)]
  by_cases hmp : m = p
  · subst hmp
    rw [if_pos rfl]
    exact World.cell?_setCell_same _ _ _ (h1 m hm)
  · rw [if_neg hmp, World.cell?_setCell_other _ _ _ _ (fun h => hmp (congrArg Addr.off h).symm)]
    exact h1 m hm
theorem WB.but {S : List Nat} {w w' : World} {G n : Nat} {xs : List Int} (h : WB w G n xs) (hb : But S w w') (hS : G ∉ S) : WB w' G n xs :=
  ⟨h.1, fun j hj => hb.cell' (h.2.1 j hj) hS, fun j hj => (World.frozen?_of_block (hb.block G (World.block_lt_of_cell? w ⟨G, j, none⟩ (h.2.1 j hj)) hS)).trans (h.2.2 j hj)⟩
theorem IX.but {S : List Nat} {w w' : World} {g : Nat} {xs : List Int} (h : IX w (some ⟨g, 0, none⟩) xs) (hb : But S w w') (hS : g ∉ S) : IX w' (some ⟨g, 0, none⟩) xs := fun j hj => by
  obtain ⟨b, o, e, h0⟩ := h j hj
  cases e
  exact ⟨g, 0, rfl, hb.cell' h0 hS⟩

def ints (xs : List Int) : List Value := xs.map (Value.int .i64)
theorem ints_app (xs ys : List Int) : ints (xs ++ ys) = ints xs ++ ints ys := by simp [ints]
theorem ints_len (xs : List Int) : (ints xs).length = xs.length := by simp [ints]
theorem ints_one (xs : List Int) : ∀ u ∈ ints xs, u.oneCell' = true := fun u hu => by
  obtain ⟨x, _, rfl⟩ := List.mem_map.1 hu
  rfl
theorem ix_get {xs : List Int} {i : Nat} (h : i < xs.length) : xs[i]? = some (ix xs i) := by
  unfold ix
  rw [List.getD_eq_getElem?_getD, List.getElem?_eq_getElem h, Option.getD_some]
theorem ints_get {xs : List Int} {j : Nat} (h : j < xs.length) : (ints xs)[j]? = some (.int .i64 (ix xs j)) := by
  rw [ints, List.getElem?_map, ix_get h]; rfl
theorem IX.rw_ {w : World} {a : Option Addr} {xs : List Int} (h : IX w a xs) : Rw w a (ints xs) := fun j v hv => by
  have hj : j < xs.length := by have := (List.getElem?_eq_some_iff.1 hv).1; rw [ints_len] at this; exact this
  rw [ints_get hj] at hv
  cases hv
  exact h j hj
theorem Rw.ix_ {w : World} {a : Option Addr} {xs : List Int} (h : Rw w a (ints xs)) : IX w a xs := fun j hj => h j _ (ints_get hj)
def OI (w : World) (B : Nat) (v : Value) (xs : List Int) : Prop := w.ownsRow B 3 1 v xs.length (ints xs)

theorem wpList_appI {w : World} {ops : Array Oper} {rest : List Oper} {o : Oper} {a : Act} {Q : Exit → Act → World → Prop} (hg : o.guard = none) (s x : Operand) (hop : o.op = Op.call { callee := Callee.builtin Builtin.append, args := #[s, x], argTypes := #[42, 42] })
    (B : Nat) (v : Value) (xs : List Int) (hs : a.eval s = v) (hown : OI w B v xs) (sp : Option Addr) (m c : Nat) (news : List Int) (hx : a.eval x = .slice sp m c) (hl : news.length = m) (hr : IX w sp news)
    (hk : xs.length + m ≤ 100000) (hb : B ≤ w.heap.size)
    (hK : ∀ v' w', OI w' B v' (xs ++ news) → w.grownBy w' v.ownBlock → wpList Try.prog ops Q rest (a.put o.dst v') w') :
    wpList Try.prog ops Q (o :: rest) a w := by
  refine wpList_plain hg fun K hK' => ?_
  obtain ⟨v', w', hrun, r1, r2, r3⟩ := run_own (t := 42) (ty := o.type) (c := c) (m := m) Try.underlying42 info3 rfl (by decide) hown hr.rw_ (by rw [ints_len, hl, Nat.mul_one]) (ints_one _) (by unfold maxLen; omega) (by omega) hb
  unfold Oper.wp execOp
  simp only [hop, resolve, invoke, builtin, Sem.run_bind, Sem.run_pure, Result.andThen_ok, List.map_toArray, List.map_cons, List.map_nil, hs, hx, hrun]
  refine hK' _ _ (hK v' w' ?_ r2)
  unfold OI
  rw [ints_app, List.length_append, hl]
  exact r1

/-- Zeros. -/
theorem zeros_eq (n : Nat) : Builtin.zeroCells (Value.int .i64 0).cells n = (ints (List.replicate n 0)).toArray := by
  apply Array.ext'
  rw [show (Value.int .i64 0).cells = #[.int .i64 0] from rfl]
  simp [Builtin.zeroCells, ints]
  apply List.ext_getElem
  · simp
  · intro i h1 h2
    simp [Nat.mod_one]
def z40 : List Value := ints (List.replicate 40 0)
theorem z40_len : z40.length = 40 := rfl
theorem But.by_ {g : Nat} {a b : World} (h : But [g] a b) : a.grownBy b (some g) := ⟨h.os, h.tape, h.output, h.size, fun k hk hs => h.block k hk (fun e => hs (by simp at e; rw [e]))⟩
/-- Forty of them behind a row of the call's own. -/
theorem run_forty {w : World} {ty : TypeId} {B : Nat} {v : Value} {xs : List Int} (hown : OI w B v xs) (hk : xs.length ≤ 60) (hB : B ≤ w.heap.size) :
    ∃ v' w', (Builtin.append_ #[42, 3] ty #[v, .int .i64 40]).run Try.prog w = .ok v' w' ∧ OI w' B v' (xs ++ List.replicate 40 0) ∧ w.grownBy w' v.ownBlock := by
  obtain ⟨i0, hi, hz0, hz1, hz2⟩ := info_parts info3
  have hw40 : IntKind.i64.wrap 40 = 40 := rfl
  have hz1' : ∀ u ∈ z40, u.oneCell' = true := ints_one _
  have hzz : Builtin.zeroCells (Value.int .i64 0).cells 40 = z40.toArray := zeros_eq 40
  have hl40 : (xs ++ List.replicate 40 0).length = xs.length + 40 := by rw [List.length_append, List.length_replicate]
  have hi40 : ints (xs ++ List.replicate 40 0) = ints xs ++ z40 := ints_app _ _
  unfold OI
  rw [hl40, hi40]
  obtain ⟨a, c, rfl, hlc, hrw, hcase⟩ := owns_rw hown
  by_cases hroom : xs.length + 40 ≤ c
  · rcases hown.2 with ⟨e, h0⟩ | ⟨g, cap, cur, e, hg1, hg, h3, h4, h5, h6⟩
    · simp only [Value.slice.injEq] at e
      omega
    · cases e
      obtain ⟨r1, b1⟩ := setCells_row (o := xs.length) (vs := z40) hg (by rw [z40_len]; omega) hz1'
      have hst := run_storeCells_cells (P := Try.prog) g xs.length z40 0 w (fun j hj => by rw [z40_len] at hj; simp [World.cell?, hg]; omega) (fun j hj => by simp [World.frozen?, hg]) hz1'
      simp only [Nat.add_zero] at hst
      generalize w.setCells g xs.length z40 = W at *
      rw [Nat.mul_one] at h5 h6
      refine ⟨.slice (some ⟨g, 0, none⟩) (xs.length + 40) c, W, ?_, ⟨by rw [List.length_append, ints_len, z40_len]; omega, .inr ⟨g, c, _, rfl, hg1, r1, hroom, h4, ?_, ?_⟩⟩, b1.by_⟩
      · simp [Builtin.append_, run_underlying Try.underlying42, run_underlying Try.underlying3, asInt, asIntOf, sizeOf, typeInfo, zeroValue, hi, hz0, hz1, hz2, hw40, hroom, hzz, Addr.add_lit, hst]
      · simp [z40_len]
        omega
      · rw [h6]
        have : (ints xs ++ z40).length = (xs.length + 40) * 1 := by rw [List.length_append, ints_len, z40_len]; omega
        rw [← this]
        exact List.take_left
  · have hn : ¬ (xs.length + 40 ≤ c) := hroom
    have h63' : ¬ (9223372036854775807 < ((xs.length : Int) + max 40 0)) := by omega
    have hfit := growslice_fits (need := xs.length + 40) (old := c) (bytes := 8) (by omega) (by omega)
    have h48' : ¬ (281474976710656 < Builtin.nextslicecap (xs.length + 40) c * 8) := by omega
    have hold : (Builtin.firstCells 1 xs.length (.slice a xs.length c)).run Try.prog w.drew = .ok (ints xs).toArray w.drew := first_of hrw (by rw [ints_len]; omega)
    refine ⟨.slice (some ⟨w.heap.size, 0, none⟩) (xs.length + 40) (grownCap w (xs.length + 40) c 3), w.drew.alloc (.cells ((ints xs).toArray ++ z40.toArray ++ Builtin.zeroCells (Value.int .i64 0).cells (grownCap w (xs.length + 40) c 3 - (xs.length + 40))) 3), ?_, ?_, ?_⟩
    · simp [Builtin.append_, run_underlying Try.underlying42, run_underlying Try.underlying3, asInt, asIntOf, sizeOf, typeInfo, zeroValue, hi, hz0, hz1, hz2, hw40, hn, h63', h48', hzz, Question.forced, hold, newRow, grownCap]
      congr 2
      apply Array.ext'
      simp [List.append_assoc]
    · have hge := grownCap_ge w (xs.length + 40) c 3
      have hcm : grownCap w (xs.length + 40) c 3 ≤ maxLen := grownCap_le_maxLen w (xs.length + 40) c 3 (by unfold maxLen; omega)
      have hlen : (ints xs ++ z40).length = (xs.length + 40) * 1 := by rw [List.length_append, ints_len, z40_len]; omega
      refine ⟨hlen, .inr ⟨w.heap.size, _, _, rfl, hB, heap_alloc_new w.drew _, hge, hcm, ?_, ?_⟩⟩
      · simp [size_zeroCells, ints_len, z40_len, Value.cells]
        omega
      · rw [Array.toList_append, Array.toList_append, ← hlen]
        exact List.take_left
    · exact ⟨rfl, rfl, rfl, by simp, fun k hk _ => Below.heap_alloc w.drew _ _ hk⟩
theorem wpList_forty {w : World} {ops : Array Oper} {rest : List Oper} {o : Oper} {a : Act} {Q : Exit → Act → World → Prop} (hg : o.guard = none) (s x : Operand) (hop : o.op = Op.call { callee := Callee.builtin Builtin.append, args := #[s, x], argTypes := #[42, 3] })
    (B : Nat) (v : Value) (xs : List Int) (hs : a.eval s = v) (hown : OI w B v xs) (hx : a.eval x = .int .i64 40) (hk : xs.length ≤ 60) (hb : B ≤ w.heap.size)
    (hK : ∀ v' w', OI w' B v' (xs ++ List.replicate 40 0) → w.grownBy w' v.ownBlock → wpList Try.prog ops Q rest (a.put o.dst v') w') :
    wpList Try.prog ops Q (o :: rest) a w := by
  refine wpList_plain hg fun K hK' => ?_
  obtain ⟨v', w', hrun, r1, r2⟩ := run_forty (ty := o.type) hown hk hb
  unfold Oper.wp execOp
  simp only [hop, resolve, invoke, builtin, Sem.run_bind, Sem.run_pure, Result.andThen_ok, List.map_toArray, List.map_cons, List.map_nil, hs, hx, hrun]
  exact hK' _ _ (hK v' w' r1 r2)
end Go.Proofs.Ytdhgffnlocgfkaa
