/- Contracts of Change, Remove, Least, Pop, Key, Len. -/
/- Contracts of New; the document's example. -/
/- Rows of ints of a call's own; an append to one; the reference's Ints; clones. -/
/- Contracts of Copy and All. -/
/- Contracts of num's Sub and of Lower. -/
import Derived.Test.YtlnfabjgcecebaaGreatJ8
import Derived.Deep.RegionLaw
namespace Go.Proofs.YtlnfabjgcecebaaGreat.Hp
open Go.RowKit

/-- The first of the list, or nothing. -/
def fstI (q : List Th) : Int := match q with | [] => 0 | p :: _ => (p.1 : Int)
def fstK (q : List Th) : Int := match q with | [] => 0 | p :: _ => p.2
def fstB (q : List Th) : Bool := match q with | [] => false | _ :: _ => true

section
variable {w : World} {B N : Nat} {T : List Nat} {q : List Th}

theorem lenq_any (h : HQ w B T N q) : Calls Tryz.prog 68 #[.pointer (some ⟨B, 0, none⟩)] w fun e w' => e = .returned (.int .i64 (q.length : Nat)) ∧ w' = w := by
  obtain ⟨G, k, v, xs, pl, rfl, hm, hR⟩ := h
  rw [← hR.len]
  exact len_any hm

theorem taken {G k H c : Nat} (n : Nat) {q' : List Th} {w' : World} {ys : List Th} {pl' : List Int} (h : HM w' B G k N (.slice (some ⟨H, 0, none⟩) (n - 1) c) ys pl') (hr : Rep N ys pl' q') (hb : But [B, G, H] w w') : ∃ T', HQ w' B T' N q' ∧ Step (bks B G (.slice (some ⟨H, 0, none⟩) n c)) w T' w' :=
  ⟨_, ⟨G, k, _, ys, pl', rfl, h, hr⟩, hb.mono bks_BGH, fun _ hx => .inl hx⟩

set_option maxHeartbeats 2000000 in
theorem remove_any (h : HQ w B T N q) (t : Int) :
    Calls Tryz.prog 53 #[.pointer (some ⟨B, 0, none⟩), .int .i64 t] w fun e w' => e = .returned (.int .i64 (askE N q t true 4)) ∧ ∃ T', HQ w' B T' N (remS N q t) ∧ Step T w T' w' := by
  obtain ⟨G, k, v, xs, pl, rfl, hm, hR⟩ := h
  have HA := ask_any hm hR t true 4
  unfold remS
  by_cases hz : askE N q t true 4 = 0
  · rw [if_pos hz]
    rw [hz] at HA ⊢
    obtain ⟨_, -, -, hb⟩ := askE_zero (by decide) hz
    obtain ⟨id, i, ky, rfl, hid, hi, hpl, -⟩ := hR.at' hb
    have hlt := (List.getElem?_eq_some_iff.1 hi).1
    obtain ⟨sa, c, rfl, hs, -⟩ := hm.sl
    obtain ⟨H, rfl, _⟩ := hs (by omega)
    have c0 := hm.c0
    have c1 := hm.c1
    have cx := hm.x hpl
    have TK := take_any hm hR.pls hR.hp hlt
    rw [gx_of hi] at TK
    have HI : ∀ ys pl', Pls N ys pl' → Hp le (gx ys) ys.length → xs.Perm ((id, ky) :: ys) → Rep N ys pl' (remq q (id : Int)) := fun ys pl' a b c => hR.remq a b c
    have hid' : (id : Int) < (N : Int) := by omega
    clear hz hb hR hi hpl
    generalize remq q (id : Int) = q' at *
    go_enter Tryz.func53, Tryz.ntmps53
    go_wp2_with (first
      | (go_at_call 78; refine HA.mono ?_; rintro e w1 ⟨rfl, hw⟩; subst w1)
      | (go_at_call 74; refine TK.mono ?_; rintro e w5 ⟨rfl, ⟨zs, pl5, h5, p5, pm5, hp5⟩, b5⟩))
    go_ret
    exact ⟨rfl, taken _ h5 (HI _ _ p5 hp5 pm5) b5⟩
  · rw [if_neg hz]
    generalize askE N q t true 4 = e at *
    have hz' : (e == 0) = false := by simpa using hz
    go_enter Tryz.func53, Tryz.ntmps53
    go_wp2_with (first
      | (go_at_call 78; refine HA.mono ?_; rintro e w1 ⟨rfl, hw⟩; subst w1))
    go_ret
    exact ⟨rfl, _, ⟨G, k, v, xs, pl, rfl, hm, hR⟩, Step.refl _ _⟩

set_option maxHeartbeats 1000000 in
theorem least_any (h : HQ w B T N q) :
    Calls Tryz.prog 73 #[.pointer (some ⟨B, 0, none⟩)] w fun e w' => e = .returned (.tuple #[.int .i64 (fstI q), .int .i64 (fstK q), .bool (fstB q)]) ∧ Drawn w w' := by
  have HL := lenq_any h
  obtain ⟨G, k, v, xs, pl, rfl, hm, hR⟩ := h
  cases q with
  | nil =>
    go_enter Tryz.func73, Tryz.ntmps73
    go_wp2_with (first
      | (go_at_call 68; refine HL.mono ?_; rintro e w1 ⟨rfl, hw⟩; subst w1))
    go_ret3
    exact ⟨rfl, Drawn.refl _⟩
  | cons p r =>
    have hf := hR.first rfl
    have hlt := (List.getElem?_eq_some_iff.1 hf).1
    obtain ⟨sa, c, rfl, hs, -⟩ := hm.sl
    obtain ⟨H, rfl, _⟩ := hs (by omega)
    have c0 := hm.c0
    have t0 := hm.t0 hf
    have t1 := hm.t1 hf
    rw [Nat.zero_mul] at t0 t1
    have c60 := cells60
    have hlt' : (0 : Int) < (xs.length : Int) := by omega
    have hlr : (((p :: r).length : Nat) : Int) ≠ 0 := by simp; omega
    obtain ⟨n, hn⟩ : ∃ n, (p :: r).length = n := ⟨_, rfl⟩
    rw [hn] at HL hlr
    have hlr' : ((n : Int) == 0) = false := by simpa using hlr
    clear hR hf hn
    go_enter Tryz.func73, Tryz.ntmps73
    go_wp2_with (first
      | (go_at_call 68; refine HL.mono ?_; rintro e w1 ⟨rfl, hw⟩; subst w1))
    go_quiet (fail)
    go_wp2_with fail
    go_ret3
    exact ⟨rfl, ⟨_, rfl⟩⟩

theorem key_any (h : HQ w B T N q) (t : Int) :
    Calls Tryz.prog 66 #[.pointer (some ⟨B, 0, none⟩), .int .i64 t] w fun e w' => e = .returned (.tuple #[.int .i64 (keyV q t), .bool (hasB q t)]) ∧ Drawn w w' := by
  obtain ⟨G, k, v, xs, pl, rfl, hm, hR⟩ := h
  have HH := has_any hm hR t
  cases hb : hasB q t with
  | false =>
    rw [keyV_none hb]
    rw [hb] at HH
    go_enter Tryz.func66, Tryz.ntmps66
    go_wp2_with (first
      | (go_at_call 88; refine HH.mono ?_; rintro e w1 ⟨rfl, hw⟩; subst w1))
    go_ret2
    exact ⟨rfl, Drawn.refl _⟩
  | true =>
    rw [hb] at HH
    obtain ⟨id, i, ky, rfl, hid, hi, hpl, hk⟩ := hR.at' hb
    rw [hk]
    have hlt := (List.getElem?_eq_some_iff.1 hi).1
    obtain ⟨sa, c, rfl, hs, -⟩ := hm.sl
    obtain ⟨H, rfl, _⟩ := hs (by omega)
    have c0 := hm.c0
    have c1 := hm.c1
    have cx := hm.x hpl
    have t1 := hm.t1 hi
    have c60 := cells60
    have hid' : (id : Int) < (N : Int) := by omega
    have hlt' : (i : Int) < (xs.length : Int) := by omega
    have hid0 : (0 : Int) ≤ (id : Int) := by omega
    have hlt0 : (0 : Int) ≤ (i : Int) := by omega
    clear hR hi hpl hb hk
    go_enter Tryz.func66, Tryz.ntmps66
    go_wp2_with (first
      | (go_at_call 88; refine HH.mono ?_; rintro e w1 ⟨rfl, hw⟩; subst w1))
    go_quiet (fail)
    go_wp2_with fail
    go_ret2
    exact ⟨rfl, ⟨_, rfl⟩⟩

set_option maxHeartbeats 1000000 in
theorem pop_any (h : HQ w B T N q) :
    Calls Tryz.prog 46 #[.pointer (some ⟨B, 0, none⟩)] w fun e w' => e = .returned (.tuple #[.int .i64 (fstI q), .int .i64 (fstK q), .bool (fstB q)]) ∧ ∃ T', HQ w' B T' N q.tail ∧ Step T w T' w' := by
  have HL := least_any h
  cases q with
  | nil =>
    go_enter Tryz.func46, Tryz.ntmps46
    go_wp2_with (first
      | (go_at_call 73; refine HL.mono ?_; rintro e w1 ⟨rfl, hd⟩))
    go_ret3
    exact ⟨rfl, T, h.keep hd.but, Step.keep hd.but⟩
  | cons p r =>
    have HTK : ∀ W, Drawn w W → Calls Tryz.prog 74 #[.pointer (some ⟨B, 0, none⟩), .int .i64 0] W fun e w' => e = .returned (.tuple #[]) ∧ ∃ T', HQ w' B T' N r ∧ Step T W T' w' := fun W hW => by
      obtain ⟨G, k, v, xs, pl, rfl, hm, hR⟩ := h.keep hW.but
      have hf := hR.first rfl
      have hlt := (List.getElem?_eq_some_iff.1 hf).1
      obtain ⟨sa, c, rfl, hs, -⟩ := hm.sl
      obtain ⟨H, rfl, _⟩ := hs (by omega)
      have TK := take_any hm hR.pls hR.hp hlt
      rw [gx_of hf] at TK
      exact TK.mono fun e w' ⟨he, ⟨zs, pl5, h5, p5, pm5, hp5⟩, b5⟩ => ⟨he, taken _ h5 (hR.tail rfl p5 hp5 pm5) b5⟩
    have e1 : fstB (p :: r) = true := rfl
    rw [e1] at HL ⊢
    rw [List.tail_cons]
    generalize fstI (p :: r) = i at *
    generalize fstK (p :: r) = y at *
    go_enter Tryz.func46, Tryz.ntmps46
    go_wp2_with (first
      | (go_at_call 73; refine HL.mono ?_; rintro e w1 ⟨rfl, hd⟩)
      | (go_at_call 74; refine (HTK _ hd).mono ?_; rintro e w2 ⟨rfl, T2, h2, s2⟩))
    go_ret3
    exact ⟨rfl, T2, h2, (Step.keep hd.but).trans s2⟩
end

end Go.Proofs.YtlnfabjgcecebaaGreat.Hp
namespace Go.Proofs.YtlnfabjgcecebaaGreat.Hp
open Go.RowKit

theorem info3 : (Tryz.prog.info? 3).map (fun i => (i.zero, i.size, i.bytes)) = some (some (.int .i64 0), 1, 8) := by kernel_rfl

theorem mk_int (n : Nat) (hn : n ≤ 8192) (W : World) : (Instr.makeSlice 59 (.int .i64 n) (.int .i64 n)).run Tryz.prog W = .ok (.slice (some ⟨W.heap.size, 0, none⟩) n n) (W.alloc (.cells (madeCells #[.int .i64 0] n) 3)) := by
  obtain ⟨i0, hi, hz0, hz1, hz2⟩ := info_parts info3
  have h := run_make (P := Tryz.prog) W 59 3 i0 (.int .i64 0) Tryz.underlying59 hi hz0 .i64 .i64 n n (by omega) (Int.le_refl _) (by rw [hz2]; omega) (by omega)
  simpa [hz1, show (Value.int .i64 0).cells = #[.int .i64 0] from rfl] using h

theorem new_none (a : Int) (hm : inN 4096 (a - 1) = false) (w : World) :
    Calls Tryz.prog 11 #[.int .i64 a] w fun e w' => e = .returned (.pointer none) ∧ w' = w := by
  unfold inN at hm
  simp at hm
  by_cases h1 : a < 1
  · go_enter Tryz.func11, Tryz.ntmps11
    go_wp2_with fail
    go_ret
    exact ⟨rfl, rfl⟩
  · have h2 : 4096 < a := by omega
    go_enter Tryz.func11, Tryz.ntmps11
    go_wp2_with fail
    go_ret
    exact ⟨rfl, rfl⟩

theorem set_range {α : Type} {n : Nat} {f g : Nat → α} {i : Nat} {v : α} (h1 : ∀ x, x ≠ i → g x = f x) (h2 : g i = v) : ((List.range n).map f).set i v = (List.range n).map g := by
  apply List.ext_getElem?
  intro k
  by_cases hk : k < n
  · by_cases e : k = i
    · subst e
      rw [List.getElem?_set_self (by simpa using hk)]
      simp [hk, h2]
    · rw [List.getElem?_set_ne (Ne.symm e)]
      simp [hk, h1 k e]
  · rw [List.getElem?_eq_none (by simp; omega), List.getElem?_eq_none (by simp; omega)]
/-- The places on the way, behind j ids. -/
def wh0 (N j : Nat) : List Int := (List.range N).map (fun t => if t < j then -1 else 0)
theorem wh0_set (N j : Nat) : (wh0 N j).set j (-1) = wh0 N (j + 1) := set_range (fun x hx => by
  by_cases h : x < j
  · rw [if_pos h, if_pos (by omega)]
  · rw [if_neg h, if_neg (by omega)]) (by rw [if_pos (by omega)])
theorem wh0_end (N : Nat) : wh0 N N = List.replicate N (-1) := by
  apply List.ext_getElem?
  intro k
  by_cases hk : k < N
  · rw [List.getElem?_replicate_of_lt hk]
    simp [wh0, hk]
  · rw [List.getElem?_eq_none (by simp [wh0]; omega), List.getElem?_eq_none (by simp; omega)]
theorem zero_wh (N : Nat) : (wh0 N 0).map (Value.int .i64) = List.replicate N (.int .i64 0) := by
  apply List.ext_getElem?
  intro k
  by_cases hk : k < N
  · rw [List.getElem?_replicate_of_lt hk]
    simp [wh0, hk]
  · rw [List.getElem?_eq_none (by simp [wh0]; omega), List.getElem?_eq_none (by simp; omega)]
theorem row_made {W : World} {G n : Nat} {vs : List Value} (h : W.heap[G]? = some (.cells (madeCells #[.int .i64 0] n) 3)) (e : vs = List.replicate n (.int .i64 0)) : Row W G 3 vs := by
  refine ⟨_, h, fun j v hv => ?_⟩
  rw [e] at hv
  rw [← Array.getElem?_toList, toList_madeCells_one]
  exact hv

theorem HM.setP {w : World} {B G k N : Nat} {v : Value} {xs : List Th} {pl : List Int} (h : HM w B G k N v xs pl) (j : Nat) (x : Int) : HM (w.setCell ⟨G, j, none⟩ (.int .i64 x)) B G k N v xs (pl.set j x) := by
  refine ⟨(Below.heap_setCell w ⟨G, j, none⟩ _ B h.bg).trans h.b, ownsRow_put h.h (fun y hy => Below.heap_setCell w ⟨G, j, none⟩ _ y (fun e => h.vg (by rw [hy, e]))), ?_, h.bg, h.vb, h.vg, h.n1, h.n2⟩
  rw [List.map_set]
  exact h.g.set j _

theorem hm_new (w : World) (N : Nat) (h1 : 1 ≤ N) (h2 : N ≤ 4096) : HM ((w.alloc (.cells (madeCells #[.int .i64 0] N) 3)).alloc (.cells #[.slice none 0 0, .slice (some ⟨w.heap.size, 0, none⟩) N N] 63)) (w.heap.size + 1) w.heap.size N N (.slice none 0 0) [] (wh0 N 0) := by
  refine ⟨?_, World.ownsRow_nil _ _ _ _, row_made ?_ (zero_wh N), by omega, (fun e => by cases e), (fun e => by cases e), h1, h2⟩
  · have := heap_alloc_new (w.alloc (.cells (madeCells #[.int .i64 0] N) 3)) (.cells #[.slice none 0 0, .slice (some ⟨w.heap.size, 0, none⟩) N N] 63)
    rwa [World.size_alloc] at this
  · rw [Below.heap_alloc _ _ _ (by simp), heap_alloc_new]

set_option maxHeartbeats 1000000 in
theorem new_some (N : Nat) (h1 : 1 ≤ N) (h2 : N ≤ 4096) (w : World) :
    Calls Tryz.prog 11 #[.int .i64 N] w fun e w' => ∃ B T, e = .returned (.pointer (some ⟨B, 0, none⟩)) ∧ HQ w' B T N [] ∧ Step [] w T w' := by
  have m1 := mk_int N (by omega)
  have hm := hm_new w N h1 h2
  have hb : But [] w ((w.alloc (.cells (madeCells #[.int .i64 0] N) 3)).alloc (.cells #[.slice none 0 0, .slice (some ⟨w.heap.size, 0, none⟩) N N] 63)) := ((But.refl [] w).alloc _).alloc _
  have a1 : (1 : Int) ≤ (N : Int) := by omega
  have a2 : (N : Int) ≤ 4096 := by omega
  go_enter Tryz.func11, Tryz.ntmps11
  go_wp2_with fail
  go_loopw [16, 4] (fun v _ wr => ∃ j : Nat, j ≤ N ∧ v = .int .i64 j ∧ HM wr (w.heap.size + 1) w.heap.size N N (.slice none 0 0) [] (wh0 N j) ∧ But [] w wr) (fun v _ _ => 4096 - (intOf v).toNat)
  case atStart => exact ⟨0, by omega, rfl, hm, hb⟩
  case round =>
    clear hm hb m1
    obtain ⟨j, hj, rfl, hm, hb⟩ := hrel
    have c1 := hm.c1
    by_cases hlt : j < N
    · obtain ⟨y, hy⟩ : ∃ y, (wh0 N j)[j]? = some y := ⟨_, List.getElem?_eq_getElem (by simpa [wh0] using hlt)⟩
      have cy := hm.x hy
      have fy := hm.g.fz j
      have hlt' : (j : Int) < (N : Int) := by omega
      go_wp2_with fail
      go_roundw
      case rel =>
        have h3 := hm.setP j (-1)
        rw [wh0_set] at h3
        exact ⟨j + 1, by omega, by simp, h3, hb.trans_new ((But.refl [w.heap.size] _).set (p := ⟨w.heap.size, j, none⟩) (by simp) _) (by simp)⟩
      case measure =>
        simp [intOf]
        omega
    · obtain rfl : N = j := by omega
      go_wp2_with fail
      go_ret
      rw [wh0_end N] at hm
      refine ⟨_, _, rfl, ⟨_, _, _, _, _, rfl, hm, Rep.nil N⟩, hb, fun x hx => .inr ?_⟩
      simp [bks, Value.ownBlock] at hx
      omega


end Go.Proofs.YtlnfabjgcecebaaGreat.Hp
namespace Go.Proofs.YtlnfabjgcecebaaGreat.Hp
open Go.RowKit

/-- A slice of ints that the call made. -/
def RowI (w : World) (base : Nat) (v : Value) (xs : List Int) : Prop := w.ownsRow base 3 1 v xs.length (xs.map (Value.int .i64))
theorem row_lower {W : World} {b b' : Nat} {v : Value} {k : Nat} {xs : List Value} (h : W.ownsRow b' 3 1 v k xs) (hb : b ≤ b') : W.ownsRow b 3 1 v k xs :=
  ⟨h.1, h.2.imp id (fun ⟨g, cap, cur, h1, h2, h3⟩ => ⟨g, cap, cur, h1, by omega, h3⟩)⟩

section
variable {w w' : World} {q : List Int}
theorem RowI.but {S : List Nat} {base : Nat} {v : Value} (h : RowI w base v q) (hb : But S w w') (hS : ∀ x ∈ S, x < base) : RowI w' base v q := by
  refine ⟨h.1, ?_⟩
  rcases h.2 with h | ⟨g, cap, cur, h1, h2, h3, h4⟩
  · exact .inl h
  · exact .inr ⟨g, cap, cur, h1, h2, (hb.block g (Array.getElem?_eq_some_iff.1 h3).1 (fun e => by have := hS g e; omega)).trans h3, h4⟩
theorem RowI.below {base : Nat} {v : Value} (h : RowI w base v q) (hb : Below w.heap.size w w') : RowI w' base v q := h.but (S := []) (.of_below hb) (by simp)
theorem RowI.shape {base : Nat} {v : Value} (h : RowI w base v q) : ∃ a c, v = .slice a q.length c ∧ q.length ≤ c ∧ c ≤ maxLen ∧ (a = none → c = 0) ∧ ∀ j x, q[j]? = some x → ∃ g, a = some ⟨g, 0, none⟩ ∧ w.cell? ⟨g, j, none⟩ = some (.int .i64 x) := by
  have h' := h
  rcases h.2 with ⟨rfl, h0⟩ | ⟨g, cap, cur, rfl, hg, hb, hc, hm, _⟩
  · exact ⟨none, 0, by rw [h0], by omega, by unfold maxLen; omega, fun _ => rfl, fun j x hx => by have := (List.getElem?_eq_some_iff.1 hx).1; omega⟩
  · refine ⟨_, cap, rfl, hc, hm, (fun e => (by cases e)), fun j x hx => ⟨g, rfl, ?_⟩⟩
    have hj := (List.getElem?_eq_some_iff.1 hx).1
    have := World.ownsRow.cellAt h' j (by omega)
    rw [this, List.getElem?_map, hx]
    rfl
end

/-- A slice's numbers can be read. -/
def Reads (w : World) (sp : Option Addr) (c : Nat) (xs : List Int) : Prop := (sp = none ∧ c = 0 ∧ xs = []) ∨ ∃ ad, sp = some ad ∧ ∀ j x, xs[j]? = some x → w.cell? (ad.add j) = some (.int .i64 x)

theorem run_app {w : World} {base : Nat} {v : Value} {k : Nat} {xs : List Int} {ty : TypeId} (hown : w.ownsRow base 3 1 v k (xs.map (Value.int .i64))) {sp : Option Addr} {m c : Nat} {news : List Int} (hl : news.length = m) (hr : Reads w sp c news)
    (hk : k + m ≤ 100000) (hb : base ≤ w.heap.size) :
    ∃ v' w', (Builtin.append_ #[59, 59] ty #[v, .slice sp m c]).run Tryz.prog w = .ok v' w' ∧ w'.ownsRow base 3 1 v' (k + m) ((xs ++ news).map (Value.int .i64)) ∧ w.grownBy w' v.ownBlock := by
  obtain ⟨i0, hi, hz0, hz1, hz2⟩ := info_parts info3
  rcases hr with ⟨rfl, rfl, rfl⟩ | ⟨ad, rfl, hc⟩
  · obtain rfl : m = 0 := by simpa using hl.symm
    refine ⟨v, w, run_append_owned_none w base 59 ty 3 i0 1 Tryz.underlying59 hi v k _ hown, by simpa using hown, ⟨rfl, rfl, rfl, Nat.le_refl _, fun _ _ _ => rfl⟩⟩
  · obtain ⟨v', w', h1, h2, h3, _⟩ := run_append_own (P := Tryz.prog) w base 59 ty 3 i0 (.int .i64 0) 1 8 Tryz.underlying59 hi hz0 hz1 hz2 rfl (by decide) v k _ hown ad m c (news.map (Value.int .i64)) (by simpa using hl)
      (fun j u hu => by rw [List.getElem?_map] at hu; obtain ⟨x, hx, rfl⟩ := Option.map_eq_some_iff.1 hu; exact hc j x hx) (fun u hu => by obtain ⟨x, _, rfl⟩ := List.mem_map.1 hu; rfl) (by unfold maxLen; omega) (by omega) hb
    exact ⟨v', w', h1, by rw [List.map_append]; exact h2, h3⟩

theorem wpList_app {w : World} {ops : Array Oper} {rest : List Oper} {o : Oper} {a : Act} {Q : Exit → Act → World → Prop} (hg : o.guard = none) (s x : Operand) (hop : o.op = Op.call { callee := Callee.builtin Builtin.append, args := #[s, x], argTypes := #[59, 59] })
    (base : Nat) (v : Value) (k : Nat) (xs : List Int) (hs : a.eval s = v) (hown : w.ownsRow base 3 1 v k (xs.map (Value.int .i64))) (sp : Option Addr) (m c : Nat) (news : List Int) (hx : a.eval x = .slice sp m c) (hl : news.length = m) (hr : Reads w sp c news)
    (hk : k + m ≤ 100000) (hb : base ≤ w.heap.size)
    (hK : ∀ v' w', w'.ownsRow base 3 1 v' (k + m) ((xs ++ news).map (Value.int .i64)) → w.grownBy w' v.ownBlock → wpList Tryz.prog ops Q rest (a.put o.dst v') w') :
    wpList Tryz.prog ops Q (o :: rest) a w := by
  refine wpList_plain hg fun K hK' => ?_
  obtain ⟨v', w', hrun, r1, r2⟩ := run_app (ty := o.type) hown hl hr hk hb
  unfold Oper.wp
  simp [execOp, hop, resolve, invoke, builtin, hs, hx, hrun, Result.andThen]
  exact hK' _ _ (hK v' w' r1 r2)

theorem step_app {w : World} {ops : Array Oper} {o : Oper} {a : Act} {K : Act → World → Prop} {Q : Exit → Act → World → Prop} {E : Prop} (hg : o.guard = none) (s x : Operand) (hop : o.op = Op.call { callee := Callee.builtin Builtin.append, args := #[s, x], argTypes := #[59, 59] })
    (base : Nat) (v : Value) (k : Nat) (xs : List Int) (hs : a.eval s = v) (hown : w.ownsRow base 3 1 v k (xs.map (Value.int .i64))) (sp : Option Addr) (m c : Nat) (news : List Int) (hx : a.eval x = .slice sp m c) (hl : news.length = m) (hr : Reads w sp c news)
    (hk : k + m ≤ 100000) (hb : base ≤ w.heap.size)
    (hK : ∀ v' w', w'.ownsRow base 3 1 v' (k + m) ((xs ++ news).map (Value.int .i64)) → w.grownBy w' v.ownBlock → K (a.put o.dst v') w') :
    if Region.wanted o (yielded ops a.tmps) = true then Oper.wp Tryz.prog o a w K Q else E := by
  have hw : Region.wanted o (yielded ops a.tmps) = true := by simp [Region.wanted, hg]
  rw [if_pos hw]
  obtain ⟨v', w', hrun, r1, r2⟩ := run_app (ty := o.type) hown hl hr hk hb
  unfold Oper.wp
  simp [execOp, hop, resolve, invoke, builtin, hs, hx, hrun, Result.andThen]
  exact hK v' w' r1 r2

theorem own_shape {w : World} {base k : Nat} {v : Value} {xs : List Value} (h : w.ownsRow base 3 1 v k xs) : ∃ a c, v = .slice a k c := by
  rcases h.2 with ⟨rfl, h0⟩ | ⟨g, cap, cur, rfl, _⟩
  · exact ⟨none, 0, by rw [h0]⟩
  · exact ⟨_, cap, rfl⟩
theorem But.grown {S : List Nat} {a b c : World} {row : Option Nat} (h : But S a b) (hg : b.grownBy c row) (hr : ∀ k, row = some k → a.heap.size ≤ k) : But S a c :=
  ⟨hg.os.trans h.os, hg.tape.trans h.tape, hg.output.trans h.output, Nat.le_trans h.size hg.size, fun k hk hs =>
    (hg.block k (Nat.lt_of_lt_of_le hk h.size) (fun e => by have := hr k e.symm; omega)).trans (h.block k hk hs)⟩
theorem Reads.but {w w' : World} {sp : Option Addr} {c : Nat} {xs : List Int} (h : Reads w sp c xs) (hb : But [] w w') : Reads w' sp c xs :=
  h.imp id (fun ⟨ad, e, hc⟩ => ⟨ad, e, fun j x hx => hb.cell (hc j x hx)⟩)
theorem reads_one (w : World) (x : Int) : Reads (w.alloc (.cells #[.int .i64 x] 3)) (some ⟨w.heap.size, 0, none⟩) 1 [x] := by
  refine .inr ⟨_, rfl, fun j y hj => ?_⟩
  cases j with
  | zero =>
    simp at hj
    subst hj
    simp [Addr.add, go_sem]
  | succ j => simp at hj
theorem own_none (w : World) : (w.alloc (.cells #[] 3)).ownsRow w.heap.size 3 1 (.slice (some ⟨w.heap.size, 0, none⟩) 0 0) 0 (([] : List Int).map (Value.int .i64)) := by
  have := World.ownsRow_lit (base := w.heap.size) (e := 3) (size := 1) w #[] 0 (Nat.le_refl _) (Nat.zero_le _) rfl
  exact this
theorem own_one (w : World) (x : Int) : (w.alloc (.cells #[.int .i64 x] 3)).ownsRow w.heap.size 3 1 (.slice (some ⟨w.heap.size, 0, none⟩) 1 1) 1 ([x].map (Value.int .i64)) := by
  have := World.ownsRow_lit (base := w.heap.size) (e := 3) (size := 1) w #[.int .i64 x] 1 (Nat.le_refl _) (by unfold maxLen; omega) rfl
  exact this
/-- A slice's numbers, from its block's first cell on. -/
def IntsR (w : World) (a : Option Addr) (xs : List Int) : Prop := ∀ j x, xs[j]? = some x → ∃ g, a = some ⟨g, 0, none⟩ ∧ w.cell? ⟨g, j, none⟩ = some (.int .i64 x)
theorem RowI.open' {w : World} {base : Nat} {v : Value} {q : List Int} (h : RowI w base v q) : ∃ a c, v = .slice a q.length c ∧ IntsR w a q := by
  obtain ⟨a, c, e, _, _, _, hx⟩ := h.shape
  exact ⟨a, c, e, hx⟩

set_option maxHeartbeats 1000000 in
theorem ints_any (a b : Option Addr) (c d : Nat) (xs : List Int) (w : World) (hn : xs.length ≤ 4096) (ha : IntsR w a xs) (hb : IntsR w b xs) :
    Calls Tryz.prog 39 #[.slice a xs.length c, .slice b xs.length d] w fun e w' => e = .returned (.bool true) ∧ Below w.heap.size w w' := by
  go_enter Tryz.func39, Tryz.ntmps39
  go_wp2_with fail
  go_loopw [13, 5] (fun q _ wr => ∃ j : Nat, j ≤ xs.length ∧ q = .int .i64 j ∧ Drawn w wr) (fun q _ _ => 4096 - (intOf q).toNat)
  case atStart => exact ⟨0, by omega, rfl, Drawn.refl _⟩
  case round =>
    obtain ⟨j, hj, rfl, hB⟩ := hrel
    by_cases hlt : j < xs.length
    · obtain ⟨g1, rfl, hc1⟩ := ha j (xs[j]) (by simp)
      obtain ⟨g2, rfl, hc2⟩ := hb j (xs[j]) (by simp)
      generalize xs[j] = x at hc1 hc2
      replace hc1 := (Drawn.but (S := []) hB).cell hc1
      replace hc2 := (Drawn.but (S := []) hB).cell hc2
      have h1 : (j : Int) < (xs.length : Int) := by omega
      have h0 : (0 : Int) ≤ (j : Int) := by omega
      go_wp2_with fail
      go_quiet (fail)
      go_wp2_with fail
      go_roundw
      case rel => exact ⟨j + 1, by omega, by simp, hB.trans ⟨nq, rfl⟩⟩
      case measure =>
        simp [intOf]
        omega
    · obtain rfl : j = xs.length := by omega
      go_wp2_with fail
      go_ret
      exact ⟨rfl, (Drawn.but (S := []) hB).below (Nat.le_refl _) (by simp)⟩


theorem RowI.reads {w : World} {lo : Nat} {a : Option Addr} {c l : Nat} {q : List Int} (h : RowI w lo (.slice a l c) q) : Reads w a c q := by
  obtain ⟨a', c', e, _, _, hn, hx⟩ := h.shape
  simp only [Value.slice.injEq] at e
  obtain ⟨rfl, rfl, rfl⟩ := e
  cases a with
  | none =>
    refine .inl ⟨rfl, hn rfl, ?_⟩
    cases q with
    | nil => rfl
    | cons y t => obtain ⟨g, e, _⟩ := hx 0 y rfl; cases e
  | some ad =>
    refine .inr ⟨ad, rfl, fun j x hj => ?_⟩
    obtain ⟨g, e, hc⟩ := hx j x hj
    cases e
    rw [WideShapes.add_plain, Nat.zero_add]
    exact hc

theorem IntsR.below {w w' : World} {a : Option Addr} {xs : List Int} (h : IntsR w a xs) (hb : Below w.heap.size w w') : IntsR w' a xs := fun j x hx => by
  obtain ⟨g, e, hc⟩ := h j x hx
  exact ⟨g, e, cell_on hb hc⟩

theorem RowI.at {W : World} {base n : Nat} {a : Option Addr} {c : Nat} {xs : List Int} (h : RowI W base (.slice a n c) xs) : IntsR W a xs := by
  obtain ⟨a', c', e, hi⟩ := h.open'
  injection e with h1 h2 h3
  subst h1
  exact hi

theorem eql_s52 (a : Addr) (n c : Nat) (W : World) : Sem.run Tryz.prog (binOp .eql 61 (.slice (some a) n c) (.slice none 0 0)) W = .ok (.bool false) W := by kernel_rfl
theorem eql_n52 (W : World) : Sem.run Tryz.prog (binOp .eql 61 (.slice none 0 0) (.slice none 0 0)) W = .ok (.bool true) W := by kernel_rfl
theorem eql_s32 (a : Addr) (n c : Nat) (W : World) : Sem.run Tryz.prog (binOp .eql 59 (.slice (some a) n c) (.slice none 0 0)) W = .ok (.bool false) W := by kernel_rfl

theorem clone_int {W : World} {G c n : Nat} {zs : List Int} (h : Row W G 3 (zs.map (Value.int .i64))) (hl : zs.length = n) (h1 : 1 ≤ n) (hn : n ≤ 8192) :
    Calls Tryz.prog 63 #[.slice (some ⟨G, 0, none⟩) n c] W fun e w' => ∃ H d, e = .returned (.slice (some ⟨H, 0, none⟩) n d) ∧ Row w' H 3 (zs.map (Value.int .i64)) ∧ W.heap.size ≤ H ∧ Below W.heap.size W w' := by
  have OW := own_none W
  have HR : Reads (W.alloc (.cells #[] 3)) (some ⟨G, 0, none⟩) c zs := .inr ⟨_, rfl, fun j x hx => by
    rw [WideShapes.add_plain, Nat.zero_add]
    exact ((But.refl [] W).alloc _).cell (h.cell (by rw [List.getElem?_map, hx]; rfl))⟩
  have eq := eql_s32 ⟨G, 0, none⟩ n c
  go_enter Tryz.func63, Tryz.ntmps63
  go_wp2_with (first
    | (at_builtin; refine wpList_app rfl _ _ rfl W.heap.size _ 0 [] rfl OW _ _ _ zs rfl hl HR (by omega) (by simp) ?_; intro v2 w2 ho2 hg2; have hb2 : But [] W w2 := ((But.refl [] W).alloc _).grown hg2 (fun k e => by cases e; exact Nat.le_refl _)))
  go_ret
  rw [List.nil_append, Nat.zero_add] at ho2
  rcases ho2.2 with ⟨_, h0⟩ | ⟨g, cap, cur, rfl, hg, hc, h3, _, _, h6⟩
  · omega
  · refine ⟨g, cap, rfl, ⟨cur, hc, fun j v hv => ?_⟩, hg, hb2.to_below⟩
    have hj := (List.getElem?_eq_some_iff.1 hv).1
    rw [List.length_map, hl] at hj
    have : (cur.toList.take (n * 1))[j]? = (zs.map (Value.int .i64))[j]? := by rw [h6]
    rw [List.getElem?_take_of_lt (by omega), Array.getElem?_toList] at this
    rw [this]
    exact hv

theorem clone_thing {W : World} {v : Value} {xs : List Th} (h : W.ownsRow 0 80 2 v xs.length (flat xs)) (hn : xs.length ≤ 8192) :
    Calls Tryz.prog 62 #[v] W fun e w' => ∃ v', e = .returned v' ∧ w'.ownsRow 0 80 2 v' xs.length (flat xs) ∧ (∀ x, v'.ownBlock = some x → W.heap.size ≤ x) ∧ Below W.heap.size W w' := by
  rcases h.2 with ⟨rfl, h0⟩ | ⟨g, cap, cur, rfl, hg, hc, h3, h4, h5, h6⟩
  · have e : xs = [] := List.eq_nil_of_length_eq_zero h0
    subst e
    have eq := eql_n52
    go_enter Tryz.func62, Tryz.ntmps62
    go_wp2_with fail
    go_ret
    exact ⟨_, rfl, World.ownsRow_nil _ _ _ _, (fun x e => by cases e), Below.refl _ _⟩
  · have OW : (W.alloc (.cells #[] 80)).ownsRow 0 80 2 (.slice (some ⟨W.heap.size, 0, none⟩) 0 0) ([] : List Th).length (flat []) := World.ownsRow_lit (base := 0) (e := 80) (size := 2) W #[] 0 (Nat.zero_le _) (Nat.zero_le _) rfl
    have HR : ∀ j u, (flat xs)[j]? = some u → (W.alloc (.cells #[] 80)).cell? ((⟨g, 0, none⟩ : Addr).add j) = some u := fun j u hu => ((But.refl [] W).alloc _).cell (h.cells rfl j u hu)
    clear h h3 h4 h5 h6 hc
    have eq := eql_s52 ⟨g, 0, none⟩ xs.length cap
    go_enter Tryz.func62, Tryz.ntmps62
    go_wp2_with (first
      | (at_builtin; refine wpList_appT rfl _ _ rfl (.slice (some ⟨W.heap.size, 0, none⟩) 0 0) [] rfl OW _ _ _ xs rfl rfl HR (by simp; omega) ?_; intro v2 w2 ho2 hg2 hv2))
    go_ret
    rw [List.nil_append, List.length_nil, Nat.zero_add] at ho2
    refine ⟨v2, rfl, ho2, fun x hx => ?_, (((But.refl [] W).alloc _).grown hg2 (fun k e => by cases e; exact Nat.le_refl _)).to_below⟩
    rcases hv2 with e | e
    · rw [e] at hx
      cases hx
      exact Nat.le_refl _
    · rw [e] at hx
      cases hx
      simp

end Go.Proofs.YtlnfabjgcecebaaGreat.Hp
namespace Go.Proofs.YtlnfabjgcecebaaGreat.Hp
open Go.RowKit

/-- The ids in order. -/
def idsL (q : List Th) : List Int := q.map (fun p => (p.1 : Int))
theorem idsL_len (q : List Th) : (idsL q).length = q.length := by simp [idsL]

theorem own_sh {w : World} {v : Value} {n : Nat} {vs : List Value} (h : w.ownsRow 0 80 2 v n vs) : ∃ a c, v = .slice a n c := by
  rcases h.2 with ⟨rfl, h0⟩ | ⟨g, cap, cur, rfl, _⟩
  · exact ⟨none, 0, by rw [h0]⟩
  · exact ⟨_, cap, rfl⟩
theorem two_on {W W' : World} (hb : Below W.heap.size W W') {a0 a1 : Addr} {v0 v1 : Value} (h : W.cell? a0 = some v0 ∧ W.cell? a1 = some v1) : W'.cell? a0 = some v0 ∧ W'.cell? a1 = some v1 := ⟨cell_on hb h.1, cell_on hb h.2⟩

section
variable {w : World} {B N : Nat} {T : List Nat} {q : List Th}

set_option maxHeartbeats 2000000 in
theorem copy_any (h : HQ w B T N q) :
    Calls Tryz.prog 32 #[.pointer (some ⟨B, 0, none⟩)] w fun e w' => ∃ B2 T2, e = .returned (.pointer (some ⟨B2, 0, none⟩)) ∧ HQ w' B2 T2 N q ∧ Step [] w T2 w' := by
  obtain ⟨G, k, v, xs, pl, rfl, hm, hR⟩ := h
  obtain ⟨va, vc, rfl, -⟩ := hm.sl
  have hM := made_any hm
  have hz1 := hm.n1
  have hz2 := hm.n2
  have hxl : xs.length ≤ 4096 := Nat.le_trans hR.pls.short hm.n2
  have CT : ∀ W, HM W B G k N (.slice va xs.length vc) xs pl → _ := fun W h => clone_thing (W := W) h.h (by omega)
  have CI : ∀ W, HM W B G k N (.slice va xs.length vc) xs pl → _ := fun W h => clone_int (W := W) (c := k) (n := N) h.g hR.pls.len hz1 (by omega)
  have hS : w.cell? ⟨B, 0, none⟩ = some (.slice va xs.length vc) ∧ w.cell? ⟨B, 1, none⟩ = some (.slice (some ⟨G, 0, none⟩) N k) := ⟨hm.c0, hm.c1⟩
  have hSd := two_on ((Below.refl _ w).drew) hS
  have hmd := hm.drew
  go_enter Tryz.func32, Tryz.ntmps32
  go_wp2_with (first
    | (go_at_call 61; refine hM.mono ?_; rintro e w' ⟨rfl, hw⟩; subst w'))
  go_region_held3 (fun w' => w'.cell? ⟨B, 0, none⟩ = some (.slice va xs.length vc) ∧ w'.cell? ⟨B, 1, none⟩ = some (.slice (some ⟨G, 0, none⟩) N k)) (first | with_reducible assumption | with_reducible exact hSd | (with_reducible refine two_on ((Below.refl _ _).alloc (Nat.le_refl _) _) ?_; with_reducible assumption)) (first
    | (go_at_call 62; (with_reducible refine (CT _ hmd).mono ?_); rintro e w1 ⟨v1, rfl, r1, g1, b1⟩; obtain ⟨a1, c1, rfl⟩ := own_sh r1; have m1 := hmd.keep (.of_below b1); have k1 := two_on b1 hSd)
    | (go_at_call 63; (with_reducible refine (CI _ m1).mono ?_); rintro e w2 ⟨G2, d2, rfl, r2, g2, b2⟩; have k2 := two_on b2 k1))
  all_goals
    clear CT CI hmd m1 k1 k2 hSd hS hM
    go_wp2_with fail
    go_ret
    have l2 := r2.lt
    have s1 := b1.size
    have s2 := b2.size
    have s0 : w.drew.heap.size = w.heap.size := rfl
    have bd : Below w.heap.size w w1 := (Below.refl _ w).drew.trans b1
    have bd2 := bd.trans (b2.mono bd.size)
    have ba : Below w2.heap.size w2 (w2.alloc (.cells #[.slice a1 xs.length c1, .slice (some ⟨G2, 0, none⟩) N d2] 63)) := (Below.refl _ _).alloc (Nat.le_refl _) _
    have bd3 := bd2.trans (ba.mono bd2.size)
    have lv : ∀ x, (Value.slice a1 xs.length c1).ownBlock = some x → w.heap.size ≤ x ∧ x < w1.heap.size := fun x hx => ⟨g1 x hx, (r1.lt x hx).2⟩
    have r1' := ownsRow_put r1 (w' := w2.alloc (.cells #[.slice a1 xs.length c1, .slice (some ⟨G2, 0, none⟩) N d2] 63)) (fun x hx => by
      have := lv x hx
      rw [Below.heap_alloc _ _ _ (by omega)]
      exact b2.block x (by omega))
    refine ⟨w2.heap.size, bks w2.heap.size G2 (.slice a1 xs.length c1), rfl, ⟨G2, d2, .slice a1 xs.length c1, xs, pl, rfl, ⟨heap_alloc_new w2 _, r1', r2.put (Below.heap_alloc _ _ _ l2), by omega, (fun e => ?_), (fun e => ?_), hz1, hz2⟩, hR⟩, .of_below bd3, fun x hx => .inr ?_⟩
    · have := lv _ e
      omega
    · have := lv _ e
      omega
    · rcases bks_out hx with rfl | rfl | hx
      · omega
      · omega
      · exact (lv x hx).1

/-- The row on the way, behind i ids. -/
def allL (q : List Th) (i : Nat) : List Int := idsL (q.take i) ++ List.replicate (q.length - i) 0
theorem allL_len {q : List Th} {i : Nat} (hi : i ≤ q.length) : (allL q i).length = q.length := by
  unfold allL
  rw [List.length_append, idsL_len, List.length_take, List.length_replicate]
  omega
theorem allL_set {q : List Th} {i : Nat} {p : Th} (h : q[i]? = some p) : (allL q i).set i (p.1 : Int) = allL q (i + 1) := by
  have hi := (List.getElem?_eq_some_iff.1 h).1
  have hl : (idsL (q.take i)).length = i := by rw [idsL_len, List.length_take]; omega
  unfold allL
  rw [List.set_append_right _ _ (by omega), hl, Nat.sub_self]
  obtain ⟨m, hm⟩ : ∃ m, q.length - i = m + 1 := ⟨q.length - i - 1, by omega⟩
  rw [hm, show q.length - (i + 1) = m by omega, List.replicate_succ, List.set_cons_zero, List.take_add_one, h]
  simp [idsL]
theorem allL_end (q : List Th) : allL q q.length = idsL q := by simp [allL]

set_option maxHeartbeats 2000000 in
theorem all_any (h : HQ w B T N q) :
    Calls Tryz.prog 69 #[.pointer (some ⟨B, 0, none⟩)] w fun e w' => ∃ a, e = .returned (.slice a q.length q.length) ∧ RowI w' w.heap.size (.slice a q.length q.length) (idsL q) ∧ Below w.heap.size w w' := by
  obtain ⟨z1, z2, z3⟩ := h.sizes
  have HL := lenq_any h
  have m1 := mk_int q.length (by omega) w
  have hb : But [] w (w.alloc (.cells (madeCells #[.int .i64 0] q.length) 3)) := (But.refl [] w).alloc _
  have CO := copy_any (h.keep hb)
  have ho : (w.alloc (.cells (madeCells #[.int .i64 0] q.length) 3)).ownsRow w.heap.size 3 1 (.slice (some ⟨w.heap.size, 0, none⟩) q.length q.length) q.length ((allL q 0).map (Value.int .i64)) := by
    have := World.ownsRow_lit (base := w.heap.size) (e := 3) (size := 1) w (madeCells #[.int .i64 0] q.length) q.length (Nat.le_refl _) (by unfold maxLen; omega) (by rw [← Array.length_toList, toList_madeCells_one]; simp)
    rw [toList_madeCells_one] at this
    simpa [allL, idsL] using this
  go_enter Tryz.func69, Tryz.ntmps69
  go_wp2_with (first
    | (go_at_call 68; refine HL.mono ?_; rintro e w' ⟨rfl, hw⟩; subst w')
    | (go_at_call 32; refine CO.mono ?_; rintro e w2 ⟨B2, T2, rfl, h2, s2⟩))
  have ho2 := ownsRow_put ho (w' := w2) (fun x hx => s2.but.block x (ho.lt x hx).2 (by simp))
  have hn2 : w.heap.size ∉ T2 := fun e => by
    rcases s2.new _ e with e | e
    · cases e
    · simp at e
      omega
  have st2 : Step [] w T2 w2 := (Step.keep hb).trans s2
  clear m1 CO ho hb h HL
  go_loopw [13, 5] (fun v _ wr => ∃ (i : Nat) (T' : List Nat), i ≤ q.length ∧ v = .int .i64 i ∧ HQ wr B2 T' N (q.drop i) ∧ w.heap.size ∉ T' ∧ wr.ownsRow w.heap.size 3 1 (.slice (some ⟨w.heap.size, 0, none⟩) q.length q.length) q.length ((allL q i).map (Value.int .i64)) ∧ Step [] w T' wr) (fun v _ _ => 4096 - (intOf v).toNat)
  case atStart => exact ⟨0, T2, by omega, rfl, h2, hn2, ho2, st2⟩
  case round =>
    clear h2 hn2 ho2 st2 s2
    obtain ⟨i, T1, hi, rfl, h2, hn2, ho2, hb⟩ := hrel
    by_cases hlt : i < q.length
    · have PO := pop_any h2
      have hx : q[i]? = some q[i] := List.getElem?_eq_getElem hlt
      rw [List.drop_eq_getElem_cons hlt] at PO h2
      rw [List.tail_cons] at PO
      have hset := allL_set hx
      have hll := allL_len hi
      generalize q[i] = p at *
      have hlt' : (i : Int) < (q.length : Int) := by omega
      have hw0 : w.heap.size < wr.heap.size := (ho2.lt _ rfl).2
      have Hset : Hid ((allL q i).set i (p.1 : Int) = allL q (i + 1)) := hset
      have HC : ∀ W, But T1 wr W → W.ownsRow w.heap.size 3 1 (.slice (some ⟨w.heap.size, 0, none⟩) q.length q.length) q.length ((allL q i).map (Value.int .i64)) := fun W hW => ownsRow_put ho2 (fun x hx => by cases hx; exact hW.block _ hw0 hn2)
      have hci : ∃ y, ((allL q i).map (Value.int .i64))[i]? = some y := ⟨_, List.getElem?_eq_getElem (by rw [List.length_map, hll]; exact hlt)⟩
      clear hset hx hll
      go_wp2_with (first
        | (go_at_call 46; refine PO.mono ?_; rintro e w3 ⟨rfl, T3, h3, s3⟩; simp only [fstI, fstK, fstB]; have ho3 := HC _ s3.but; obtain ⟨y, hy⟩ := hci; have c3 := (ho3.cellAt i (by omega)).trans hy; have f3 := ho3.frozenAt i))
      go_roundw
      case rel =>
        have hn3 : w.heap.size ∉ T3 := fun e => by
          rcases s3.new _ e with e | e
          · exact hn2 e
          · omega
        refine ⟨i + 1, T3, by omega, by simp, h3.but (S := [w.heap.size]) ((But.refl _ _).set (p := ⟨w.heap.size, i, none⟩) (by simp) _) (fun x hx hs => by simp at hs; subst hs; exact hn3 hx), hn3, ?_, ?_⟩
        · have := (ho3.stored i (.int .i64 (p.1 : Int))).1
          rw [← List.map_set, Hset.out] at this
          exact this
        · have st3 := hb.trans s3
          exact ⟨st3.but.trans_new ((But.refl [w.heap.size] _).set (p := ⟨w.heap.size, i, none⟩) (by simp) _) (by simp), st3.new⟩
      case measure =>
        simp [intOf]
        omega
    · obtain rfl : i = q.length := by omega
      rw [allL_end] at ho2
      go_wp2_with fail
      go_ret
      refine ⟨_, rfl, ?_, hb.below⟩
      unfold RowI
      rw [idsL_len]
      exact ho2
end

end Go.Proofs.YtlnfabjgcecebaaGreat.Hp
namespace Go.Proofs.YtlnfabjgcecebaaGreat.Hp
open Go.RowKit

/-- A number that is an int. -/
def I64 (x : Int) : Prop := -9223372036854775808 ≤ x ∧ x ≤ 9223372036854775807
/-- Whether a number is an int; what is told of it. -/
def fitsB (V : Int) : Bool := decide (-9223372036854775808 ≤ V ∧ V ≤ 9223372036854775807)
def toldI (V : Int) : Int := if fitsB V then V else 0

theorem sub_any (a b : Int) (w : World) (ha0 : -9223372036854775808 ≤ a) (ha1 : a ≤ 9223372036854775807) (hb0 : -9223372036854775808 ≤ b) (hb1 : b ≤ 9223372036854775807) :
    Calls Tryz.prog 57 #[.int .i64 a, .int .i64 b] w fun e w' => e = .returned (.tuple #[.int .i64 (toldI (a - b)), .bool (fitsB (a - b))]) ∧ w' = w := by
  cases hf : fitsB (a - b)
  · rw [show toldI (a - b) = 0 by simp [toldI, hf]]
    have hf' : a - b < -9223372036854775808 ∨ 9223372036854775807 < a - b := by unfold fitsB at hf; simp at hf; omega
    clear hf
    rcases hf' with h | h
    · have h1 : 0 < b := by omega
      have h2 : a < -9223372036854775808 + b := by omega
      go_enter Tryz.func57, Tryz.ntmps57
      go_wp2_with fail
      go_ret2
      exact ⟨rfl, rfl⟩
    · have h1 : b < 0 := by omega
      have h2 : 9223372036854775807 + b < a := by omega
      go_enter Tryz.func57, Tryz.ntmps57
      go_wp2_with fail
      go_ret2
      exact ⟨rfl, rfl⟩
  · rw [show toldI (a - b) = a - b by simp [toldI, hf]]
    have hf0 : -9223372036854775808 ≤ a - b := by unfold fitsB at hf; simp at hf; omega
    have hf1 : a - b ≤ 9223372036854775807 := by unfold fitsB at hf; simp at hf; omega
    clear hf
    by_cases h : 0 < b
    · have h2 : ¬ a < -9223372036854775808 + b := by omega
      have h3 : ¬ b < 0 := by omega
      go_enter Tryz.func57, Tryz.ntmps57
      go_wp2_with fail
      go_ret2
      exact ⟨rfl, rfl⟩
    · by_cases h3 : b < 0
      · have h4 : ¬ 9223372036854775807 + b < a := by omega
        go_enter Tryz.func57, Tryz.ntmps57
        go_wp2_with fail
        go_ret2
        exact ⟨rfl, rfl⟩
      · go_enter Tryz.func57, Tryz.ntmps57
        go_wp2_with fail
        go_ret2
        exact ⟨rfl, rfl⟩

/-- What Lower tells, and makes of the list. -/
def lowB (q : List Th) (c : Int) : Bool := q.all (fun p => fitsB (p.2 - c))
def lowE (q : List Th) (c : Int) : Int := if lowB q c then 0 else 8
def lowS (q : List Th) (c : Int) : List Th := if lowB q c then lowL q c else q
theorem lowB_perm {xs q : List Th} (h : xs.Perm q) (c : Int) : lowB xs c = lowB q c := by
  rw [Bool.eq_iff_iff]
  unfold lowB
  rw [List.all_eq_true, List.all_eq_true]
  exact ⟨fun H p hp => H p (h.symm.subset hp), fun H p hp => H p (h.subset hp)⟩

/-- The things on the way, behind i of them. -/
def lowW (xs : List Th) (c : Int) (i : Nat) : List Th := lowL (xs.take i) c ++ xs.drop i
theorem lowW_len {xs : List Th} {c : Int} {i : Nat} : (lowW xs c i).length = xs.length := by
  simp [lowW, lowL]
  omega
theorem lowW_get {xs : List Th} {c : Int} {i : Nat} {p : Th} (h : xs[i]? = some p) : (lowW xs c i)[i]? = some p := by
  have hi := (List.getElem?_eq_some_iff.1 h).1
  have hl : (lowL (xs.take i) c).length = i := by simp [lowL]; omega
  unfold lowW
  rw [List.getElem?_append_right (by omega), hl, Nat.sub_self, List.getElem?_drop, Nat.add_zero]
  exact h
theorem lowW_set {xs : List Th} {c : Int} {i : Nat} {p : Th} (h : xs[i]? = some p) : (lowW xs c i).set i (p.1, p.2 - c) = lowW xs c (i + 1) := by
  obtain ⟨hi, e⟩ := List.getElem?_eq_some_iff.1 h
  have hl : (lowL (xs.take i) c).length = i := by simp [lowL]; omega
  unfold lowW
  rw [List.set_append_right _ _ (by omega), hl, Nat.sub_self, List.drop_eq_getElem_cons hi, List.set_cons_zero, List.take_add_one, h]
  simp [lowL]
theorem lowW_0 (xs : List Th) (c : Int) : lowW xs c 0 = xs := by simp [lowW, lowL]
theorem lowW_end (xs : List Th) (c : Int) : lowW xs c xs.length = lowL xs c := by simp [lowW]

/-- Another row of things takes the place of the one that was. -/
theorem HM.other {w : World} {B G k N : Nat} {v v' : Value} {xs ys : List Th} {pl : List Int} (h : HM w B G k N v xs pl) (ho : w.ownsRow 0 80 2 v' ys.length (flat ys)) (nB : v'.ownBlock ≠ some B) (nG : v'.ownBlock ≠ some G) : HM (w.setCell ⟨B, 0, none⟩ v') B G k N v' ys pl := by
  refine ⟨?_, ownsRow_put ho (fun x hx => ?_), h.g.other (Ne.symm h.bg) _ _, h.bg, nB, nG, h.n1, h.n2⟩
  · have := heap_setCell_same w B 0 _ 63 v' h.b
    rw [this]
    simp
  · exact Below.heap_setCell w ⟨B, 0, none⟩ _ x (fun e => nB (by rw [hx, e]))

section
variable {w : World} {B N : Nat} {T : List Nat} {q : List Th}

set_option maxHeartbeats 4000000 in
theorem lower_any (h : HQ w B T N q) (hq : ∀ p ∈ q, I64 p.2) (c : Int) (hc : I64 c) :
    Calls Tryz.prog 59 #[.pointer (some ⟨B, 0, none⟩), .int .i64 c] w fun e w' => e = .returned (.int .i64 (lowE q c)) ∧ ∃ T', HQ w' B T' N (lowS q c) ∧ Step T w T' w' := by
  obtain ⟨G, k, v, xs, pl, rfl, hm, hR⟩ := h
  have hM := made_any hm
  have hxl : xs.length ≤ 4096 := Nat.le_trans hR.pls.short hm.n2
  have hx64 : ∀ p ∈ xs, I64 p.2 := fun p hp => hq p (hR.pm.subset hp)
  have CT := clone_thing (W := w) hm.h (by omega)
  obtain ⟨va, vc, rfl, hvs, -⟩ := hm.sl
  have c0 := hm.c0
  have lB := hm.lt (x := B) bks_B
  have lG := hm.lt (x := G) bks_G
  go_enter Tryz.func59, Tryz.ntmps59
  go_wp2_with (first
    | (go_at_call 61; refine hM.mono ?_; rintro e w' ⟨rfl, hw⟩; subst w')
    | (go_at_call 62; refine CT.mono ?_; rintro e w1 ⟨v1, rfl, r1, g1, b1⟩; obtain ⟨a1, c1, rfl⟩ := own_sh r1; have hm1 := hm.keep (.of_below b1); have d0 := hm1.c0))
  go_loopw [23, 6, 7, 8, 9] (fun v _ _ _ _ wr => ∃ i : Nat, i ≤ xs.length ∧ v = .int .i64 i ∧ wr.ownsRow 0 80 2 (.slice a1 xs.length c1) xs.length (flat (lowW xs c i)) ∧ (∀ p ∈ xs.take i, fitsB (p.2 - c) = true) ∧ But [] w wr) (fun v _ _ _ _ _ => 4096 - (intOf v).toNat)
  case atStart => exact ⟨0, by omega, rfl, by rw [lowW_0]; exact r1, by simp, .of_below b1⟩
  case round =>
    clear d0 hm1 b1 r1 CT hM
    obtain ⟨i, hi, rfl, r1, hf, hB⟩ := hrel
    have hmr := hm.keep hB
    by_cases hlt : i < xs.length
    · obtain ⟨H, rfl, -⟩ := hvs (by omega)
      have hx : xs[i]? = some xs[i] := List.getElem?_eq_getElem hlt
      have ht : xs.take (i + 1) = xs.take i ++ [xs[i]] := by rw [List.take_add_one, hx]; rfl
      have h64 := hx64 xs[i] (List.getElem_mem hlt)
      have hmem : xs[i] ∈ xs := List.getElem_mem hlt
      generalize xs[i] = p at *
      have hlt' : (i : Int) < (xs.length : Int) := by omega
      have t0 := hmr.t0 hx
      have t1 := hmr.t1 hx
      have c60 := cells60
      have SB := sub_any p.2 c
      obtain ⟨H1, c1', e1⟩ := own_some r1 (by omega)
      cases e1
      have hB1 : But [] w (wr.alloc (.cells #[.int .i64 (p.1 : Int), .int .i64 p.2] 80)) := hB.alloc _
      have r1a := r1.alloc (.cells #[.int .i64 (p.1 : Int), .int .i64 p.2] 80)
      have hg1 : w.heap.size ≤ H1 := g1 H1 rfl
      have k1 := (r1a.cellAt (i * 2 + 1) (by omega)).trans (flat_1 (lowW_get (c := c) hx))
      have f1 := r1a.frozenAt (i * 2 + 1)
      have bx : (wr.alloc (.cells #[.int .i64 (p.1 : Int), .int .i64 p.2] 80)).cell? ⟨wr.heap.size, 1, none⟩ = some (.int .i64 p.2) := by simp [go_sem]
      cases hfit : fitsB (p.2 - c) with
      | true =>
        have r2 := (r1a.stored (i * 2 + 1) (.int .i64 (p.2 - c))).1
        rw [← flat_set1 (p.2 - c) (lowW_get (c := c) hx), lowW_set hx] at r2
        have hf2 : ∀ r ∈ xs.take (i + 1), fitsB (r.2 - c) = true := fun r hr => by
          rw [ht] at hr
          rcases List.mem_append.1 hr with hr | hr
          · exact hf r hr
          · rw [List.mem_singleton.1 hr]
            exact hfit
        have SB' : ∀ W, Calls Tryz.prog 57 #[.int .i64 p.2, .int .i64 c] W fun e w' => e = .returned (.tuple #[.int .i64 (p.2 - c), .bool true]) ∧ w' = W := fun W => by
          have := SB W h64.1 h64.2 hc.1 hc.2
          unfold toldI at this
          rw [hfit, if_pos rfl] at this
          exact this
        obtain ⟨pi, px⟩ := p
        dsimp only at *
        generalize px - c = y at *
        clear hf ht hx SB r1 r1a
        go_wp2_with (first
          | (go_at_call 57; refine (SB' _).mono ?_; rintro e w' ⟨rfl, hw⟩; subst w'))
        go_roundw
        case rel => exact ⟨i + 1, by omega, by simp, r2, hf2, hB1.trans_new ((But.refl [H1] _).set (p := ⟨H1, i * 2 + 1, none⟩) (by simp) _) (by simpa using hg1)⟩
        case measure =>
          simp [intOf]
          omega
      | false =>
        have SB' : ∀ W, Calls Tryz.prog 57 #[.int .i64 p.2, .int .i64 c] W fun e w' => e = .returned (.tuple #[.int .i64 0, .bool false]) ∧ w' = W := fun W => by
          have := SB W h64.1 h64.2 hc.1 hc.2
          unfold toldI at this
          rw [hfit, if_neg (by simp)] at this
          exact this
        have hno : lowB q c = false := by
          rw [← lowB_perm hR.pm c]
          unfold lowB
          rw [List.all_eq_false]
          exact ⟨p, hmem, by simp [hfit]⟩
        have E1 : Hid (lowE q c = 8) := by show lowE q c = 8; unfold lowE; rw [hno]; rfl
        have E2 : Hid (lowS q c = q) := by show lowS q c = q; unfold lowS; rw [hno]; rfl
        clear hf ht SB r1 r1a hno
        obtain ⟨pi, px⟩ := p
        dsimp only at *
        go_wp2_with (first
          | (go_at_call 57; refine (SB' _).mono ?_; rintro e w' ⟨rfl, hw⟩; subst w'))
        go_ret
        rw [E1.out, E2.out]
        exact ⟨rfl, _, ⟨G, k, _, xs, pl, rfl, hm.keep hB1, hR⟩, Step.keep hB1⟩
    · obtain rfl : i = xs.length := by omega
      rw [lowW_end] at r1
      rw [List.take_length] at hf
      have hyes : lowB q c = true := by
        rw [← lowB_perm hR.pm c]
        unfold lowB
        rw [List.all_eq_true]
        exact hf
      have E1 : Hid (lowE q c = 0) := by show lowE q c = 0; unfold lowE; rw [hyes]; rfl
      have E2 : Hid (lowS q c = lowL q c) := by show lowS q c = lowL q c; unfold lowS; rw [hyes]; rfl
      have d0 := hmr.c0
      have d1 := hmr.fb 0
      have h2 := hmr.other (v' := .slice a1 xs.length c1) (ys := lowL xs c) (by rw [show (lowL xs c).length = xs.length by simp [lowL]]; exact r1) (fun e => by have := g1 _ e; omega) (fun e => by have := g1 _ e; omega)
      have hrl := hR.low c
      clear hf hyes r1
      go_wp2_with fail
      go_ret
      rw [E1.out, E2.out]
      refine ⟨rfl, _, ⟨G, k, _, _, pl, rfl, h2, hrl⟩, (hB.wide).set (p := ⟨B, 0, none⟩) bks_B _, fun x hx => ?_⟩
      rcases bks_out hx with rfl | rfl | hx
      · exact .inl bks_B
      · exact .inl bks_G
      · exact .inr (g1 _ hx)
end

end Go.Proofs.YtlnfabjgcecebaaGreat.Hp
