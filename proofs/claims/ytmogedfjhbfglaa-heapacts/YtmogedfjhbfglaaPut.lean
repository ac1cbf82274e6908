/- Contracts of Put, Change, Remove. -/
import Derived.Test.YtmogedfjhbfglaaTake
import Derived.Maps.AppendAt
import Derived.Deep.RegionLaw
namespace Go.Proofs.Ytmogedfjhbfglaa
open Go.RowKit

theorem info60 : (Try.prog.info? 60).map (fun i => (i.zero, i.size, i.bytes)) = some (some (.agg #[.int .i64 0, .int .i64 0]), 2, 16) := by kernel_rfl

theorem run_appT {w : World} {v : Value} {xs : List Th} {ty : TypeId} (hown : w.ownsRow 0 60 2 v xs.length (flat xs)) {ad : Addr} {m c : Nat} {news : List Th} (hl : news.length = m) (hr : ∀ j u, (flat news)[j]? = some u → w.cell? (ad.add j) = some u)
    (hk : xs.length + m ≤ 100000) :
    ∃ v' w', (Builtin.append_ #[52, 52] ty #[v, .slice (some ad) m c]).run Try.prog w = .ok v' w' ∧ w'.ownsRow 0 60 2 v' (xs.length + m) (flat (xs ++ news)) ∧ w.grownBy w' v.ownBlock ∧ (v'.ownBlock = v.ownBlock ∨ v'.ownBlock = some w.heap.size) := by
  obtain ⟨i0, hi, hz0, hz1, hz2⟩ := info_parts info60
  obtain ⟨v', w', h1, h2, h3, _, h5⟩ := run_append_own_at (P := Try.prog) w 0 52 ty 60 i0 (.agg #[.int .i64 0, .int .i64 0]) 2 16 Try.underlying52 hi hz0 hz1 hz2 rfl (by decide) v _ _ hown ad m c (flat news) (by rw [flat_len, hl]) hr
    (fun u hu => by unfold flat at hu; obtain ⟨x, _, hx⟩ := List.mem_flatMap.1 hu; simp at hx; rcases hx with rfl | rfl <;> rfl) (by unfold maxLen; omega) (by omega) (Nat.zero_le _)
  refine ⟨v', w', h1, ?_, h3, h5⟩
  rw [flat_app]
  exact h2

theorem wpList_appT {w : World} {ops : Array Oper} {rest : List Oper} {o : Oper} {a : Act} {Q : Exit → Act → World → Prop} (hg : o.guard = none) (s x : Operand) (hop : o.op = Op.call { callee := Callee.builtin Builtin.append, args := #[s, x], argTypes := #[52, 52] })
    (v : Value) (xs : List Th) (hs : a.eval s = v) (hown : w.ownsRow 0 60 2 v xs.length (flat xs)) (ad : Addr) (m c : Nat) (news : List Th) (hx : a.eval x = .slice (some ad) m c) (hl : news.length = m) (hr : ∀ j u, (flat news)[j]? = some u → w.cell? (ad.add j) = some u)
    (hk : xs.length + m ≤ 100000)
    (hK : ∀ v' w', w'.ownsRow 0 60 2 v' (xs.length + m) (flat (xs ++ news)) → w.grownBy w' v.ownBlock → (v'.ownBlock = v.ownBlock ∨ v'.ownBlock = some w.heap.size) → wpList Try.prog ops Q rest (a.put o.dst v') w') :
    wpList Try.prog ops Q (o :: rest) a w := by
  refine wpList_plain hg fun K hK' => ?_
  obtain ⟨v', w', hrun, r1, r2, r3⟩ := run_appT (ty := o.type) (c := c) hown hl hr hk
  unfold Oper.wp execOp
  simp only [hop, resolve, invoke, builtin, Sem.run_bind, Sem.run_pure, Result.andThen_ok, List.map_toArray, List.map_cons, List.map_nil, hs, hx, hrun]
  exact hK' _ _ (hK v' w' r1 r2 r3)

section
variable {w : World} {B G k N : Nat} {v : Value} {xs : List Th} {pl : List Int}

/-- Another row of things. -/
theorem HM.grow {w2 : World} {v' : Value} {ys : List Th} {n : Nat} (h : HM w B G k N v xs pl) (hn : n = ys.length) (ho : w2.ownsRow 0 60 2 v' n (flat ys)) (hg : w.grownBy w2 v.ownBlock) (hv : v'.ownBlock = v.ownBlock ∨ v'.ownBlock = some w.heap.size) :
    HM (w2.setCell ⟨B, 0, none⟩ v') B G k N v' ys pl ∧ Step (bks B G v) w (bks B G v') (w2.setCell ⟨B, 0, none⟩ v') := by
  subst hn
  have lB := h.lt (x := B) bks_B
  have lG := h.lt (x := G) bks_G
  have nB : v'.ownBlock ≠ some B := fun e => hv.elim (fun e1 => h.vb (e1 ▸ e)) (fun e1 => by rw [e1] at e; cases e; omega)
  have nG : v'.ownBlock ≠ some G := fun e => hv.elim (fun e1 => h.vg (e1 ▸ e)) (fun e1 => by rw [e1] at e; cases e; omega)
  have eB : w2.heap[B]? = _ := (hg.block B lB (fun e => h.vb e.symm)).trans h.b
  have eG : w2.heap[G]? = w.heap[G]? := hg.block G lG (fun e => h.vg e.symm)
  have b1 : But (bks B G v) w w2 := ⟨hg.os, hg.tape, hg.output, hg.size, fun x hx hs => hg.block x hx (fun e => hs (bks_v e.symm))⟩
  refine ⟨⟨?_, ownsRow_put ho (fun x hx => ?_), (h.g.put eG).other (Ne.symm h.bg) _ _, h.bg, nB, nG, h.n1, h.n2⟩, b1.set bks_B _, fun x hx => ?_⟩
  · have := heap_setCell_same w2 B 0 _ 54 v' eB
    rw [this]
    simp
  · exact Below.heap_setCell w2 ⟨B, 0, none⟩ _ x (fun e => nB (by rw [hx, e]))
  · rcases bks_out hx with rfl | rfl | hx
    · exact .inl bks_B
    · exact .inl bks_G
    · rcases hv with e | e
      · exact .inl (bks_v (e ▸ hx))
      · rw [e] at hx
        cases hx
        exact .inr (Nat.le_refl _)
theorem own_some {v' : Value} {n : Nat} {vs : List Value} (h : w.ownsRow 0 60 2 v' n vs) (hn : 0 < n) : ∃ H c, v' = .slice (some ⟨H, 0, none⟩) n c := by
  rcases h.2 with ⟨_, h0⟩ | ⟨g, cap, cur, e, _⟩
  · omega
  · exact ⟨g, cap, e⟩
theorem bks_GH {H n c : Nat} : ∀ x ∈ [G, H], x ∈ bks B G (.slice (some ⟨H, 0, none⟩) n c) := by
  intro x hx
  simp at hx
  rcases hx with rfl | rfl
  · exact bks_G
  · exact bks_v rfl
theorem bks_BGH {H n c : Nat} : ∀ x ∈ [B, G, H], x ∈ bks B G (.slice (some ⟨H, 0, none⟩) n c) := by
  intro x hx
  simp at hx
  rcases hx with rfl | rfl | rfl
  · exact bks_B
  · exact bks_G
  · exact bks_v rfl
end

/-- What Put, Change and Remove make of the list. -/
def putS (N : Nat) (q : List Th) (t key : Int) : List Th := if askE N q t false 5 = 0 then insq (t.toNat, key) q else q
def chgS (N : Nat) (q : List Th) (t key : Int) : List Th := if askE N q t true 4 = 0 then insq (t.toNat, key) (remq q t) else q
def remS (N : Nat) (q : List Th) (t : Int) : List Th := if askE N q t true 4 = 0 then remq q t else q

theorem askE_zero {N : Nat} {q : List Th} {t : Int} {there : Bool} {last : Int} (hl : last ≠ 0) (h : askE N q t there last = 0) : ∃ id : Nat, t = id ∧ id < N ∧ hasB q t = there := by
  unfold askE at h
  split at h
  · rename_i hb
    obtain ⟨id, rfl, hid⟩ := inN_out hb
    split at h
    · rename_i e
      exact ⟨id, rfl, hid, e⟩
    · exact absurd h hl
  · simp at h

theorem two_cells (W : World) (id : Nat) (key : Int) : ∀ j u, (flat [(id, key)])[j]? = some u → (W.alloc (.cells #[.int .i64 (id : Int), .int .i64 key] 60)).cell? ((⟨W.heap.size, 0, none⟩ : Addr).add j) = some u := cell_two_new W _ _ 60

section
variable {w : World} {B N : Nat} {T : List Nat} {q : List Th}

set_option maxHeartbeats 2000000 in
theorem put_any (h : HQ w B T N q) (t key : Int) :
    Calls Try.prog 20 #[.pointer (some ⟨B, 0, none⟩), .int .i64 t, .int .i64 key] w fun e w' => e = .returned (.int .i64 (askE N q t false 5)) ∧ ∃ T', HQ w' B T' N (putS N q t key) ∧ Step T w T' w' := by
  obtain ⟨G, k, v, xs, pl, rfl, hm, hR⟩ := h
  have HA := ask_any hm hR t false 5
  unfold putS
  by_cases hz : askE N q t false 5 = 0
  · rw [if_pos hz]
    rw [hz] at HA ⊢
    obtain ⟨id, rfl, hid, hb⟩ := askE_zero (by decide) hz
    rw [Int.toNat_natCast]
    have hno := hR.no hid hb
    have hn : xs.length ≤ 4096 := Nat.le_trans hR.pls.short hm.n2
    have HPP := hR.pls.push key hno
    have HX : HpX le (gx (xs ++ [(id, key)])) (xs ++ [(id, key)]).length xs.length := by
      have := hR.hp.more (f := gx (xs ++ [(id, key)])) (fun k hk => by rw [gx, gx, List.getD_eq_getElem?_getD, List.getD_eq_getElem?_getD, List.getElem?_append_left hk])
      simpa using this
    have HI : ∀ ys pl', Pls N ys pl' → Hp le (gx ys) ys.length → ys.Perm (xs ++ [(id, key)]) → Rep N ys pl' (insq (id, key) q) := fun ys pl' a b c => hR.insq hb a b c
    obtain ⟨sa, c, rfl, -, -⟩ := hm.sl
    have c0 := hm.c0
    have hma := hm.keep ((But.refl [] w).alloc (.cells #[.int .i64 (id : Int), .int .i64 key] 60))
    have d0 := hma.c0
    have d1 := hma.fb 0
    have hid' : (id : Int) < (N : Int) := by omega
    have TC := two_cells w id key
    have hst : Step (bks B G (.slice sa xs.length c)) w (bks B G (.slice sa xs.length c)) (w.alloc (.cells #[.int .i64 (id : Int), .int .i64 key] 60)) := Step.keep ((But.refl [] w).alloc _)
    clear hz hb hR
    generalize insq (id, key) q = q' at *
    have hlen : xs.length + 1 = (xs ++ [(id, key)]).length := by simp
    have Hlen : Hid (xs.length + 1 = (xs ++ [(id, key)]).length) := hlen
    clear hlen
    obtain ⟨ys, hys⟩ : ∃ ys, xs ++ [(id, key)] = ys := ⟨_, rfl⟩
    have Hys : Hid (xs ++ [(id, key)] = ys) := hys
    rw [hys] at HPP HX HI Hlen
    clear hys
    go_enter Try.func20, Try.ntmps20
    go_wp2_with (first
      | (go_at_call 36; refine HA.mono ?_; rintro e w1 ⟨rfl, hw⟩; subst w1)
      | (at_builtin; refine wpList_appT rfl _ _ rfl (.slice sa xs.length c) xs rfl hma.h _ _ _ [(id, key)] rfl rfl TC (by omega) ?_; intro v2 w2 ho2 hg2 hv2; rw [Hys.out] at ho2; obtain ⟨h3, s3⟩ := hma.grow Hlen.out ho2 hg2 hv2; obtain ⟨H2, c2, rfl⟩ := own_some ho2 (by simp); have f0 : w2.cell? ⟨B, 0, none⟩ = some (.slice sa xs.length c) := hg2.cell d0 (fun e => hma.vb e.symm); have f1 : w2.frozen? ⟨B, 0, none⟩ = false := (World.frozen?_of_block (hg2.block B (hma.lt bks_B) (fun e => hma.vb e.symm))).trans d1; have g0 := h3.c1; have g1 := h3.x hno; have g2 := h3.g.fz id; have h4 := h3.setG id xs.length; have s4 := s3.trans (Step.same ((But.refl _ _).set (p := ⟨G, id, none⟩) bks_G (.int .i64 (xs.length : Int)))); have SF := sift_any h4 HPP (i := xs.length) (by have := Hlen.out; omega) HX)
      | (go_at_call 37; refine SF.mono ?_; rintro e w5 ⟨rfl, ⟨zs, pl5, h5, p5, pm5, hp5⟩, b5⟩))
    go_ret
    exact ⟨rfl, _, ⟨G, k, _, zs, pl5, rfl, h5, HI _ _ p5 hp5 pm5⟩, (hst.trans s4).trans (Step.same (b5.mono bks_GH))⟩
  · rw [if_neg hz]
    generalize askE N q t false 5 = e at *
    have hz' : (e == 0) = false := by simpa using hz
    go_enter Try.func20, Try.ntmps20
    go_wp2_with (first
      | (go_at_call 36; refine HA.mono ?_; rintro e w1 ⟨rfl, hw⟩; subst w1))
    go_ret
    exact ⟨rfl, _, ⟨G, k, v, xs, pl, rfl, hm, hR⟩, Step.refl _ _⟩
end

end Go.Proofs.Ytmogedfjhbfglaa
