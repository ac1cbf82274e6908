/- The statements' own helpers: lists, act. -/
import Derived.Test.YtmjjghhlalaeiaaRefS
namespace Go.Proofs.Ytmjjghhlalaeiaa
open Go.RowKit

set_option maxHeartbeats 1000000 in
theorem ints_drawn (a b : Option Addr) (c d : Nat) (xs : List Int) (w : World) (hn : xs.length ≤ 4096) (ha : IntsR w a xs) (hb : IntsR w b xs) :
    Calls Try.prog 18 #[.slice a xs.length c, .slice b xs.length d] w fun e w' => e = .returned (.bool true) ∧ Drawn w w' := by
  go_enter Try.func18, Try.ntmps18
  go_wp2_with fail
  go_loopw [13, 5] (fun q _ wr => ∃ j : Nat, j ≤ xs.length ∧ q = .int .i64 j ∧ Drawn w wr) (fun q _ _ => 4096 - (intOf q).toNat)
  case atStart => exact ⟨0, by omega, rfl, Drawn.refl _⟩
  case round =>
    obtain ⟨j, hj, rfl, hB⟩ := hrel
    by_cases hlt : j < xs.length
    · obtain ⟨g1, rfl, hc1⟩ := ha j (xs[j]) (by simp)
      obtain ⟨g2, rfl, hc2⟩ := hb j (xs[j]) (by simp)
      generalize xs[j] = x at hc1 hc2
      replace hc1 := (Drawn.but (S := []) hB).cell hc1
      replace hc2 := (Drawn.but (S := []) hB).cell hc2
      have h1 : (j : Int) < (xs.length : Int) := by omega
      have h0 : (0 : Int) ≤ (j : Int) := by omega
      go_wp2_with fail
      go_quiet (fail)
      go_wp2_with fail
      go_roundw
      case rel => exact ⟨j + 1, by omega, by simp, hB.trans ⟨nq, rfl⟩⟩
      case measure =>
        simp [intOf]
        omega
    · obtain rfl : j = xs.length := by omega
      go_wp2_with fail
      go_ret
      exact ⟨rfl, hB⟩

theorem IntsR.drawn {w w' : World} {a : Option Addr} {xs : List Int} (h : IntsR w a xs) (hb : Drawn w w') : IntsR w' a xs := h.below (But.to_below (Drawn.but (S := []) hb))
theorem RowLL.drawn {w w' : World} {base : Nat} {v : Value} {L : List (List Nat)} (h : RowLL w base v L) (hb : Drawn w w') : RowLL w' base v L := h.but (S := []) hb.but (by simp)

set_option maxRecDepth 100000 in
set_option maxHeartbeats 4000000 in
theorem lists_any {w : World} {b1 b2 : Nat} {v1 v2 : Value} {L : List (List Nat)} (h1 : RowLL w b1 v1 L) (h2 : RowLL w b2 v2 L) (hl : L.length ≤ 200000) (hx : ∀ x ∈ L, x.length ≤ 4096) :
    Calls Try.prog 24 #[v1, v2] w fun e w' => e = .returned (.bool true) ∧ Drawn w w' := by
  obtain ⟨a1, c1, rfl⟩ := h1.shape
  obtain ⟨a2, c2, rfl⟩ := h2.shape
  go_enter Try.func24, Try.ntmps24
  go_wp2_with fail
  go_loopw [13, 5] (fun q _ wr => ∃ j : Nat, j ≤ L.length ∧ q = .int .i64 j ∧ Drawn w wr) (fun q _ _ => 200000 - (intOf q).toNat)
  case atStart => exact ⟨0, by omega, rfl, Drawn.refl _⟩
  case round =>
    obtain ⟨j, hj, rfl, hB⟩ := hrel
    by_cases hlt : j < L.length
    · have hLj : L[j]? = some L[j] := by simp
      obtain ⟨g1, d1, ua, uc, e1, cg1, i1⟩ := (h1.drawn hB).get hLj
      obtain ⟨g2, d2, va, vc, e2, cg2, i2⟩ := (h2.drawn hB).get hLj
      simp only [Value.slice.injEq] at e1 e2
      obtain ⟨rfl, -, rfl⟩ := e1
      obtain ⟨rfl, -, rfl⟩ := e2
      have hxl := hx _ (List.getElem_mem hlt)
      have HI : ∀ k, Calls Try.prog 18 #[.slice ua L[j].length uc, .slice va L[j].length vc] (wr.drewN k) fun e w' => e = .returned (.bool true) ∧ Drawn (wr.drewN k) w' := fun k => by
        have := ints_drawn ua va uc vc (ints L[j]) (wr.drewN k) (by rw [ints_len]; exact hxl) (i1.drawn ⟨k, rfl⟩) (i2.drawn ⟨k, rfl⟩)
        rwa [ints_len] at this
      generalize L[j].length = y at *
      have hj3 : (j : Int) < (L.length : Int) := by omega
      have hj0 : (0 : Int) ≤ (j : Int) := by omega
      clear i1 i2 hLj hx
      go_wp2_with fail
      go_quiet (first
        | (go_at_call 18; exact Calls.quiet_of (HI _)))
      go_wp2_with fail
      go_roundw
      case rel => exact ⟨j + 1, by omega, by simp, hB.trans ⟨nq, rfl⟩⟩
      case measure =>
        simp [intOf]
        omega
    · obtain rfl : j = L.length := by omega
      go_wp2_with fail
      go_ret
      exact ⟨rfl, hB⟩

theorem RowI.intsR {w : World} {base c l : Nat} {a : Option Addr} {q : List Int} (h : RowI w base (.slice a l c) q) : IntsR w a q := by
  obtain ⟨a', c', e, hx⟩ := h.open'
  simp only [Value.slice.injEq] at e
  obtain ⟨rfl, _, _⟩ := e
  exact hx

/-- A wheel and the reference's, alike. -/
structure Pr (w : World) (T : Wp) (P : Rp) (N n : Nat) (wh : List Nat) : Prop where
  q : WQ w T N n wh
  r : RQ w P N n wh
  d : ∀ x ∈ T.S, x ∉ P.S
def twoS (T : Wp) (P : Rp) : List Nat := T.S ++ P.S

section
variable {w w' : World} {T : Wp} {P : Rp} {N n : Nat} {wh : List Nat}
theorem Pr.below (h : Pr w T P N n wh) (hb : Below w.heap.size w w') : Pr w' T P N n wh := ⟨h.q.below hb, h.r.below hb, h.d⟩
theorem Pr.keep (h : Pr w T P N n wh) (hb : But [] w w') : Pr w' T P N n wh := ⟨h.q.keep hb, h.r.keep hb, h.d⟩
theorem Pr.rOn (h : Pr w T P N n wh) (hb : But T.S w w') : RQ w' P N n wh := h.r.but hb (fun k hk e => h.d k e hk)
theorem qOn {m : Nat} {wm : List Nat} (h : WQ w T N m wm) (d : ∀ x ∈ T.S, x ∉ P.S) (hb : But P.S w w') : WQ w' T N m wm := h.but hb d
theorem but1 (hb : But T.S w w') : But (twoS T P) w w' := hb.mono (fun _ hx => List.mem_append_left _ hx)
theorem but2 (hb : But P.S w w') : But (twoS T P) w w' := hb.mono (fun _ hx => List.mem_append_right _ hx)

/-- What an act on both leaves. -/
def Acted (T : Wp) (P : Rp) (N n : Nat) (w : World) (e : Ending) (w' : World) : Prop := e = .returned (.bool true) ∧ (∃ n' wh', Pr w' T P N n' wh' ∧ n' ≤ n + 100000) ∧ But (twoS T P) w w'

set_option maxRecDepth 100000 in
set_option maxHeartbeats 8000000 in
theorem act_any (h : Pr w T P N n wh) (hn : n ≤ 100000000) (k l t : Int) :
    Calls Try.prog 11 #[.pointer (some ⟨T.B, 0, none⟩), .pointer (some ⟨P.B, 0, none⟩), .agg #[.int .i64 k, .int .i64 l, .int .i64 t]] w (Acted T P N n w) := by
  have hB0 : But [] w (w.alloc (.cells #[.int .i64 k, .int .i64 l, .int .i64 t] 29)) := (But.refl [] w).alloc _
  have h0 := h.keep hB0
  have a0 : (w.alloc (.cells #[.int .i64 k, .int .i64 l, .int .i64 t] 29)).cell? ⟨w.heap.size, 0, none⟩ = some (.int .i64 k) := by simp [go_sem]
  have a1 : (w.alloc (.cells #[.int .i64 k, .int .i64 l, .int .i64 t] 29)).cell? ⟨w.heap.size, 1, none⟩ = some (.int .i64 l) := by simp [go_sem]
  have a2 : (w.alloc (.cells #[.int .i64 k, .int .i64 l, .int .i64 t] 29)).cell? ⟨w.heap.size, 2, none⟩ = some (.int .i64 t) := by simp [go_sem]
  have hTS : w.heap.size ∉ T.S := fun e => by have := h.q.lt e; omega
  have hPS : w.heap.size ∉ P.S := fun e => by have := h.r.lt e; omega
  have t1 : Tm (n + 65535) := tm_small (by omega)
  have t2 : Tm (n + 1) := tm_small (by omega)
  have t3 : Tm (n + 100000) := tm_small (by omega)
  have hNr : ∀ s, wt wh s ≤ n + 65535 := fun s => by
    by_cases e : wt wh s = 0
    · omega
    · exact (h.q.near e).2
  have hlate : Late n wh := h.q.2
  have hd := h.d
  by_cases k0 : k = 0
  · subst k0
    go_enter Try.func11, Try.ntmps11
    go_wp2_with fail
    generalize (w.alloc (.cells #[.int .i64 0, .int .i64 l, .int .i64 t] 29)) = W0 at *
    have hS : W0.cell? ⟨w.heap.size, 1, none⟩ = some (.int .i64 l) ∧ W0.cell? ⟨w.heap.size, 2, none⟩ = some (.int .i64 t) := ⟨a1, a2⟩
    have hSd := c2_on (S := []) ((But.refl [] W0).drew) (by simp) (by simp) hS
    have hp := h0.keep (But.refl [] W0).drew
    have HA := add_any hp.q t1 l t
    have HR : ∀ W, RQ W P N n wh → _ := fun W hW => radd_any hW t1 l t
    generalize addE N wh l t = ee at *
    generalize addS N n wh l t = ws at *
    go_region_held3 (fun w' => w'.cell? ⟨w.heap.size, 1, none⟩ = some (.int .i64 l) ∧ w'.cell? ⟨w.heap.size, 2, none⟩ = some (.int .i64 t)) (first | with_reducible assumption | with_reducible exact hSd) (first
      | (go_at_call 21; refine HA.mono ?_; rintro e w1 ⟨rfl, q1, b1⟩; have k1 := c2_on b1 hTS hTS hSd; have r1 := hp.rOn b1)
      | (go_at_call 27; refine (HR _ r1).mono ?_; rintro e w2 ⟨rfl, r2, b2⟩; have k2 := c2_on b2 hPS hPS k1))
    all_goals
      go_wp2_with fail
      go_ret
      refine ⟨by simp, ⟨n, ws, ⟨qOn q1 hd b2, r2, hd⟩, by omega⟩, ?_⟩
      exact ((hB0.drew).wide.trans (but1 b1)).trans (but2 b2)
  · have k0' : (k == 0) = false := by simpa using k0
    by_cases k1 : k = 1
    · subst k1
      go_enter Try.func11, Try.ntmps11
      go_wp2_with fail
      generalize (w.alloc (.cells #[.int .i64 1, .int .i64 l, .int .i64 t] 29)) = W0 at *
      have hS : W0.cell? ⟨w.heap.size, 1, none⟩ = some (.int .i64 l) ∧ W0.cell? ⟨w.heap.size, 2, none⟩ = some (.int .i64 t) := ⟨a1, a2⟩
      have hSd := c2_on (S := []) ((But.refl [] W0).drew) (by simp) (by simp) hS
      have hp := h0.keep (But.refl [] W0).drew
      have HA := cancel_any hp.q l
      have HR : ∀ W, RQ W P N n wh → _ := fun W hW => rcancel_any hW l
      generalize canE N wh l = ee at *
      generalize canS N wh l = ws at *
      go_region_held3 (fun w' => w'.cell? ⟨w.heap.size, 1, none⟩ = some (.int .i64 l) ∧ w'.cell? ⟨w.heap.size, 2, none⟩ = some (.int .i64 t)) (first | with_reducible assumption | with_reducible exact hSd) (first
        | (go_at_call 25; refine HA.mono ?_; rintro e w1 ⟨rfl, q1, b1⟩; have k1 := c2_on b1 hTS hTS hSd; have r1 := hp.rOn b1)
        | (go_at_call 28; refine (HR _ r1).mono ?_; rintro e w2 ⟨rfl, r2, b2⟩; have k2 := c2_on b2 hPS hPS k1))
      all_goals
        go_wp2_with fail
        go_ret
        refine ⟨by simp, ⟨n, ws, ⟨qOn q1 hd b2, r2, hd⟩, by omega⟩, ?_⟩
        exact ((hB0.drew).wide.trans (but1 b1)).trans (but2 b2)
    · have k1' : (k == 1) = false := by simpa using k1
      by_cases k2 : k = 2
      · subst k2
        have hl4 : (wakeL (n + 1) wh).length ≤ 4096 := by
          have e1 := List.length_filter_le (fun t => wt wh t == n + 1) (List.range wh.length)
          have e2 := h.q.len
          have e3 := h.q.sizes
          unfold wakeL
          rw [List.length_range] at e1
          omega
        have HA := tick_any h0.q t2
        have HR : ∀ W, RQ W P N n wh → _ := fun W hW => rtick_any hW t2
        generalize wakeL (n + 1) wh = wk at *
        generalize wakeS (n + 1) wh = ws at *
        go_enter Try.func11, Try.ntmps11
        go_wp2_with (first
          | (go_at_call 22; refine HA.mono ?_; rintro e w1 ⟨v1, rfl, i1, q1, b1⟩; have r1 := h0.rOn b1; obtain ⟨va, vc, rfl, x1⟩ := i1.open')
          | (go_at_call 29; refine (HR _ r1).mono ?_; rintro e w2 ⟨v2, rfl, i2, r2, b2⟩; obtain ⟨ua, uc, rfl, x2⟩ := i2.open')
          | (go_at_call 18; refine (ints_drawn va ua vc uc (ints wk) _ (by rw [ints_len]; exact hl4) (RowI.intsR (i1.but b2 (fun x hx => by have := h0.r.lt hx; have := b1.size; omega))) x2).mono ?_; rintro e w3 ⟨rfl, d3⟩))
        go_ret
        refine ⟨rfl, ⟨n + 1, ws, ⟨(qOn q1 hd b2).keep d3.but, r2.keep d3.but, hd⟩, by omega⟩, ?_⟩
        exact ((hB0.wide.trans (but1 b1)).trans (but2 b2)).trans d3.but
      · have k2' : (k == 2) = false := by simpa using k2
        by_cases k3 : k = 3
        · subst k3
          have HA : ∀ x, _ := fun x => skip_any h0.q x t3
          have HR : ∀ W x, RQ W P N n wh → _ := fun W x hW => rskip_any hW hlate hNr x t3
          have hK : ∀ x, skN x ≤ 100000 := fun x => by unfold skN; split <;> omega
          have hl1 : ∀ x, (skW (skN x) n wh).length ≤ 200000 := fun x => by have := skW_len (skN x) n wh; have := hK x; omega
          have hl2 : ∀ x y, y ∈ skW (skN x) n wh → y.length ≤ 4096 := fun x y hy => mem_skW_len hlate h.q.len h.q.sizes.2 y hy
          by_cases ht : 3000 < t
          · go_enter Try.func11, Try.ntmps11
            go_wp2_with (first
              | (go_at_call 20; refine (HA _).mono ?_; rintro e w1 ⟨v1, rfl, i1, q1, b1⟩; have r1 := h0.rOn b1)
              | (go_at_call 30; refine (HR _ _ r1).mono ?_; rintro e w2 ⟨v2, rfl, i2, r2, b2⟩)
              | (go_at_call 24; refine (lists_any (i1.but b2 (fun x hx => by have := h0.r.lt hx; have := b1.size; omega)) i2 (hl1 _) (hl2 _)).mono ?_; rintro e w3 ⟨rfl, d3⟩))
            go_ret
            refine ⟨rfl, ⟨_, _, ⟨(qOn q1 hd b2).keep d3.but, r2.keep d3.but, hd⟩, Nat.add_le_add_left (hK _) n⟩, ?_⟩
            exact ((hB0.wide.trans (but1 b1)).trans (but2 b2)).trans d3.but
          · have ht' : t ≤ 3000 := by omega
            go_enter Try.func11, Try.ntmps11
            go_wp2_with (first
              | (go_at_call 20; refine (HA _).mono ?_; rintro e w1 ⟨v1, rfl, i1, q1, b1⟩; have r1 := h0.rOn b1)
              | (go_at_call 30; refine (HR _ _ r1).mono ?_; rintro e w2 ⟨v2, rfl, i2, r2, b2⟩)
              | (go_at_call 24; refine (lists_any (i1.but b2 (fun x hx => by have := h0.r.lt hx; have := b1.size; omega)) i2 (hl1 _) (hl2 _)).mono ?_; rintro e w3 ⟨rfl, d3⟩))
            go_ret
            refine ⟨rfl, ⟨_, _, ⟨(qOn q1 hd b2).keep d3.but, r2.keep d3.but, hd⟩, by have := hK t; omega⟩, ?_⟩
            exact ((hB0.wide.trans (but1 b1)).trans (but2 b2)).trans d3.but
        · have k3' : (k == 3) = false := by simpa using k3
          clear k0 k1 k2 k3
          go_enter Try.func11, Try.ntmps11
          go_wp2_with fail
          go_ret
          exact ⟨rfl, ⟨n, wh, h0, by omega⟩, hB0.wide⟩
end
end Go.Proofs.Ytmjjghhlalaeiaa
