/- The reference's All. -/
import Derived.Test.YtmjjghhlalaeiaaAct
import Derived.Test.YtmjjghhlalaeiaaWallQ
namespace Go.Proofs.Ytmjjghhlalaeiaa
open Go.RowKit

/-- A row of ids. -/
theorem RowI.setN {w : World} {base g n c : Nat} {q : List Nat} (h : RowI w base (.slice (some ⟨g, 0, none⟩) n c) (ints q)) (j y : Nat) : RowI (w.setCell ⟨g, j, none⟩ (.int .i64 (y : Nat))) base (.slice (some ⟨g, 0, none⟩) n c) (ints (q.set j y)) := by
  have e : ints (q.set j y) = (ints q).set j (y : Int) := by unfold ints; rw [List.map_set]
  rw [e]
  unfold RowI at h ⊢
  rw [List.length_set, List.map_set]
  obtain ⟨_, h2⟩ := h
  refine ⟨by simp, ?_⟩
  rcases h2 with ⟨e, _⟩ | ⟨g', cap, cur, e, hb, hc, h3, h4, h5, h6⟩
  · cases e
  · simp only [Value.slice.injEq, Option.some.injEq, Addr.mk.injEq, and_true] at e
    obtain ⟨rfl, rfl, rfl⟩ := e
    refine .inr ⟨g, _, _, rfl, hb, heap_setCell_same w g j _ 3 (.int .i64 y) hc, h3, h4, by simpa using h5, ?_⟩
    rw [Array.toList_setIfInBounds, List.take_set, h6]
theorem RowI.cellN {w : World} {base g n c : Nat} {q : List Nat} (h : RowI w base (.slice (some ⟨g, 0, none⟩) n c) (ints q)) {j x : Nat} (hj : q[j]? = some x) : w.cell? ⟨g, j, none⟩ = some (.int .i64 (x : Nat)) := by
  obtain ⟨a, c', e, hx⟩ := h.open'
  simp only [Value.slice.injEq] at e
  obtain ⟨rfl, rfl, rfl⟩ := e
  obtain ⟨g', e, hc⟩ := hx j (x : Int) (by unfold ints; rw [List.getElem?_map, hj]; rfl)
  cases e
  exact hc
theorem RowI.fzN {w : World} {base g n c : Nat} {q : List Int} (h : RowI w base (.slice (some ⟨g, 0, none⟩) n c) q) (j : Nat) : w.frozen? ⟨g, j, none⟩ = false := by
  rcases h.2 with ⟨e, _⟩ | ⟨g', cap, cur, e, hb, hc, _⟩
  · cases e
  · simp only [Value.slice.injEq, Option.some.injEq, Addr.mk.injEq, and_true] at e
    obtain ⟨rfl, _, _⟩ := e
    simp [World.frozen?, hc]
theorem set_ins (l : List Nat) (k y z : Nat) (h : k ≤ l.length) : (l.take k ++ y :: l.drop k).set k z = l.take k ++ z :: l.drop k := by
  rw [List.set_append_right _ _ (by rw [List.length_take]; omega)]
  have : k - (l.take k).length = 0 := by rw [List.length_take]; omega
  rw [this]
  rfl
theorem back_ins (l : List Nat) (k y : Nat) (hy : l[k]? = some y) : l.take (k + 1) ++ y :: l.drop (k + 1) = l.take k ++ y :: l.drop k := by
  obtain ⟨hk, e⟩ := List.getElem?_eq_some_iff.1 hy
  rw [List.take_add_one, hy, List.drop_eq_getElem_cons hk, e]
  simp

/-- The first j ids that wait, in order. -/
structure Sj (wh : List Nat) (j : Nat) (q : List Nat) : Prop where
  nd : q.Nodup
  mem : ∀ t, t ∈ q ↔ t < j ∧ wt wh t ≠ 0
  so : q.Pairwise (fun a b => ltW wh b a = false)
theorem Sj.len {wh q : List Nat} {j : Nat} (h : Sj wh j q) : q.length ≤ j := nodup_short h.nd (fun t ht => ((h.mem t).1 ht).1)
theorem Sj.skip {wh q : List Nat} {j : Nat} (h : Sj wh j q) (h0 : wt wh j = 0) : Sj wh (j + 1) q :=
  ⟨h.nd, fun t => by
    rw [h.mem t]
    constructor
    · rintro ⟨a, b⟩; exact ⟨by omega, b⟩
    · rintro ⟨a, b⟩
      refine ⟨?_, b⟩
      rcases Nat.lt_or_ge t j with h' | h'
      · exact h'
      · obtain rfl : t = j := by omega
        exact absurd h0 b, h.so⟩
theorem Sj.ins {wh q : List Nat} {j p : Nat} (h : Sj wh j q) (h0 : wt wh j ≠ 0) (h1 : ∀ z ∈ q.drop p, wt wh j < wt wh z) (h2 : p = 0 ∨ ∃ y, q[p - 1]? = some y ∧ wt wh y ≤ wt wh j) : Sj wh (j + 1) (q.take p ++ j :: q.drop p) := by
  have hjq : j ∉ q := fun e => by have := ((h.mem j).1 e).1; omega
  have hperm : (q.take p ++ j :: q.drop p).Perm (j :: q) := by
    have := (List.perm_middle (a := j) (l₁ := q.take p) (l₂ := q.drop p))
    rwa [List.take_append_drop] at this
  have hso := h.so
  rw [← List.take_append_drop p q, List.pairwise_append] at hso
  obtain ⟨s1, s2, s3⟩ := hso
  have ht : ∀ a ∈ q.take p, wt wh a ≤ wt wh j := fun a ha => by
    rcases h2 with rfl | ⟨y, hy, hle⟩
    · simp at ha
    · obtain ⟨i, hi, e⟩ := List.mem_iff_getElem.1 ha
      rw [List.length_take] at hi
      rw [List.getElem_take] at e
      obtain ⟨hpl, e2⟩ := List.getElem?_eq_some_iff.1 hy
      rcases Nat.lt_or_ge i (p - 1) with hip | hip
      · have := (List.pairwise_iff_getElem.1 h.so) i (p - 1) (by omega) hpl hip
        rw [e, e2] at this
        unfold ltW ltU at this
        simp at this
        omega
      · obtain rfl : i = p - 1 := by omega
        rw [e2] at e
        subst e
        exact hle
  refine ⟨hperm.nodup_iff.2 (List.nodup_cons.2 ⟨hjq, h.nd⟩), fun t => ?_, ?_⟩
  · rw [hperm.mem_iff, List.mem_cons, h.mem t]
    constructor
    · rintro (rfl | ⟨a, b⟩)
      · exact ⟨by omega, h0⟩
      · exact ⟨by omega, b⟩
    · rintro ⟨a, b⟩
      rcases Nat.lt_or_ge t j with h' | h'
      · exact .inr ⟨h', b⟩
      · exact .inl (by omega)
  · rw [List.pairwise_append]
    refine ⟨s1, ?_, ?_⟩
    · rw [List.pairwise_cons]
      refine ⟨fun b hb => ?_, s2⟩
      have := h1 b hb
      unfold ltW ltU
      simp
      omega
    · intro a ha b hb
      rcases List.mem_cons.1 hb with rfl | hb
      · have e1 := ht a ha
        have e2 := ((h.mem a).1 (List.mem_of_mem_take ha)).1
        unfold ltW ltU
        simp
        omega
      · exact s3 a ha b hb
theorem Sj.all {wh q : List Nat} (h : Sj wh wh.length q) : q = allL wh :=
  allL_is ((List.perm_ext_iff_of_nodup h.nd (waitL_nodup wh)).2 (fun t => by
    rw [h.mem t, mem_waitL]
    constructor
    · exact fun h => h.2
    · intro h'
      refine ⟨?_, h'⟩
      rcases Nat.lt_or_ge t wh.length with hl | hl
      · exact hl
      · exact absurd (wt_out hl) h')) h.so

section
variable {w : World} {P : Rp} {N n : Nat} {wh : List Nat}
set_option maxRecDepth 100000 in
set_option maxHeartbeats 8000000 in
theorem rall_any (h : RQ w P N n wh) :
    Calls Try.prog 14 #[.pointer (some ⟨P.B, 0, none⟩)] w fun e w' => ∃ v, e = .returned v ∧ RowI w' w.heap.size v (ints (allL wh)) ∧ Below w.heap.size w w' := by
  have c2 := h.c2
  have hN2 := h.n2
  have hlen := h.len
  go_enter Try.func14, Try.ntmps14
  go_wp2_with fail
  clear c2
  go_loopw [3, 12] (fun p q wr => ∃ (j : Nat) (l : List Nat), j ≤ N ∧ q = .int .i64 j ∧ RowI wr w.heap.size p (ints l) ∧ Sj wh j l ∧ Below w.heap.size w wr) (fun _ q _ => 4096 - (intOf q).toNat)
  case atStart => exact ⟨0, [], by omega, rfl, World.ownsRow_nil w w.heap.size 3 1, ⟨List.nodup_nil, fun t => by simp, List.Pairwise.nil⟩, Below.refl _ _⟩
  case round =>
    obtain ⟨j, l, hj, rfl, hr, hs, hB⟩ := hrel
    have hQ := h.below hB
    have c2 := hQ.c2
    obtain ⟨pa, pc, rfl, -⟩ := hr.open'
    rw [ints_len] at hr ⊢
    have hll := hs.len
    by_cases hjN : j < N
    · have cg := hQ.xg hjN
      have hj3 : (j : Int) < (N : Int) := by omega
      have hj0 : (0 : Int) ≤ (j : Int) := by omega
      by_cases h0 : wt wh j = 0
      · rw [h0] at cg
        have hs' := hs.skip h0
        clear hs h0
        go_wp2_with fail
        go_roundw
        case rel => exact ⟨j + 1, l, by omega, by simp, hr, hs', hB⟩
        case measure =>
          simp [intOf]
          omega
      · have hnz : ((wt wh j : Nat) : Int) ≠ 0 := by omega
        have hnb : (((wt wh j : Nat) : Int) == 0) = false := by simpa using hnz
        have HI : Aside (∀ p, (∀ z ∈ l.drop p, wt wh j < wt wh z) → (p = 0 ∨ ∃ y, l[p - 1]? = some y ∧ wt wh y ≤ wt wh j) → Sj wh (j + 1) (l.take p ++ j :: l.drop p)) := fun p h1 h2 => hs.ins h0 h1 h2
        have HG : Aside (∀ (W : World), Below w.heap.size w W → ∀ y ∈ l, y < N ∧ W.cell? ⟨P.G, y, none⟩ = some (.int .i64 (wt wh y : Nat)) ∧ W.cell? ⟨P.B, 2, none⟩ = some (.slice (some ⟨P.G, 0, none⟩) N P.c)) := fun W hW y hy => by
          have hyN : y < N := by have := ((hs.mem y).1 hy).1; omega
          exact ⟨hyN, (h.below hW).xg hyN, (h.below hW).c2⟩
        clear hs h0 hnz
        have hown : World.ownsRow (wr.alloc (.cells #[.int .i64 (j : Nat)] 3)) w.heap.size 3 1 (.slice pa l.length pc) l.length ((ints l).map (Value.int .i64)) := by
          have := own_alloc hr (.cells #[.int .i64 (j : Nat)] 3)
          rw [ints_len] at this
          exact this
        have hBs := hB.size
        go_wp2_with (first
          | (at_builtin; refine wpList_app rfl _ _ rfl w.heap.size _ _ (ints l) rfl hown _ _ _ [(j : Int)] rfl rfl (reads_one _ _) (by omega) (by simp; omega) ?_; intro v3 w3 ho3 hg3; have hB3 : Below w.heap.size w w3 := (hB.alloc hBs _).grown hg3 (by simp; omega) (fun k e => (hr.lt k e).1)))
        have hr3 : RowI w3 w.heap.size v3 (ints (l.take l.length ++ j :: l.drop l.length)) := by
          unfold RowI
          rw [List.take_length, List.drop_length, ints_len, List.length_append]
          have e : ints (l ++ [j]) = ints l ++ [(j : Int)] := by simp [ints]
          rw [e]
          exact ho3
        obtain ⟨g, vc3, rfl⟩ : ∃ g c, v3 = .slice (some ⟨g, 0, none⟩) (l.length + 1) c := by
          rcases ho3.2 with ⟨_, h0⟩ | ⟨g, cap, cur, e, _⟩
          · omega
          · exact ⟨g, cap, e⟩
        have hbg := (World.ownsRow.lt ho3 g rfl).1
        clear ho3 hg3 hr hB hown hQ c2 cg
        go_loopw [6] (fun q wx => ∃ (p y : Nat), p ≤ l.length ∧ q = .int .i64 p ∧ RowI wx w.heap.size (.slice (some ⟨g, 0, none⟩) (l.length + 1) vc3) (ints (l.take p ++ y :: l.drop p)) ∧ Hid (∀ z ∈ l.drop p, wt wh j < wt wh z) ∧ Below w.heap.size w wx) (fun q _ => (intOf q).toNat)
        case atStart => exact ⟨l.length, j, Nat.le_refl _, rfl, hr3, (show ∀ z ∈ l.drop l.length, wt wh j < wt wh z by rw [List.drop_length]; intro z hz; cases hz), hB3⟩
        case round =>
          clear hr3 hB3
          obtain ⟨p, y, hp, rfl, hr, hz, hB⟩ := hrel
          have hcp := hr.cellN (j := p) (x := y) (by rw [List.getElem?_append_right (by rw [List.length_take]; omega), List.length_take]; simp [Nat.min_eq_left hp])
          have hfp := hr.fzN p
          have hp0 : (0 : Int) ≤ (p : Int) := by omega
          have hp1 : (p : Int) < ((l.length : Int) + 1) := by omega
          have hrd : ∀ k, RowI (wr.drewN k) w.heap.size (.slice (some ⟨g, 0, none⟩) (l.length + 1) vc3) (ints (l.take p ++ y :: l.drop p)) := fun k => hr.but (S := []) (Drawn.but ⟨k, rfl⟩) (by simp)
          have hBd : ∀ k, Below w.heap.size w (wr.drewN k) := fun k => hB.trans ((But.to_below ((But.refl [] wr).drewN k)).mono hB.size)
          have hset := fun k => (hrd k).setN p j
          simp only [set_ins l p y j hp] at hset
          have hBs : ∀ k, Below w.heap.size w ((wr.drewN k).setCell ⟨g, p, none⟩ (.int .i64 (j : Nat))) := fun k => (hBd k).setCell (p := ⟨g, _, none⟩) hbg _
          cases p with
          | zero =>
            have hS : Hid (Sj wh (j + 1) (l.take 0 ++ j :: l.drop 0)) := HI.out 0 hz.out (.inl rfl)
            have hsetH : Hid (∀ k, RowI ((wr.drewN k).setCell ⟨g, 0, none⟩ (.int .i64 (j : Nat))) w.heap.size (.slice (some ⟨g, 0, none⟩) (l.length + 1) vc3) (ints (l.take 0 ++ j :: l.drop 0))) := hset
            have hBsH : Hid (∀ k, Below w.heap.size w ((wr.drewN k).setCell ⟨g, 0, none⟩ (.int .i64 (j : Nat)))) := hBs
            clear hr HG hrd hBd hset hBs HI hz hB
            go_wp2_with fail
            go_quiet (fail)
            go_wp2_with fail
            go_roundw
            case rel => exact ⟨j + 1, _, by omega, by simp, hsetH.out _, hS.out, hBsH.out _⟩
            case measure =>
              simp [intOf]
              omega
          | succ p =>
            have hy2 : l[p]? = some (l[p]'(by omega)) := List.getElem?_eq_getElem (by omega)
            have hcp2 := hr.cellN (j := p) (x := l[p]'(by omega)) (by rw [List.getElem?_append_left (by rw [List.length_take]; omega), List.getElem?_take_of_lt (by omega)]; exact hy2)
            generalize (l[p]'(by omega)) = y2 at hy2 hcp2
            obtain ⟨hyN, hcy, hc2⟩ := HG.out wr hB y2 (List.mem_of_getElem? hy2)
            have e1 : ((p + 1 : Nat) : Int) = (p : Int) + 1 := by omega
            have hq0 : (0 : Int) ≤ (p : Int) := by omega
            have hq1 : (p : Int) < ((l.length : Int) + 1) := by omega
            have hy0 : (0 : Int) ≤ (y2 : Int) := by omega
            have hy1 : (y2 : Int) < (N : Int) := by omega
            obtain ⟨B, hBB⟩ : ∃ B : Int, ((wt wh y2 : Nat) : Int) = B := ⟨_, rfl⟩
            by_cases hgt : wt wh j < wt wh y2
            · have hlt : ((wt wh j : Nat) : Int) < B := by omega
              have hr2 : Hid (∀ k, RowI ((wr.drewN k).setCell ⟨g, p + 1, none⟩ (.int .i64 (y2 : Nat))) w.heap.size (.slice (some ⟨g, 0, none⟩) (l.length + 1) vc3) (ints (l.take p ++ y2 :: l.drop p))) := fun k => by
                have := (hrd k).setN (p + 1) y2
                rwa [set_ins l (p + 1) y y2 hp, back_ins l p y2 hy2] at this
              have hz2 : Hid (∀ z ∈ l.drop p, wt wh j < wt wh z) := fun z hzm => by
                obtain ⟨hpl, e⟩ := List.getElem?_eq_some_iff.1 hy2
                rw [List.drop_eq_getElem_cons hpl, e] at hzm
                rcases List.mem_cons.1 hzm with rfl | hzm
                · exact hgt
                · exact hz.out z hzm
              have hB2 : Hid (∀ k, Below w.heap.size w ((wr.drewN k).setCell ⟨g, p + 1, none⟩ (.int .i64 (y2 : Nat)))) := fun k => (hBd k).setCell (p := ⟨g, _, none⟩) hbg _
              rw [hBB] at hcy
              clear hset hBs hr hz hrd hBd hgt hBB HI HG hB
              go_wp2_with fail
              go_quiet (fail)
              go_wp2_with fail
              go_roundw
              case rel => exact ⟨p, y2, by omega, by trivial, hr2.out _, hz2.out, hB2.out _⟩
              case measure =>
                simp [intOf]
            · have hge : ¬ ((wt wh j : Nat) : Int) < B := by omega
              have hS : Hid (Sj wh (j + 1) (l.take (p + 1) ++ j :: l.drop (p + 1))) := HI.out (p + 1) hz.out (.inr ⟨y2, hy2, by omega⟩)
              have hsetH : Hid (∀ k, RowI ((wr.drewN k).setCell ⟨g, p + 1, none⟩ (.int .i64 (j : Nat))) w.heap.size (.slice (some ⟨g, 0, none⟩) (l.length + 1) vc3) (ints (l.take (p + 1) ++ j :: l.drop (p + 1)))) := hset
              have hBsH : Hid (∀ k, Below w.heap.size w ((wr.drewN k).setCell ⟨g, p + 1, none⟩ (.int .i64 (j : Nat)))) := hBs
              rw [hBB] at hcy
              clear hset hBs hr hz hrd hBd hgt hBB HI HG hB
              go_wp2_with fail
              go_quiet (fail)
              go_wp2_with fail
              go_roundw
              case rel => exact ⟨j + 1, _, by omega, by simp, hsetH.out _, hS.out, hBsH.out _⟩
              case measure =>
                simp [intOf]
                omega
    · obtain rfl : j = N := by omega
      have e : l = allL wh := Sj.all (by rw [hlen]; exact hs)
      rw [e] at hr ⊢
      go_wp2_with fail
      go_ret
      exact ⟨_, rfl, hr, hB⟩
end
end Go.Proofs.Ytmjjghhlalaeiaa
