/- Contracts of slices.IndexFunc and slices.DeleteFunc of requests, with Cancel's closure; of Cancel. -/
import Derived.Test.YtdhgffnlocgfkaaFin
namespace Go.Proofs.Ytdhgffnlocgfkaa
open Go.RowKit

theorem cl_any {w : World} {X : Nat} {s : Int} (hX : w.cell? ⟨X, 0, none⟩ = some (.int .i64 s)) (i p t k z : Int) :
    Calls Try.prog 36 #[.agg #[.int .i64 i, .int .i64 p, .int .i64 t, .int .i64 k, .int .i64 z], .pointer (some ⟨X, 0, none⟩)] w fun e w' => e = .returned (.bool (decide (p = s))) ∧ Below w.heap.size w w' := by
  have hb : Below w.heap.size w (w.alloc (.cells #[.int .i64 i, .int .i64 p, .int .i64 t, .int .i64 k, .int .i64 z] 29)) := (Below.refl _ _).alloc (Nat.le_refl _) _
  have hX' := cell_on hb hX
  by_cases h : p = s
  · subst h
    go_enter Try.func36, Try.ntmps36
    go_wp2_with fail
    go_ret
    exact ⟨by simp, hb⟩
  · have h' : (p == s) = false := by simpa using h
    rw [decide_eq_false h]
    go_enter Try.func36, Try.ntmps36
    go_wp2_with fail
    go_ret
    exact ⟨rfl, hb⟩

/-- The first place of a space's. -/
def Idx (xs : List Rq) (s z : Int) : Prop := (z = -1 ∧ ∀ j, j < xs.length → (rq xs j).2.1 ≠ s) ∨ ∃ k : Nat, z = k ∧ k < xs.length ∧ (rq xs k).2.1 = s ∧ ∀ j, j < k → (rq xs j).2.1 ≠ s

set_option maxHeartbeats 1000000 in
theorem idx_any {w : World} {X c : Nat} {a : Option Addr} {s : Int} {xs : List Rq} (hx : RV w a xs) (hX : w.cell? ⟨X, 0, none⟩ = some (.int .i64 s)) (hn : xs.length ≤ 4096) :
    Calls Try.prog 38 #[.slice a xs.length c, .func (.func 36) #[] #[.pointer (some ⟨X, 0, none⟩)]] w fun e w' => ∃ z, e = .returned (.int .i64 z) ∧ Idx xs s z ∧ Below w.heap.size w w' := by
  go_enter Try.func38, Try.ntmps38
  go_wp2_with fail
  go_loopw [8, 5] (fun v _ wr => ∃ j : Nat, j ≤ xs.length ∧ v = .int .i64 j ∧ (∀ i, i < j → (rq xs i).2.1 ≠ s) ∧ Below w.heap.size w wr) (fun v _ _ => 4096 - (intOf v).toNat)
  case atStart => exact ⟨0, Nat.zero_le _, rfl, fun i hi => by omega, Below.refl _ _⟩
  case round =>
    obtain ⟨j, hj, rfl, hall, hb⟩ := hrel
    by_cases hlt : j < xs.length
    · obtain ⟨b, o, rfl, c0, c1, c2, c3, c4⟩ := hx.below hb j hlt
      have hlt' : (j : Int) < (xs.length : Int) := by omega
      have hX' := cell_on hb hX
      have HALL : Hid (∀ i, i < j → (rq xs i).2.1 ≠ s) := hall
      obtain ⟨r, hr⟩ : ∃ r, Hid (rq xs j = r) := ⟨_, rfl⟩
      rw [hr.out] at c0 c1 c2 c3 c4
      obtain ⟨ri, rs, rt, rk, rz⟩ := r
      dsimp only at c0 c1 c2 c3 c4
      have CL := cl_any hX' ri rs rt rk rz
      clear hall
      by_cases he : rs = s
      · rw [decide_eq_true he] at CL
        have HE : Hid (rs = s) := he
        clear he
        go_wp2_with (first | (go_at_call 36; (with_reducible refine CL.mono ?_); rintro e w1 ⟨rfl, b1⟩))
        go_ret
        exact ⟨_, rfl, .inr ⟨j, rfl, hlt, by rw [hr.out]; exact HE.out, HALL.out⟩, below2 hb hb.size b1⟩
      · rw [decide_eq_false he] at CL
        have HE : Hid (∀ i, i < j + 1 → (rq xs i).2.1 ≠ s) := fun i hi => by
          by_cases h : i = j
          · rw [h, hr.out]; exact he
          · exact HALL.out i (by omega)
        clear he
        go_wp2_with (first | (go_at_call 36; (with_reducible refine CL.mono ?_); rintro e w1 ⟨rfl, b1⟩))
        go_roundw
        case rel => exact ⟨j + 1, by omega, by simp, HE.out, below2 hb hb.size b1⟩
        case measure =>
          simp [intOf]
          omega
    · obtain rfl : j = xs.length := by omega
      have HALL : Hid (∀ i, i < xs.length → (rq xs i).2.1 ≠ s) := hall
      clear hall
      go_wp2_with fail
      go_ret
      exact ⟨_, rfl, .inl ⟨rfl, HALL.out⟩, hb⟩

/-- On the way: i that stay, of the first j. -/
structure KI (xs : List Rq) (s : Int) (i j : Nat) (ys : List Rq) : Prop where
  len : ys.length = xs.length
  lt : i < j
  le : j ≤ xs.length
  low : ys.take i = canX (xs.take j) s
  high : ys.drop j = xs.drop j
theorem take_next {xs : List Rq} {j : Nat} (hj : j < xs.length) : xs.take (j + 1) = xs.take j ++ [rq xs j] := by
  rw [List.take_add_one, rq_get hj]; rfl
theorem canX_app (xs ys : List Rq) (s : Int) : canX (xs ++ ys) s = canX xs s ++ canX ys s := by simp [canX]
theorem canX_one_in {r : Rq} {s : Int} (h : r.2.1 ≠ s) : canX [r] s = [r] := by simp [canX, h]
theorem canX_one_out {r : Rq} {s : Int} (h : r.2.1 = s) : canX [r] s = [] := by simp [canX, h]
theorem canX_all {xs : List Rq} {s : Int} (h : ∀ j, j < xs.length → (rq xs j).2.1 ≠ s) : canX xs s = xs := by
  unfold canX
  rw [List.filter_eq_self]
  intro r hr
  obtain ⟨j, hj, e⟩ := List.mem_iff_getElem.1 hr
  have h1 := h j hj
  have h2 := rq_get hj
  rw [List.getElem?_eq_getElem hj, Option.some.injEq] at h2
  rw [← h2, e] at h1
  simpa using h1
theorem KI.nth {xs ys : List Rq} {s : Int} {i j : Nat} (h : KI xs s i j ys) (hj : j < xs.length) : rq ys j = rq xs j := by
  have e := congrArg (fun l => l[0]?) h.high
  simp only [List.getElem?_drop, Nat.add_zero] at e
  rw [rq_get hj, rq_get (by rw [h.len]; exact hj), Option.some.injEq] at e
  exact e
theorem KI.start {xs : List Rq} {s : Int} {k : Nat} (hk : k < xs.length) (he : (rq xs k).2.1 = s) (hall : ∀ j, j < k → (rq xs j).2.1 ≠ s) : KI xs s k (k + 1) xs := by
  refine ⟨rfl, by omega, by omega, ?_, rfl⟩
  rw [take_next hk, canX_app, canX_one_out he, List.append_nil, canX_all (fun j hj => ?_)]
  rw [List.length_take] at hj
  have : rq (xs.take k) j = rq xs j := by
    unfold rq
    rw [List.getD_eq_getElem?_getD, List.getD_eq_getElem?_getD, List.getElem?_take_of_lt (by omega)]
  rw [this]
  exact hall j (by omega)
theorem KI.skip {xs ys : List Rq} {s : Int} {i j : Nat} (h : KI xs s i j ys) (hj : j < xs.length) (he : (rq xs j).2.1 = s) : KI xs s i (j + 1) ys := by
  refine ⟨h.len, by have := h.lt; omega, by omega, ?_, ?_⟩
  · rw [take_next hj, canX_app, canX_one_out he, List.append_nil, h.low]
  · rw [← List.drop_drop, ← List.drop_drop, h.high]
theorem KI.stay {xs ys : List Rq} {s : Int} {i j : Nat} (h : KI xs s i j ys) (hj : j < xs.length) (he : (rq xs j).2.1 ≠ s) : KI xs s (i + 1) (j + 1) (ys.set i (rq xs j)) := by
  have h1 := h.lt
  have h2 := h.len
  refine ⟨by rw [List.length_set]; exact h.len, by omega, by omega, ?_, ?_⟩
  · rw [take_next hj, canX_app, canX_one_in he, ← h.low, List.take_add_one, List.getElem?_set_self (by omega), List.take_set_of_le (by omega)]
    rfl
  · rw [List.drop_set_of_lt (by omega), ← List.drop_drop, ← List.drop_drop, h.high]

theorem Ow.set5 {w : World} {g c n i : Nat} {ys : List Rq} (h : Ow w 29 0 (.slice (some ⟨g, 0, none⟩) n c) ys) (hi : i < ys.length) (r : Rq) :
    Ow (((((w.setCell ⟨g, i * 5, none⟩ (.int .i64 r.1)).setCell ⟨g, i * 5 + 1, none⟩ (.int .i64 r.2.1)).setCell ⟨g, i * 5 + 2, none⟩ (.int .i64 r.2.2.1)).setCell ⟨g, i * 5 + 3, none⟩ (.int .i64 r.2.2.2.1)).setCell ⟨g, i * 5 + 4, none⟩ (.int .i64 r.2.2.2.2)) 29 0 (.slice (some ⟨g, 0, none⟩) n c) (ys.set i r) := by
  obtain ⟨e, -⟩ := h.row
  subst e
  have s0 := (World.ownsRow.stored h (i * 5) (.int .i64 r.1)).1
  have s1 := (s0.stored (i * 5 + 1) (.int .i64 r.2.1)).1
  have s2 := (s1.stored (i * 5 + 2) (.int .i64 r.2.2.1)).1
  have s3 := (s2.stored (i * 5 + 3) (.int .i64 r.2.2.2.1)).1
  have s4 := (s3.stored (i * 5 + 4) (.int .i64 r.2.2.2.2)).1
  unfold Ow
  rw [flat_set r (rq_get hi), List.length_set]
  exact s4
theorem Ow.rv {w : World} {t : TypeId} {B n c : Nat} {a : Option Addr} {xs : List Rq} (h : Ow w t B (.slice a n c) xs) : RV w a xs := by
  obtain ⟨a', c', e, _, hr, _⟩ := h.sl
  cases e
  exact hr
theorem Ow.fz {w : World} {g n c : Nat} {xs : List Rq} (h : Ow w 29 0 (.slice (some ⟨g, 0, none⟩) n c) xs) (j : Nat) : w.frozen? ⟨g, j, none⟩ = false := by
  obtain ⟨_, cur, hg, _⟩ := h.row
  simp [World.frozen?, hg]

set_option maxHeartbeats 2000000 in
theorem delf_any {w : World} {X c : Nat} {a : Option Addr} {s : Int} {xs : List Rq} (ho : Ow w 29 0 (.slice a xs.length c) xs) (hX : w.cell? ⟨X, 0, none⟩ = some (.int .i64 s)) (hXo : (Value.slice a xs.length c).ownBlock ≠ some X) (hn : xs.length ≤ 4096) :
    Calls Try.prog 35 #[.slice a xs.length c, .func (.func 36) #[] #[.pointer (some ⟨X, 0, none⟩)]] w fun e w' => ∃ v', e = .returned v' ∧ Ow w' 29 0 v' (canX xs s) ∧ v'.ownBlock = (Value.slice a xs.length c).ownBlock ∧ But (Value.slice a xs.length c).ownBlock.toList w w' := by
  have IX := idx_any (c := c) ho.rv hX hn
  go_enter Try.func35, Try.ntmps35
  go_upto_region 2 with (first | (go_at_call 38; (with_reducible refine IX.mono ?_); rintro e w1 ⟨z, rfl, hz, b1⟩))
  clear IX
  rcases hz with ⟨rfl, hall⟩ | ⟨k0, rfl, hk0, he0, hall⟩
  · have hA : Hid (canX xs s = xs) := canX_all hall
    clear hall
    go_wp2_with fail
    go_ret
    refine ⟨_, rfl, ?_, rfl, .of_below b1⟩
    rw [hA.out]
    exact ho.below b1
  · obtain ⟨g, rfl⟩ : ∃ g, a = some ⟨g, 0, none⟩ := by
      rcases ho.2 with ⟨_, h0⟩ | ⟨g, cap, cur, e2, _⟩
      · omega
      · cases e2; exact ⟨g, rfl⟩
    have K0 := KI.start hk0 he0 hall
    have hgX : g ≠ X := fun e => hXo (by rw [e]; rfl)
    have hne : ((k0 : Int) == -1) = false := by simp
    have h1 := ho.below b1
    have hX1 := cell_on b1 hX
    have B1 : But [g] w w1 := .of_below b1
    have hlc := ho.row.2
    clear hall he0 b1 hXo
    go_wp2_with fail
    go_loopw [5, 6, 7] (fun s5 s6 _ wr => ∃ (i j : Nat) (ys : List Rq), s5 = .int .i64 i ∧ s6 = .int .i64 j ∧ KI xs s i j ys ∧ Ow wr 29 0 (.slice (some ⟨g, 0, none⟩) xs.length c) ys ∧ wr.cell? ⟨X, 0, none⟩ = some (.int .i64 s) ∧ But [g] w wr) (fun _ s6 _ _ => 4096 - (intOf s6).toNat)
    case atStart => exact ⟨k0, k0 + 1, xs, rfl, by simp, K0, h1, hX1, B1⟩
    case round =>
      clear K0 h1 hX1 B1 hX ho hne
      obtain ⟨i, j, ys, rfl, rfl, hK, ho, hX, hB⟩ := hrel
      have hij := hK.lt
      have hjn := hK.le
      have hlen := hK.len
      by_cases hlt : j < xs.length
      · obtain ⟨b, o, eb, c0, c1, c2, c3, c4⟩ := ho.rv j (by rw [hlen]; exact hlt)
        cases eb
        rw [hK.nth hlt] at c0 c1 c2 c3 c4
        rw [Nat.zero_add] at c0 c1 c2 c3 c4
        obtain ⟨b, o, eb, d0, d1, d2, d3, d4⟩ := ho.rv i (by omega)
        cases eb
        rw [Nat.zero_add] at d0 d1 d2 d3 d4
        obtain ⟨r, hr⟩ : ∃ r, Hid (rq xs j = r) := ⟨_, rfl⟩
        rw [hr.out] at c0 c1 c2 c3 c4
        obtain ⟨ri, rs, rt, rk, rz⟩ := r
        dsimp only at c0 c1 c2 c3 c4
        have hlt' : (j : Int) < (xs.length : Int) := by omega
        have hit' : (i : Int) < (xs.length : Int) := by omega
        have hba : Below wr.heap.size wr (wr.alloc (.cells #[.int .i64 ri, .int .i64 rs, .int .i64 rt, .int .i64 rk, .int .i64 rz] 29)) := (Below.refl _ _).alloc (Nat.le_refl _) _
        have CL := cl_any (cell_on hba hX) ri rs rt rk rz
        have hn5 := at5_new wr ri rs rt rk rz 29
        have hgl : g < wr.heap.size := by have := (World.ownsRow.lt ho g rfl).2; exact this
        have dd : At5 wr g (i * 5) (rq ys i) := ⟨d0, d1, d2, d3, d4⟩
        have fz := ho.fz
        have HI : Hid (ys.length = xs.length) := hlen
        have HT : ∀ W, Below (wr.alloc (.cells #[.int .i64 ri, .int .i64 rs, .int .i64 rt, .int .i64 rk, .int .i64 rz] 29)).heap.size (wr.alloc (.cells #[.int .i64 ri, .int .i64 rs, .int .i64 rt, .int .i64 rk, .int .i64 rz] 29)) W → At5 W wr.heap.size 0 (ri, rs, rt, rk, rz) ∧ At5 W g (i * 5) (rq ys i) ∧ (∀ j, W.frozen? ⟨g, j, none⟩ = false) ∧ Ow W 29 0 (.slice (some ⟨g, 0, none⟩) xs.length c) ys ∧ W.cell? ⟨X, 0, none⟩ = some (.int .i64 s) ∧ But [g] w W := fun W b => ⟨hn5.below b, (dd.below hba).below b, fz_on (S := []) (But.of_below b) (by simp; omega) (by simp) (fz_on (S := []) (But.of_below hba) hgl (by simp) fz), (ho.below hba).below b, cell_on b (cell_on hba hX), (hB.trans (.of_below hba)).trans (.of_below b)⟩
        clear d0 d1 d2 d3 d4 dd fz hn5 hX hlen
        by_cases he : rs = s
        · rw [decide_eq_true he] at CL
          have KK : Hid (KI xs s i (j + 1) ys) := hK.skip hlt (by rw [hr.out]; exact he)
          clear he hK
          go_wp2_with (first | (go_at_call 36; (with_reducible refine CL.mono ?_); rintro e w2 ⟨rfl, b2⟩))
          obtain ⟨_, _, _, t3, t4, t5⟩ := HT _ b2
          go_roundw
          case rel => exact ⟨i, j + 1, ys, rfl, by simp, KK.out, t3, t4, t5⟩
          case measure =>
            simp [intOf]
            omega
        · rw [decide_eq_false he] at CL
          have KK : Hid (KI xs s (i + 1) (j + 1) (ys.set i (ri, rs, rt, rk, rz))) := by have := hK.stay hlt (by rw [hr.out]; exact he); rw [hr.out] at this; exact this
          clear he hK
          go_wp2_with (first | (go_at_call 36; (with_reducible refine CL.mono ?_); rintro e w2 ⟨rfl, b2⟩; obtain ⟨⟨u0, u1, u2, u3, u4⟩, ⟨v0, v1, v2, v3, v4⟩, f, t3, t4, t5⟩ := HT _ b2; have f0 := f (i * 5); have f1 := f (i * 5 + 1); have f2 := f (i * 5 + 2); have f3 := f (i * 5 + 3); have f4 := f (i * 5 + 4)))
          go_roundw
          case rel =>
            have bb := But.set5 t5 (g := g) (o := i * 5) (by simp) (.int .i64 ri) (.int .i64 rs) (.int .i64 rt) (.int .i64 rk) (.int .i64 rz)
            have bc := But.set5 (But.refl [g] w2) (g := g) (o := i * 5) (by simp) (.int .i64 ri) (.int .i64 rs) (.int .i64 rt) (.int .i64 rk) (.int .i64 rz)
            exact ⟨i + 1, j + 1, _, by simp, by simp, KK.out, t3.set5 (by rw [HI.out]; omega) (ri, rs, rt, rk, rz), bc.cell' t4 (by simp; omega), bb⟩
          case measure =>
            simp [intOf]
            omega
      · obtain rfl : j = xs.length := by omega
        have hlow := hK.low
        rw [List.take_length] at hlow
        obtain ⟨cur, r1, h3, h4, h5, h6⟩ := ho.row.2
        rw [hlen] at h3 h6
        obtain ⟨W2, hcl, b2, cur2, r2, s2, e2⟩ := run_clr (w := wr) (g := g) (o := i * 5) (n := xs.length - i) (c := c - i) (by omega) r1 (by rw [h5]; omega)
        have hci : (canX xs s).length = i := by rw [← hlow, List.length_take]; omega
        have hfin : Ow W2 29 0 (.slice (some ⟨g, 0, none⟩) i c) (canX xs s) := by
          have := Ow.mk_ (xs := canX xs s) (c := c) r2 (by omega) h4 (by omega) (by rw [hci, e2, ← hlow, flat_take, ← h6, List.take_take]; congr 1; omega)
          rw [hci] at this
          exact this
        have hbf := hB.trans b2
        have hic : i ≤ c := by omega
        have hin : (i : Int) ≤ (xs.length : Int) := by omega
        have hnc : (xs.length : Int) ≤ (c : Int) := by omega
        have hci' : ¬ c = i := by omega
        clear hK hlow hci h6 h5 ho hB b2 r2 s2 e2 r1 hlen
        go_wp2_with fail
        go_ret
        exact ⟨_, rfl, hfin, rfl, hbf⟩
end Go.Proofs.Ytdhgffnlocgfkaa
