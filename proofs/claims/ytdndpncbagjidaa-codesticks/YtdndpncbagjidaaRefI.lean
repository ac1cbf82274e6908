/- The reference's source: Ints. -/
import Derived.Test.YtdndpncbagjidaaRefD
namespace Go.Proofs.Ytdndpncbagjidaa
open Go.RowKit

theorem RR.up {w w' : World} {lo M x : Nat} {bs : List UInt8} {S : List Nat} (h : RR w lo M x bs) (hb : But S w w') (hS : ∀ y ∈ S, M < y) : RR w' lo M x bs := by
  have hl := h.lt
  obtain ⟨a, c, h, k, hlo, hG⟩ := h
  exact ⟨a, c, (hb.block M hl (fun e => by have := hS M e; omega)).trans h, k.but hb (fun y hy => by have := hS y hy; omega), hlo, hG⟩
theorem RQ.up {w w' : World} {lo M : Nat} {st : Nat × List UInt8} {S : List Nat} (h : RQ w lo M st) (hb : But S w w') (hS : ∀ y ∈ S, M < y) : RQ w' lo M st := ⟨h.1.up hb hS, h.2⟩

/-- Where reading ints one by one stands. -/
def Stands (least most : Int) (m : Nat) (xs : List Int) (st : Nat × List UInt8) (R : Nat × List Int × List UInt8) : Prop :=
  (st.1 = 0 → joinI xs (intsG least most m st.2) = R) ∧ (st.1 ≠ 0 → R = (st.1, [], []))
theorem Stands.next {least most : Int} {m : Nat} {xs : List Int} {bs : List UInt8} {R : Nat × List Int × List UInt8} (h : Stands least most (m + 1) xs (0, bs) R) :
    Stands least most m (xs ++ [(getS (intT least most) 0 (0, bs)).1]) (getS (intT least most) 0 (0, bs)).2 R := by
  have e := getS_is (f := intT least most) (z := 0) (bs := bs) rfl
  rw [e]
  refine ⟨fun h0 => ?_, fun h0 => ?_⟩
  · have := h.1 rfl
    rw [joinI_ok h0] at this
    exact this
  · have := h.1 rfl
    rw [joinI_no h0] at this
    exact this.symm

section
variable {lo M : Nat} {w : World}
set_option maxHeartbeats 4000000 in
theorem rs44 (st : Nat × List UInt8) (h : RQ w lo M st) (hl : st.2.length ≤ 90000) (count least most : Int) (hm : -9223372036854775808 ≤ count ∧ count ≤ 9223372036854775807) :
    Calls Try.prog 44 #[.pointer (some ⟨M, 0, none⟩), .int .i64 count, .int .i64 least, .int .i64 most] w fun e w' => GotR lo M w (fun (l : List Int) v w' => RowI w' w.heap.size v l) (intsT count least most) [] st e w' := by
  obtain ⟨x, bs⟩ := st
  have hMw := h.lt
  obtain ⟨hr, h2⟩ := h
  simp only at hr h2 hl
  by_cases hx : x = 0
  · subst hx
    have hc := rnum_any hr (by omega)
    by_cases h0 : (numG 0 0 bs).1 = 0
    · have hl64 := numG_lt h0
      have hte := numG_eats (bs := bs) (n := (numG 0 0 bs).2.1) (t := (numG 0 0 bs).2.2) (Prod.ext h0 rfl)
      have e : numG 0 0 bs = (0, (numG 0 0 bs).2.1, (numG 0 0 bs).2.2) := Prod.ext h0 rfl
      generalize (numG 0 0 bs).2.1 = n at e hc hl64
      generalize (numG 0 0 bs).2.2 = t at e hc hte
      rw [h0] at hc
      clear h0
      by_cases hg : upN count < n
      · have HE : Hid (getS (intsT count least most) [] (0, bs) = ([], 8, [])) := Hid.mk (getS_is (show intsT count least most bs = (8, [], []) by simp [intsT, numT, e, hg]))
        clear e
        have hq : (count < 0 ∧ (0 : Int) < n) ∨ (0 ≤ count ∧ count < n) := by unfold upN at hg; omega
        clear hg hl64 hte
        rcases hq with ⟨hm0, k1⟩ | ⟨hm0, k1⟩
        all_goals
          go_enter Try.func44, Try.ntmps44
          go_wp2_with (first | (go_at_call 63; refine hc.mono ?_; rintro e w' ⟨rfl, hq1, hb1⟩; have F := rfail hq1.1 8; have m1 := hq1.1.c1) | (go_at_call 64; refine F.mono ?_; rintro e w2 ⟨rfl, hq2, hb2⟩))
          go_ret
          exact ⟨hb1.trans hb2, by rw [HE.out]; exact hq2, _, rfl, by rw [HE.out]; exact World.ownsRow_nil _ _ 3 1⟩
      · have enm : numT (upN count) bs = (0, n, t) := by simp [numT, e, hg]
        obtain ⟨R, hR⟩ : ∃ R, intsG least most n t = R := ⟨_, rfl⟩
        have HE : Hid (getS (intsT count least most) [] (0, bs) = (R.2.1, R.1, R.2.2)) := Hid.mk (getS_is (show intsT count least most bs = R by simp [intsT, enm, hR]))
        have HS : Hid (Stands least most n [] (0, t) R) := Hid.mk ⟨fun _ => by rw [joinI_nil, hR], fun e => absurd rfl e⟩
        have hq : (count < 0 ∧ ¬ (0 : Int) < n) ∨ (0 ≤ count ∧ ¬ count < n) := by unfold upN at hg; omega
        have hn63 : n ≤ 9223372036854775807 := by unfold upN at hg; omega
        clear enm e hR hg hl64
        rcases hq with ⟨hm0, k1⟩ | ⟨hm0, k1⟩
        all_goals
          go_enter Try.func44, Try.ntmps44
          go_wp2_with (first | (go_at_call 63; refine hc.mono ?_; rintro e w' ⟨rfl, hq1, hb1⟩; have m1 := hq1.1.c1))
          have Hk1 := Hid.mk k1
          clear hc hr m1 k1 hm0
          go_loopw [9, 10] (fun q v wr => ∃ (z : Int) (m : Nat) (xs : List Int) (st : Nat × List UInt8), q = .int .u64 z ∧ Hid ((m : Int) = z) ∧ m ≤ n ∧ RowI wr w.heap.size v xs ∧ RQ wr lo M st ∧ xs.length + st.2.length ≤ t.length + 1 ∧ (st.1 = 0 → xs.length + st.2.length ≤ t.length) ∧ Hid (Stands least most m xs st R) ∧ But [M] w wr) (fun q _ _ => (intOf q).toNat)
          case atStart => exact ⟨n, n, [], (0, t), rfl, Hid.mk rfl, Nat.le_refl _, World.ownsRow_nil _ _ 3 1, hq1, by simp, by simp, HS, hb1⟩
          case round =>
            obtain ⟨z, m, xs, ⟨y, t1⟩, rfl, HZ, hmn, hrow, hq2, hle, hle0, HS2, hb2⟩ := hrel
            simp only at hle hle0
            have m2 := hq2.1.c1
            simp only at m2
            have k2 : z ≤ 9223372036854775807 := by have := HZ.out; omega
            have k3 : 0 ≤ z := by have := HZ.out; omega
            by_cases hy : y = 0
            · subst hy
              by_cases hm0 : 0 < m
              · try (exfalso; have := Hk1.out; omega)
                all_goals
                  obtain ⟨m', Hm⟩ : ∃ m', Hid (m = m' + 1) := ⟨m - 1, Hid.mk (by omega)⟩
                  have k4 : 0 < z := by have := HZ.out; omega
                  have hle1 := hle0 rfl
                  have hci := rs41 (0, t1) hq2 (by simp only; omega) least most
                  replace hci : Calls Try.prog 41 #[.pointer (some ⟨M, 0, none⟩), .int .i64 least, .int .i64 most] wr fun e w' => e = .returned (.int .i64 (getS (intT least most) 0 (0, t1)).1) ∧ RQ w' lo M (getS (intT least most) 0 (0, t1)).2 ∧ But [M] wr w' := hci.mono (fun e w' ⟨h1, h2, v, h3, h4⟩ => ⟨by rw [h3, h4], h2, h1⟩)
                  have HN : Hid (Stands least most m' (xs ++ [(getS (intT least most) 0 (0, t1)).1]) (getS (intT least most) 0 (0, t1)).2 R) := Hid.mk (by
                    have := HS2.out
                    rw [Hm.out] at this
                    exact this.next)
                  have hea : (getS (intT least most) 0 (0, t1)).2.1 = 0 → (getS (intT least most) 0 (0, t1)).2.2.length + 1 ≤ t1.length := fun e => by
                    rw [getS_is (f := intT least most) rfl] at e ⊢
                    exact intT_eats e
                  have hea2 : (getS (intT least most) 0 (0, t1)).2.1 ≠ 0 → (getS (intT least most) 0 (0, t1)).2.2.length = 0 := fun e => by
                    rw [getS_is (f := intT least most) rfl] at e ⊢
                    rw [intT_err e]
                    rfl
                  generalize (getS (intT least most) 0 (0, t1)).1 = v1 at hci HN
                  generalize (getS (intT least most) 0 (0, t1)).2 = st2 at hci HN hea hea2
                  obtain ⟨y1, t2⟩ := st2
                  simp only at hea hea2
                  have HA := Hid.mk hea
                  have HB := Hid.mk hea2
                  have Hl := Hid.mk hle1
                  clear hea hea2 HS2 hle0 hle1 hle hm0
                  have hsz := hb2.size
                  go_wp2_with (first
                    | (go_at_call 41; refine hci.mono ?_; rintro e w3 ⟨rfl, hq3, hb3⟩; have hr3 : RowI w3 w.heap.size _ xs := hrow.but hb3 (by simpa using hMw); have hz3 := hb3.size)
                    | (at_builtin; refine wpList_app rfl _ _ rfl w.heap.size _ _ xs rfl (World.ownsRow.alloc hr3 _) _ _ _ [v1] rfl rfl (reads_one _ _) (by have := Hl.out; omega) (by simp; omega) ?_; intro v4 w4 ho4 hg4; have hb4 : But [M] w w4 := (((hb2.trans hb3).alloc _).grown hg4 (fun k e => (World.ownsRow.lt hr3 k e).1))))
                  go_roundw
                  case rel =>
                    refine ⟨_, m', xs ++ [v1], (y1, t2), rfl, Hid.mk ?_, by have := Hm.out; omega, by unfold RowI; rw [List.length_append]; exact ho4, (hq3.keep ((But.refl [] w3).alloc _)).up (But.of_grown hg4) (fun y hy => ?_), ?_, ?_, HN, hb4⟩
                    · have := HZ.out
                      have := Hm.out
                      omega
                    · have := (World.ownsRow.lt hr3 y (Option.mem_toList.1 hy)).1
                      omega
                    · have h1 := HA.out
                      have h2 := HB.out
                      have := Hl.out
                      simp only [List.length_append, List.length_cons, List.length_nil]
                      by_cases e : y1 = 0
                      · have := h1 e
                        omega
                      · have := h2 e
                        omega
                    · intro e
                      have := HA.out e
                      have := Hl.out
                      simp only [List.length_append, List.length_cons, List.length_nil]
                      omega
                  case measure =>
                    simp [intOf]
                    omega
              · have hm00 : m = 0 := by omega
                have k4 : ¬ 0 < z := by have := HZ.out; omega
                have hR : R = (0, xs, t1) := by
                  have := HS2.out.1 rfl
                  rw [hm00, joinI_end] at this
                  exact this.symm
                subst hR
                clear HS2 hm00 hm0
                go_wp2_with fail
                go_ret
                exact ⟨hb2, by rw [HE.out]; exact hq2, _, rfl, by rw [HE.out]; exact hrow⟩
            · have k5 : ¬ (y : Int) = 0 := by omega
              have k6 : ((y : Int) == 0) = false := by simp; omega
              have hR : R = (y, [], []) := HS2.out.2 hy
              have ht1 : t1 = [] := hq2.2 hy
              subst hR ht1
              by_cases hm0 : 0 < m
              · have k4 : 0 < z := by have := HZ.out; omega
                clear HS2 hm0
                go_wp2_with fail
                go_ret
                exact ⟨hb2, by rw [HE.out]; exact hq2, _, rfl, by rw [HE.out]; exact World.ownsRow_nil _ _ 3 1⟩
              · have k4 : ¬ 0 < z := by have := HZ.out; omega
                clear HS2 hm0
                go_wp2_with fail
                go_ret
                exact ⟨hb2, by rw [HE.out]; exact hq2, _, rfl, by rw [HE.out]; exact World.ownsRow_nil _ _ 3 1⟩
    · have HE : Hid (getS (intsT count least most) [] (0, bs) = ([], (numG 0 0 bs).1, [])) := Hid.mk (getS_is (show intsT count least most bs = ((numG 0 0 bs).1, [], []) by simp [intsT, numT, h0]))
      have e2 : (numG 0 0 bs).2.2 = [] := by rw [numG_err _ _ _ h0]
      rw [e2] at hc
      clear e2
      generalize (numG 0 0 bs).2.1 = n at *
      generalize (numG 0 0 bs).1 = y at *
      have k : ¬ (y : Int) = 0 := by omega
      go_enter Try.func44, Try.ntmps44
      go_wp2_with (first | (go_at_call 63; refine hc.mono ?_; rintro e w' ⟨rfl, hq1, hb1⟩; have m1 := hq1.1.c1))
      go_ret
      exact ⟨hb1, by rw [HE.out]; exact hq1, _, rfl, by rw [HE.out]; exact World.ownsRow_nil _ _ 3 1⟩
  · have hc := rnum_err hr hx
    have m1 := hr.c1
    have k : ¬ (x : Int) = 0 := by omega
    go_enter Try.func44, Try.ntmps44
    go_wp2_with (first | (go_at_call 63; refine hc.mono ?_; rintro e w' ⟨rfl, rfl⟩))
    go_ret
    exact ⟨But.refl _ _, by rw [getS_err _ _ hx]; exact ⟨hr, h2⟩, _, rfl, by rw [getS_err _ _ hx]; exact World.ownsRow_nil _ _ 3 1⟩
end

end Go.Proofs.Ytdndpncbagjidaa
