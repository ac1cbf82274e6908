/- Contracts of the reference's Plus, Minus and Cmp, by the numbers that structs are. -/
import Derived.Test.YtdfccjhmpgoacaaNRefA
namespace Go.Proofs.Ytdfccjhmpgoacaa.Big
open Go.RowKit

theorem wd_len {w : World} {s : Value} {ds : List Int} {V : Int} {n : Nat} (_ : Row w s ds) (hd : Dig ds) (hc : Canon ds) (hv : val ds = absI V) (h : absI V < pw n) : ds.length ≤ n :=
  canon_short hd hc (by omega)
theorem pw_abs_neg {V : Int} : absI (-V) = absI V := by unfold absI; split <;> split <;> omega

theorem wplus_any (x y : Value) (V U : Int) (w : World) (hx : Wd w x V) (hy : Wd w y U) (bV : absI V < pw 1000) (bU : absI U < pw 1000) :
    Calls Try.prog 25 #[x, y] w fun e w' => ∃ v, e = .returned v ∧ Wd w' v (V + U) ∧ Below w.heap.size w w' := by
  obtain ⟨s, ds, rfl, ra, da, ca, va⟩ := hx
  obtain ⟨t, es, rfl, rb, db, cb, vb⟩ := hy
  have la := wd_len ra da ca va bV
  have lb := wd_len rb db cb vb bU
  by_cases hV : V < 0
  · rw [decide_eq_true hV]
    by_cases hU : U < 0
    · rw [decide_eq_true hU]
      have h := plus_same true s t ds es w ra rb da db la lb
      rw [va, vb, show turnI true (absI V + absI U) = V + U by simp only [turnI, absI, if_true]; rw [if_pos hV, if_pos hU]; omega] at h
      exact h
    · rw [decide_eq_false hU]
      by_cases hge : val es ≤ val ds
      · have h := plus_diff_ge_t s t ds es w ra rb da db ca cb la (by have := @shorter_lt ds es da db cb; omega) hge
        rw [va, vb, show turnI true (absI V - absI U) = V + U by simp only [turnI, absI, if_true]; rw [if_pos hV, if_neg hU]; omega] at h
        exact h
      · have h := plus_diff_lt_t s t ds es w ra rb da db ca cb lb (by have := @shorter_lt es ds db da ca; omega) (by omega)
        rw [va, vb, show turnI false (absI U - absI V) = V + U by simp only [turnI, absI]; rw [if_pos hV, if_neg hU]; simp; omega] at h
        exact h
  · rw [decide_eq_false hV]
    by_cases hU : U < 0
    · rw [decide_eq_true hU]
      by_cases hge : val es ≤ val ds
      · have h := plus_diff_ge_f s t ds es w ra rb da db ca cb la (by have := @shorter_lt ds es da db cb; omega) hge
        rw [va, vb, show turnI false (absI V - absI U) = V + U by simp only [turnI, absI]; rw [if_neg hV, if_pos hU]; simp] at h
        exact h
      · have h := plus_diff_lt_f s t ds es w ra rb da db ca cb lb (by have := @shorter_lt es ds db da ca; omega) (by omega)
        rw [va, vb, show turnI true (absI U - absI V) = V + U by simp only [turnI, absI, if_true]; rw [if_neg hV, if_pos hU]; omega] at h
        exact h
    · rw [decide_eq_false hU]
      have h := plus_same false s t ds es w ra rb da db la lb
      rw [va, vb, show turnI false (absI V + absI U) = V + U by simp only [turnI, absI]; rw [if_neg hV, if_neg hU]; simp] at h
      exact h

set_option maxHeartbeats 1000000 in
theorem wminus_any (x : Value) (V : Int) (w : World) (hx : Wd w x V) :
    Calls Try.prog 52 #[x] w fun e w' => ∃ v, e = .returned v ∧ Wd w' v (-V) ∧ Below w.heap.size w w' := by
  obtain ⟨s, ds, rfl, ra, da, ca, va⟩ := hx
  obtain ⟨oa, cap, rfl, -, -, -, -⟩ := id ra
  have hR : ∀ o, RC ((w.alloc o).alloc (.cells #[.bool false, .slice none 0 0] 44)) (w.heap.size + 1) := fun o => ⟨by simp [go_sem], by simp [go_sem], by simp [go_sem], by simp [go_sem]⟩
  have HT : Hid (turnI (!(decide (V < 0))) (val ds) = -V) := by
    unfold Hid; rw [va]; unfold turnI absI
    by_cases h : V < 0 <;> simp [h]
  go_enter Try.func52, Try.ntmps52
  go_wp2_with fail
  refine (trim_any (!(decide (V < 0))) _ ds _ ((ra.alloc _).alloc _) da).mono ?_
  rw [HT.out]
  rintro e w1 ⟨v, rfl, hwd, hb⟩
  have rc := RC.step (hR _) (by simp) hb
  obtain ⟨s2, ds2, rfl, hr2, hd2, hc2, hv2⟩ := id hwd
  obtain ⟨o2, c2, rfl, -, -, -, -⟩ := id hr2
  obtain ⟨q0, q1, q2, q3⟩ := id rc
  obtain ⟨nb, hnb⟩ : ∃ nb, Hid (decide (-V < 0) = nb) := ⟨_, rfl⟩
  rw [hnb.out] at hwd ⊢
  have hfin := hwd.set2 (u := .bool nb) (v := .slice o2 ds2.length c2) rc
  clear hwd
  have k : Below w.heap.size w w1 := (((Below.refl _ _).alloc (Nat.le_refl _) _).alloc (by simp) _).trans (hb.mono (by simp; omega))
  go_wp2_with fail
  exact bodyPost_ret (v := .agg #[.bool nb, .slice o2 ds2.length c2]) (by simp [results, Try.results52, go_sem, q0, q1]) rfl ⟨_, rfl, hfin, (k.setCell (by simp) _).setCell (by simp) _⟩

theorem cmp_neg2 (V U : Int) : cmpI (-U) (-V) = cmpI V U := by
  unfold cmpI
  by_cases h : V = U
  · subst h; simp
  · rw [if_neg (by omega), if_neg h]
    by_cases h2 : V < U
    · rw [if_pos (by omega), if_pos h2]
    · rw [if_neg (by omega), if_neg h2]

set_option maxHeartbeats 1000000 in
theorem wcmp_any (x y : Value) (V U : Int) (w : World) (hx : Wd w x V) (hy : Wd w y U) :
    Calls Try.prog 53 #[x, y] w fun e w' => e = .returned (.int .i64 (cmpI V U)) ∧ Below w.heap.size w w' := by
  obtain ⟨s, ds, rfl, ra, da, ca, va⟩ := hx
  obtain ⟨t, es, rfl, rb, db, cb, vb⟩ := hy
  obtain ⟨oa, cap, rfl, -, -, -, -⟩ := id ra
  obtain ⟨ob, cbp, rfl, -, -, -, -⟩ := id rb
  by_cases hV : V < 0
  · rw [decide_eq_true hV]
    by_cases hU : U < 0
    · rw [decide_eq_true hU]
      have HC : Hid (cmpI (val es) (val ds) = cmpI V U) := by
        unfold Hid; rw [va, vb, show absI V = -V by unfold absI; rw [if_pos hV], show absI U = -U by unfold absI; rw [if_pos hU]]; exact cmp_neg2 V U
      go_enter Try.func53, Try.ntmps53
      go_wp2_with fail
      refine (rsize_any _ _ es ds _ ((rb.alloc _).alloc _) ((ra.alloc _).alloc _) db da cb ca).mono ?_
      rw [HC.out]
      rintro e w1 ⟨rfl, hb⟩
      go_wp2_with fail
      go_ret
      exact ⟨rfl, (((Below.refl _ _).alloc (Nat.le_refl _) _).alloc (by simp) _).trans (hb.mono (by simp; omega))⟩
    · rw [decide_eq_false hU, cmp_of_lt (show V < U by omega)]
      go_enter Try.func53, Try.ntmps53
      go_wp2
      go_ret
      exact ⟨rfl, ((Below.refl _ _).alloc (Nat.le_refl _) _).alloc (by simp) _⟩
  · rw [decide_eq_false hV]
    by_cases hU : U < 0
    · rw [decide_eq_true hU, cmp_of_gt (show U < V by omega)]
      go_enter Try.func53, Try.ntmps53
      go_wp2
      go_ret
      exact ⟨rfl, ((Below.refl _ _).alloc (Nat.le_refl _) _).alloc (by simp) _⟩
    · rw [decide_eq_false hU]
      have HC : Hid (cmpI (val ds) (val es) = cmpI V U) := by
        unfold Hid; rw [va, vb, show absI V = V by unfold absI; rw [if_neg hV], show absI U = U by unfold absI; rw [if_neg hU]]
      go_enter Try.func53, Try.ntmps53
      go_wp2_with fail
      refine (rsize_any _ _ ds es _ ((ra.alloc _).alloc _) ((rb.alloc _).alloc _) da db ca cb).mono ?_
      rw [HC.out]
      rintro e w1 ⟨rfl, hb⟩
      go_wp2_with fail
      go_ret
      exact ⟨rfl, (((Below.refl _ _).alloc (Nat.le_refl _) _).alloc (by simp) _).trans (hb.mono (by simp; omega))⟩
end Go.Proofs.Ytdfccjhmpgoacaa.Big
