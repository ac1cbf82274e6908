/- The contract of the reference's Parted. -/
import Derived.Test.YtlhiabfhokeihaaPart
import Derived.Test.YtlhiabfhokeihaaPartN
import Derived.Test.YtlhiabfhokeihaaRefF
namespace Go.Proofs.Ytlhiabfhokeihaa
open Go.RowKit

theorem parted_any (x y : Value) (V U : Int) (w : World) (hx : Wd w x V) (hy : Wd w y U) (bV : absI V < pw 500) (bU : absI U < pw 500) (hU : U ≠ 0) :
    Calls Try.prog 35 #[x, y] w fun e w' => ∃ v1 v2 q r, e = .returned (.tuple #[v1, v2]) ∧ Wd w' v1 q ∧ Wd w' v2 r ∧ DivOf V U q r ∧ Below w.heap.size w w' := by
  obtain ⟨s, ds, rfl, ra, da, ca, va⟩ := id hx
  obtain ⟨t, es, rfl, rb, db, cb, vb⟩ := id hy
  obtain ⟨oa, cpa, rfl, -, -, -, -⟩ := id ra
  obtain ⟨ob, cpb, rfl, -, -, -, -⟩ := id rb
  have la : ds.length ≤ 500 := canon_short da ca (by rw [va]; exact bV)
  have lb : es.length ≤ 500 := canon_short db cb (by rw [vb]; exact bU)
  have hB : 0 < val es := by rw [vb]; unfold absI; split <;> omega
  refine (parted_core (decide (V < 0)) (decide (U < 0)) oa ob cpa cpb ds es w ra rb da db la lb hB cb V U hx hy bV bU).mono ?_
  rintro e w' ⟨v1, v2, rfl, h1, h2, h3⟩
  rw [va, vb] at h1 h2
  exact ⟨v1, v2, _, _, rfl, h1, h2, part_div hU, h3⟩

theorem big5 {a : Int} (ha0 : -9223372036854775808 ≤ a) (ha1 : a ≤ 9223372036854775807) : absI a < pw 500 := by
  have h1 := abs_bd ha0 ha1
  have h2 := pw_le (show 4 ≤ 500 by omega)
  rw [pw4] at h2
  omega
theorem big5_mul {a b : Int} (ha0 : -9223372036854775808 ≤ a) (ha1 : a ≤ 9223372036854775807) (hb0 : -9223372036854775808 ≤ b) (hb1 : b ≤ 9223372036854775807) : absI (a * b) < pw 500 := by
  have h1 := abs_bd ha0 ha1
  have h2 := abs_bd hb0 hb1
  have h3 := pw_le (show 9 ≤ 500 by omega)
  rw [pw9] at h3
  rw [abs_mul]
  have h4 := abs_ge b
  have h5 : absI a * absI b ≤ 18446744073709551616 * absI b := Int.mul_le_mul_of_nonneg_right (by omega) h4
  omega

set_option maxHeartbeats 1000000 in
theorem rdiv_walk (a b : Int) (w : World) (ha0 : -9223372036854775808 ≤ a) (ha1 : a ≤ 9223372036854775807) (hb0 : -9223372036854775808 ≤ b) (hb1 : b ≤ 9223372036854775807) (hb : b ≠ 0) :
    Calls Try.prog 17 #[.int .i64 a, .int .i64 b] w fun e w' => ∃ q r, DivOf a b q r ∧ (fitsB q = true → e = .returned (.tuple #[.int .i64 q, .int .i64 r, .bool true])) ∧ (fitsB q = false → e = .returned (.tuple #[.int .i64 0, .int .i64 0, .bool false])) ∧ Below w.heap.size w w' := by
  have hbb : (b == 0) = false := by simpa using hb
  have b5a := big5 ha0 ha1
  have b5b := big5 hb0 hb1
  have P := fun x y W hx hy => parted_any x y a b W hx hy b5a b5b hb
  clear b5a b5b
  go_enter Try.func17, Try.ntmps17
  go_wp2_with fail
  refine (of_any a _ ha0 ha1).mono ?_
  rintro e w1 ⟨x1, rfl, hx1, b1⟩
  go_wp2_with fail
  refine (of_any b _ hb0 hb1).mono ?_
  rintro e w2 ⟨x2, rfl, hx2, b2⟩
  have k2 := below2 b1 b1.size b2
  go_wp2_with fail
  refine (P x1 x2 _ (hx1.below b2) hx2).mono ?_
  rintro e w3 ⟨v1, v2, q, r, rfl, hq, hr, hD, b3⟩
  have k3 := below2 k2 k2.size b3
  clear k2 b3 b2 b1 hx1 hx2
  obtain ⟨s1, d1, rfl, r1, dg1, cn1, e1⟩ := id hq
  obtain ⟨s2, d2, rfl, r2, dg2, cn2, e2⟩ := id hr
  obtain ⟨o1, c1, rfl, -, -, -, -⟩ := id r1
  obtain ⟨o2, c2, rfl, -, -, -, -⟩ := id r2
  obtain ⟨n1, hn1⟩ : ∃ n1, Hid (decide (q < 0) = n1) := ⟨_, rfl⟩
  obtain ⟨n2, hn2⟩ : ∃ n2, Hid (decide (r < 0) = n2) := ⟨_, rfl⟩
  rw [hn1.out] at hq ⊢
  rw [hn2.out] at hr ⊢
  clear e1 e2
  have hfr : fitsB r = true := fits_rest hb0 hb1 hD
  have k4 : Below w.heap.size w ((w3.alloc (.cells #[.bool n1, .slice o1 d1.length c1] 46)).alloc (.cells #[.bool n2, .slice o2 d2.length c2] 46)) := (k3.alloc k3.size _).alloc (by have := k3.size; simp; omega) _
  have hq4 : Wd ((w3.alloc (.cells #[.bool n1, .slice o1 d1.length c1] 46)).alloc (.cells #[.bool n2, .slice o2 d2.length c2] 46)) (.agg #[.bool n1, .slice o1 d1.length c1]) q := (hq.below (below_alloc _ _)).below (below_alloc _ _)
  have hr4 : Wd ((w3.alloc (.cells #[.bool n1, .slice o1 d1.length c1] 46)).alloc (.cells #[.bool n2, .slice o2 d2.length c2] 46)) (.agg #[.bool n2, .slice o2 d2.length c2]) r := (hr.below (below_alloc _ _)).below (below_alloc _ _)
  have c0 : ((w3.alloc (.cells #[.bool n1, .slice o1 d1.length c1] 46)).alloc (.cells #[.bool n2, .slice o2 d2.length c2] 46)).cell? ⟨w3.heap.size + 1, 0, none⟩ = some (.bool n2) := by simp [go_sem]
  have c1' : ((w3.alloc (.cells #[.bool n1, .slice o1 d1.length c1] 46)).alloc (.cells #[.bool n2, .slice o2 d2.length c2] 46)).cell? ⟨w3.heap.size + 1, 1, none⟩ = some (.slice o2 d2.length c2) := by simp [go_sem]
  have hI1 := wint_any _ q _ hq4
  cases hf : fitsB q
  all_goals
    rw [hf] at hI1
    go_wp2_with fail
    refine hI1.mono ?_
    rintro e w5 ⟨n, rfl, hn, b5⟩
    have k5 := below2 k4 k4.size b5
    have hr5 := hr4.below b5
    have e0 := keep b5 (by simp) c0
    have e1 := keep b5 (by simp) c1'
    have hI2 := wint_any _ r _ hr5
    rw [hfr] at hI2
    clear hI1 k3 k4 hq4 hr4 c0 c1' b5 hq hr r1 r2 hfr
    generalize w3.heap.size = S3 at *
    go_wp2_with fail
    refine hI2.mono ?_
    rintro e w6 ⟨m, rfl, hm, b6⟩
    have k6 := below2 k5 k5.size b6
    have hm' := hm trivial
    subst hm'
    clear hI2 hm b6 k5 hr5 e0 e1
    go_wp2_with fail
  · go_ret3
    exact ⟨q, _, hD, (fun h => by rw [hf] at h; exact absurd h (by decide)), fun _ => rfl, k6⟩
  · have hn' := hn trivial
    subst hn'
    go_ret3
    exact ⟨_, _, hD, fun _ => rfl, (fun h => by rw [hf] at h; exact absurd h (by decide)), k6⟩

theorem rdiv_yes (a b : Int) (w : World) (ha0 : -9223372036854775808 ≤ a) (ha1 : a ≤ 9223372036854775807) (hb0 : -9223372036854775808 ≤ b) (hb1 : b ≤ 9223372036854775807) (hb : ¬ b = 0) (hn : ¬ (a = -9223372036854775808 ∧ b = -1)) :
    Calls Try.prog 17 #[.int .i64 a, .int .i64 b] w fun e w' => ∃ q r, DivOf a b q r ∧ e = .returned (.tuple #[.int .i64 q, .int .i64 r, .bool true]) ∧ Below w.heap.size w w' := by
  refine (rdiv_walk a b w ha0 ha1 hb0 hb1 hb).mono ?_
  rintro e w' ⟨q, r, hD, h1, -, h3⟩
  exact ⟨q, r, hD, h1 (fits_quot ha0 ha1 hn hD), h3⟩
theorem rdiv_no (a b : Int) (w : World) (h : b = 0 ∨ a = -9223372036854775808 ∧ b = -1) :
    Calls Try.prog 17 #[.int .i64 a, .int .i64 b] w fun e w' => e = .returned (.tuple #[.int .i64 0, .int .i64 0, .bool false]) ∧ Below w.heap.size w w' := by
  rcases h with rfl | ⟨rfl, rfl⟩
  · go_enter Try.func17, Try.ntmps17
    go_wp2_with fail
    go_ret3
    exact ⟨rfl, Below.refl _ _⟩
  · refine (rdiv_walk (-9223372036854775808) (-1) w (by omega) (by omega) (by omega) (by omega) (by omega)).mono ?_
    rintro e w' ⟨q, r, hD, -, h2, h3⟩
    exact ⟨h2 (fits_least hD), h3⟩

set_option maxHeartbeats 1000000 in
theorem rmuldiv_any (a b c : Int) (w : World) (ha0 : -9223372036854775808 ≤ a) (ha1 : a ≤ 9223372036854775807) (hb0 : -9223372036854775808 ≤ b) (hb1 : b ≤ 9223372036854775807) (hc0 : 1 ≤ c) (hc1 : c ≤ 9223372036854775807) :
    Calls Try.prog 19 #[.int .i64 a, .int .i64 b, .int .i64 c] w fun e w' => e = .returned (.tuple #[.int .i64 (toldI (a * b / c)), .bool (fitsB (a * b / c))]) ∧ Below w.heap.size w w' := by
  have P := fun x y W hx hy => parted_any x y (a * b) c W hx hy (big5_mul ha0 ha1 hb0 hb1) (big5 (by omega) hc1) (by omega)
  have Ta := big_int ha0 ha1
  have Tb := big_int hb0 hb1
  have T := fun x y W hx hy => wtimes_any x y a b W hx hy Ta Tb
  clear Ta Tb
  obtain ⟨V, hV⟩ : ∃ V, Hid (a * b / c = V) := ⟨_, rfl⟩
  rw [hV.out]
  go_enter Try.func19, Try.ntmps19
  go_wp2_with fail
  refine (of_any a _ ha0 ha1).mono ?_
  rintro e w1 ⟨x1, rfl, hx1, b1⟩
  go_wp2_with fail
  refine (of_any b _ hb0 hb1).mono ?_
  rintro e w2 ⟨x2, rfl, hx2, b2⟩
  have k2 := below2 b1 b1.size b2
  go_wp2_with fail
  refine (T x1 x2 _ (hx1.below b2) hx2).mono ?_
  rintro e w3 ⟨x3, rfl, hx3, b3⟩
  have k3 := below2 k2 k2.size b3
  clear b1 b2 b3 k2 hx1 hx2
  go_wp2_with fail
  refine (of_any c _ (by omega) hc1).mono ?_
  rintro e w4 ⟨x4, rfl, hx4, b4⟩
  have k4 := below2 k3 k3.size b4
  go_wp2_with fail
  refine (P x3 x4 _ (hx3.below b4) hx4).mono ?_
  rintro e w5 ⟨v1, v2, q, r, rfl, hq, hr, hD, b5⟩
  obtain ⟨rfl, -⟩ := divof_pos (by omega) hD
  have k5 := below2 k4 k4.size b5
  clear b4 b5 k3 k4 hx3 hx4
  rw [hV.out] at hq
  clear hD P T
  obtain ⟨s1, d1, rfl, r1, dg1, cn1, e1⟩ := id hq
  obtain ⟨o1, c1, rfl, -, -, -, -⟩ := id r1
  obtain ⟨n1, hn1⟩ : ∃ n1, Hid (decide (V < 0) = n1) := ⟨_, rfl⟩
  obtain ⟨s2, d2, rfl, r2, dg2, cn2, e2⟩ := id hr
  obtain ⟨o2, c2, rfl, -, -, -, -⟩ := id r2
  obtain ⟨n2, hn2⟩ : ∃ n2, Hid (decide (r < 0) = n2) := ⟨_, rfl⟩
  rw [hn1.out] at hq ⊢
  rw [hn2.out]
  have hT := fun W (h : Wd W (.agg #[.bool n1, .slice o1 d1.length c1]) V) => told_any _ V W h
  clear e1 e2 r1 r2 hr
  go_wp2_with fail
  refine (hT _ ((hq.below (below_alloc _ _)).below (below_alloc _ _))).mono ?_
  rintro e w7 ⟨rfl, b7⟩
  have k7 := below2 ((k5.alloc k5.size _).alloc (by have := k5.size; simp; omega) _) (by have := k5.size; simp; omega) b7
  clear hT hq b7
  go_wp2_with fail
  go_ret2
  exact ⟨rfl, k7⟩
theorem rmuldiv_no (a b c : Int) (w : World) (h : c < 1) :
    Calls Try.prog 19 #[.int .i64 a, .int .i64 b, .int .i64 c] w fun e w' => e = .returned (.tuple #[.int .i64 0, .bool false]) ∧ Below w.heap.size w w' := by
  go_enter Try.func19, Try.ntmps19
  go_wp2_with fail
  go_ret2
  exact ⟨rfl, Below.refl _ _⟩
end Go.Proofs.Ytlhiabfhokeihaa
