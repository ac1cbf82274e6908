/- Batch: the program's. -/
import Derived.Test.YtcffmdimfmpheaaDoorEBat
import Derived.Deep.CutRange
namespace Go.Proofs.YtcffmdimfmpheaaDoor
open Go Go.RowKit

theorem cnt_none {m n : Nat} {xs : List Ev} (hn : n ≤ xs.length) (hm : n ≤ m) (hs : n = xs.length ∨ n = m) (h : ∀ i, i < (xs.take n).length → preB (ev (xs.take n) i) = false) : Cnt m xs n :=
  ⟨hn, hm, fun j hj => by
    have := h j (by rw [List.length_take]; omega)
    rwa [ev_take (by omega)] at this, hs.elim .inl (fun h => .inr (.inl h))⟩
theorem cnt_at {m n j : Nat} {xs : List Ev} (hn : n ≤ xs.length) (hm : n ≤ m) (hj : j < (xs.take n).length) (h : preB (ev (xs.take n) j) = true) (ha : ∀ i, i < j → preB (ev (xs.take n) i) = false) : Cnt m xs (j + 1) := by
  rw [List.length_take] at hj
  refine ⟨by omega, by omega, fun i hi => ?_, .inr (.inr ⟨by omega, ?_⟩)⟩
  · have := ha i (by omega)
    rwa [ev_take (by omega)] at this
  · rw [ev_take (by omega)] at h
    simpa using h
/-- Where a row's rest lies. -/
abbrev adr (c n b o : Nat) : Option Addr := if c = n then some ⟨b, o, none⟩ else some ⟨b, o + n * 15, none⟩
theorem drop_at {w : World} {b o c : Nat} {xs : List Ev} (h : EV w (some ⟨b, o, none⟩) xs) (hc : xs.length ≤ c) (n : Nat) : EV w (adr c n b o) (xs.drop n) := by
  unfold adr
  by_cases e : c = n
  · rw [if_pos e, List.drop_eq_nil_of_le (by omega)]
    exact EV.nil _ _
  · rw [if_neg e]
    exact h.drop n
set_option maxHeartbeats 2000000 in
set_option maxRecDepth 100000 in
theorem batch_some {w : World} {b o : Nat} {xs : List Ev} (c : Nat) (m : Int) (hx : EV w (some ⟨b, o, none⟩) xs) (hn : xs.length ≤ 90000) (hc : xs.length ≤ c) (h0 : 0 < xs.length) :
    Calls Tryd.prog 36 #[.slice (some ⟨b, o, none⟩) xs.length c, .int .i64 m] w fun e w' => ∃ k v1 v2, e = .returned (.tuple #[v1, v2]) ∧ Cnt (max m 1).toNat xs k ∧ 0 < k ∧ OwE w' w.heap.size v1 (xs.take k) ∧ OwE w' w.heap.size v2 (xs.drop k) ∧ Below w.heap.size w w' := by
  obtain ⟨n, h1⟩ : ∃ n : Nat, min (xs.length : Int) (max m 1) = (n : Int) := ⟨(min (xs.length : Int) (max m 1)).toNat, by omega⟩
  have IX := idx_any (c := c) (hx.take n) (by rw [List.length_take]; omega)
  have hl : (xs.take n).length = n := by rw [List.length_take]; omega
  rw [hl] at IX
  have hn1 : (n : Int) ≤ (xs.length : Int) := by omega
  have hnc : (n : Int) ≤ (c : Int) := by omega
  have hlc : (xs.length : Int) ≤ (c : Int) := by omega
  have HN : Hid (n ≤ xs.length ∧ n ≤ (max m 1).toNat ∧ (n = xs.length ∨ n = (max m 1).toNat) ∧ 0 < n ∧ xs.length ≤ 90000 ∧ (xs.take n).length = n) := ⟨by omega, by omega, by omega, by omega, hn, hl⟩
  have HLC : Hid (xs.length ≤ c) := hc
  clear hl hc h0 hn
  go_enter Tryd.func36, Tryd.ntmps36
  go_upto_region 1 with fail
  go_cut [6] from 8 to 28 (fun s6 wx => s6 = .int .i64 (n : Int) ∧ wx = w)
  case first =>
    go_wp2_with fail
    all_goals go_meet
    all_goals exact ⟨by congr 1; omega, rfl⟩
  case rest =>
    obtain ⟨rfl, hwc⟩ := hcut
    rw [hwc]
    clear hwc h1
    go_upto_region 3 with (go_at_call 46; (with_reducible refine IX.mono ?_); rintro e w1 ⟨z, rfl, hz, b1⟩)
    have hx1 := hx.below b1
    have HZ : Hid (Idx (xs.take n) z) := hz
    clear hz hx IX
    rcases HZ.out with ⟨rfl, hall⟩ | ⟨j, rfl, hj, hp, hall⟩
    · have HCNT : Hid (Cnt (max m 1).toNat xs n ∧ 0 < n) := ⟨cnt_none HN.out.1 HN.out.2.1 HN.out.2.2.1 hall, HN.out.2.2.2.1⟩
      have HC1 : ∀ W, EV W (some ⟨b, o, none⟩) (xs.take n) → Calls Tryd.prog 48 #[.slice (some ⟨b, o, none⟩) n c] W fun e w' => ∃ v, e = .returned v ∧ OwE w' W.heap.size v (xs.take n) ∧ Below W.heap.size W w' := fun W h => by
        have := eclone_any c h (by rw [List.length_take]; have := HN.out; omega)
        rwa [HN.out.2.2.2.2.2] at this
      have HC2 : ∀ W, EV W (adr c n b o) (xs.drop n) → Calls Tryd.prog 48 #[.slice (adr c n b o) (xs.length - n) (c - n)] W fun e w' => ∃ v, e = .returned v ∧ OwE w' W.heap.size v (xs.drop n) ∧ Below W.heap.size W w' := fun W h => by
        have := eclone_any (c - n) h (by rw [List.length_drop]; have := HN.out; omega)
        rwa [List.length_drop] at this
      clear HZ hall
      go_upto_region 5 with fail
      refine wp_region_held_drew (S := (fun w' => Below w1.drew.heap.size w1.drew w')) (by kernel_rfl) (Below.refl _ _) (fun hHeld => ?_)
      have bd := b1.drew
      have hxd : EV w1.drew (some ⟨b, o, none⟩) xs := hx1
      clear hx1 b1
      generalize w1.drew = W at *
      refine anyH_take (i := 0) (v := ?_) (some 21) rfl rfl (by kernel_rfl) (fun _ _ _ h => h) (Or.inl ⟨by rfl, ?_⟩) (by assumption) ?_
      rotate_left
      · (intro w hSw; go_simp; all_goals with_reducible rfl)
      try simp only [Act.put, List.setIfInBounds_toArray, List.set_cons_zero, List.set_cons_succ]
      refine anyH_take (i := 1) (v := ?_) (some 22) rfl rfl (by kernel_rfl) (fun _ _ _ h => h) (Or.inl ⟨by rfl, ?_⟩) (by assumption) ?_
      rotate_left
      · (intro w hSw; go_simp; all_goals with_reducible rfl)
      try simp only [Act.put, List.setIfInBounds_toArray, List.set_cons_zero, List.set_cons_succ]
      refine anyH_take (i := 2) (v := ?_) (some 23) rfl rfl (by kernel_rfl) (fun _ _ _ h => h) (Or.inl ⟨by rfl, ?_⟩) (by assumption) ?_
      rotate_left
      · (intro w hSw; go_simp; all_goals with_reducible rfl)
      try simp only [Act.put, List.setIfInBounds_toArray, List.set_cons_zero, List.set_cons_succ]
      refine anyH_take (i := 4) (v := ?_) (some 25) rfl rfl (by kernel_rfl) (fun _ _ _ h => h) (Or.inl ⟨by rfl, ?_⟩) (by assumption) ?_
      rotate_left
      · (intro w hSw; go_simp; all_goals with_reducible rfl)
      try simp only [Act.put, List.setIfInBounds_toArray, List.set_cons_zero, List.set_cons_succ]
      refine anyH_take (i := 5) (v := ?_) (some 26) rfl rfl (by kernel_rfl) (fun _ _ _ h => h) (Or.inl ⟨by rfl, ?_⟩) (by assumption) ?_
      rotate_left
      · (intro w hSw; go_simp; all_goals with_reducible rfl)
      try simp only [Act.put, List.setIfInBounds_toArray, List.set_cons_zero, List.set_cons_succ]
      refine anyH_take (i := 6) (v := ?_) (some 27) rfl rfl (by kernel_rfl) (fun _ _ _ h => h) (Or.inl ⟨by rfl, ?_⟩) (by assumption) ?_
      rotate_left
      · (intro w hSw; go_simp; all_goals with_reducible rfl)
      try simp only [Act.put, List.setIfInBounds_toArray, List.set_cons_zero, List.set_cons_succ]
      have HT := hxd.take (n)
      have HD := drop_at (c := c) hxd HLC.out (n)
      refine anyH_one (i := 3) (by kernel_rfl) rfl (fun K hK => ?_)
      go_simp
      go_at_call 48
      refine ((HC1 W HT)).mono ?_
      rintro e w3 ⟨v3, rfl, ho3, hb3⟩
      refine hK.out _ _ (hb3) (fun hHeld => ?_)
      clear hK K
      try simp only [Act.put, List.setIfInBounds_toArray, List.set_cons_zero, List.set_cons_succ]
      refine anyH_one (i := 7) (by kernel_rfl) rfl (fun K hK => ?_)
      go_simp
      go_at_call 48
      refine ((HC2 _ (HD.below hb3))).mono ?_
      rintro e w4 ⟨v4, rfl, ho4, hb4⟩
      refine hK.out _ _ (hb3.trans (hb4.mono hb3.size)) (fun hHeld => ?_)
      clear hK K
      try simp only [Act.put, List.setIfInBounds_toArray, List.set_cons_zero, List.set_cons_succ]
      refine anyH_take (i := 8) (v := ?_) (some 4) rfl rfl (by kernel_rfl) (fun _ _ _ h => h) (Or.inl ⟨by rfl, ?_⟩) (by assumption) ?_
      rotate_left
      · (intro w hSw; go_simp; all_goals with_reducible rfl)
      try simp only [Act.put, List.setIfInBounds_toArray, List.set_cons_zero, List.set_cons_succ]
      refine anyH_take (i := 9) (v := ?_) (some 5) rfl rfl (by kernel_rfl) (fun _ _ _ h => h) (Or.inl ⟨by rfl, ?_⟩) (by assumption) ?_
      rotate_left
      · (intro w hSw; go_simp; all_goals with_reducible rfl)
      try simp only [Act.put, List.setIfInBounds_toArray, List.set_cons_zero, List.set_cons_succ]
      refine wpAnyH_done (by kernel_rfl) ?_ _
      have b4 := (bd.trans (hb3.mono bd.size)).trans (hb4.mono (bd.trans (hb3.mono bd.size)).size)
      go_wp2_with fail
      all_goals go_ret2
      all_goals exact ⟨_, _, _, rfl, HCNT.out.1, HCNT.out.2, (ho3.below hb4).lower bd.size, ho4.lower (bd.trans (hb3.mono bd.size)).size, b4⟩
    · have HCNT : Hid (Cnt (max m 1).toNat xs (j + 1) ∧ 0 < j + 1) := ⟨cnt_at HN.out.1 HN.out.2.1 hj hp hall, by omega⟩
      have hjn : j + 1 ≤ n := by rw [HN.out.2.2.2.2.2] at hj; omega
      have hj1 : (j : Int) + 1 ≤ (xs.length : Int) := by omega
      have hj2 : (j : Int) + 1 ≤ (c : Int) := by omega
      have hj0 : (0 : Int) ≤ (j : Int) := by omega
      have hjp : (0 : Int) ≤ (j : Int) + 1 := by omega
      have hj3 : (j : Int) ≤ 90000 := by have := HN.out; omega
      have HC1 : ∀ W, EV W (some ⟨b, o, none⟩) (xs.take (j + 1)) → Calls Tryd.prog 48 #[.slice (some ⟨b, o, none⟩) (j + 1) c] W fun e w' => ∃ v, e = .returned v ∧ OwE w' W.heap.size v (xs.take (j + 1)) ∧ Below W.heap.size W w' := fun W h => by
        have := eclone_any c h (by rw [List.length_take]; have := HN.out; omega)
        rwa [show (xs.take (j + 1)).length = j + 1 by rw [List.length_take]; omega] at this
      have HC2 : ∀ W, EV W (adr c (j + 1) b o) (xs.drop (j + 1)) → Calls Tryd.prog 48 #[.slice (adr c (j + 1) b o) (xs.length - (j + 1)) (c - (j + 1))] W fun e w' => ∃ v, e = .returned v ∧ OwE w' W.heap.size v (xs.drop (j + 1)) ∧ Below W.heap.size W w' := fun W h => by
        have := eclone_any (c - (j + 1)) h (by rw [List.length_drop]; have := HN.out; omega)
        rwa [List.length_drop] at this
      clear HZ hall hj hp hjn
      go_upto_region 5 with fail
      refine wp_region_held_drew (S := (fun w' => Below w1.drew.heap.size w1.drew w')) (by kernel_rfl) (Below.refl _ _) (fun hHeld => ?_)
      have bd := b1.drew
      have hxd : EV w1.drew (some ⟨b, o, none⟩) xs := hx1
      clear hx1 b1
      generalize w1.drew = W at *
      refine anyH_take (i := 0) (v := ?_) (some 21) rfl rfl (by kernel_rfl) (fun _ _ _ h => h) (Or.inl ⟨by rfl, ?_⟩) (by assumption) ?_
      rotate_left
      · (intro w hSw; go_simp; all_goals with_reducible rfl)
      try simp only [Act.put, List.setIfInBounds_toArray, List.set_cons_zero, List.set_cons_succ]
      refine anyH_take (i := 1) (v := ?_) (some 22) rfl rfl (by kernel_rfl) (fun _ _ _ h => h) (Or.inl ⟨by rfl, ?_⟩) (by assumption) ?_
      rotate_left
      · (intro w hSw; go_simp; all_goals with_reducible rfl)
      try simp only [Act.put, List.setIfInBounds_toArray, List.set_cons_zero, List.set_cons_succ]
      refine anyH_take (i := 2) (v := ?_) (some 23) rfl rfl (by kernel_rfl) (fun _ _ _ h => h) (Or.inl ⟨by rfl, ?_⟩) (by assumption) ?_
      rotate_left
      · (intro w hSw; go_simp; all_goals with_reducible rfl)
      try simp only [Act.put, List.setIfInBounds_toArray, List.set_cons_zero, List.set_cons_succ]
      refine anyH_take (i := 4) (v := ?_) (some 25) rfl rfl (by kernel_rfl) (fun _ _ _ h => h) (Or.inl ⟨by rfl, ?_⟩) (by assumption) ?_
      rotate_left
      · (intro w hSw; go_simp; all_goals with_reducible rfl)
      try simp only [Act.put, List.setIfInBounds_toArray, List.set_cons_zero, List.set_cons_succ]
      refine anyH_take (i := 5) (v := ?_) (some 26) rfl rfl (by kernel_rfl) (fun _ _ _ h => h) (Or.inl ⟨by rfl, ?_⟩) (by assumption) ?_
      rotate_left
      · (intro w hSw; go_simp; all_goals with_reducible rfl)
      try simp only [Act.put, List.setIfInBounds_toArray, List.set_cons_zero, List.set_cons_succ]
      refine anyH_take (i := 6) (v := ?_) (some 27) rfl rfl (by kernel_rfl) (fun _ _ _ h => h) (Or.inl ⟨by rfl, ?_⟩) (by assumption) ?_
      rotate_left
      · (intro w hSw; go_simp; all_goals with_reducible rfl)
      try simp only [Act.put, List.setIfInBounds_toArray, List.set_cons_zero, List.set_cons_succ]
      have HT := hxd.take (j + 1)
      have HD := drop_at (c := c) hxd HLC.out (j + 1)
      refine anyH_one (i := 3) (by kernel_rfl) rfl (fun K hK => ?_)
      go_simp
      go_at_call 48
      refine ((HC1 W HT)).mono ?_
      rintro e w3 ⟨v3, rfl, ho3, hb3⟩
      refine hK.out _ _ (hb3) (fun hHeld => ?_)
      clear hK K
      try simp only [Act.put, List.setIfInBounds_toArray, List.set_cons_zero, List.set_cons_succ]
      refine anyH_one (i := 7) (by kernel_rfl) rfl (fun K hK => ?_)
      go_simp
      go_at_call 48
      refine ((HC2 _ (HD.below hb3))).mono ?_
      rintro e w4 ⟨v4, rfl, ho4, hb4⟩
      refine hK.out _ _ (hb3.trans (hb4.mono hb3.size)) (fun hHeld => ?_)
      clear hK K
      try simp only [Act.put, List.setIfInBounds_toArray, List.set_cons_zero, List.set_cons_succ]
      refine anyH_take (i := 8) (v := ?_) (some 4) rfl rfl (by kernel_rfl) (fun _ _ _ h => h) (Or.inl ⟨by rfl, ?_⟩) (by assumption) ?_
      rotate_left
      · (intro w hSw; go_simp; all_goals with_reducible rfl)
      try simp only [Act.put, List.setIfInBounds_toArray, List.set_cons_zero, List.set_cons_succ]
      refine anyH_take (i := 9) (v := ?_) (some 5) rfl rfl (by kernel_rfl) (fun _ _ _ h => h) (Or.inl ⟨by rfl, ?_⟩) (by assumption) ?_
      rotate_left
      · (intro w hSw; go_simp; all_goals with_reducible rfl)
      try simp only [Act.put, List.setIfInBounds_toArray, List.set_cons_zero, List.set_cons_succ]
      refine wpAnyH_done (by kernel_rfl) ?_ _
      have b4 := (bd.trans (hb3.mono bd.size)).trans (hb4.mono (bd.trans (hb3.mono bd.size)).size)
      go_wp2_with fail
      all_goals go_ret2
      all_goals exact ⟨_, _, _, rfl, HCNT.out.1, HCNT.out.2, (ho3.below hb4).lower bd.size, ho4.lower (bd.trans (hb3.mono bd.size)).size, b4⟩
end Go.Proofs.YtcffmdimfmpheaaDoor
