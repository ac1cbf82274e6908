/- The statements' lives. -/
/- EventRows. -/
import Derived.Test.YteiidkojofaamaaDoorEBytes
import Derived.Test.YteiidkojofaamaaDoorCPutL
import Derived.Test.YteiidkojofaamaaDoorEBat0
import Derived.Test.YteiidkojofaamaaDoorRBat
import Derived.Test.YteiidkojofaamaaDoorEAll
import Derived.Test.YteiidkojofaamaaDoorJ04Rows2
import Derived.Test.YteiidkojofaamaaDoorJ05Rows2
namespace Go.Proofs.YteiidkojofaamaaDoor
open Go Go.RowKit

def liveE : Ev := ⟨4, 3, 7, 5, 0, 0, fun _ => 0, 0⟩
theorem live_good : goodE liveE = true := by decide
theorem live_byt : byt liveE = [4, 3, 7, 5] := by decide
theorem live_rg : RgE liveE := fun x hx => by
  unfold evI liveE at hx
  simp at hx
  omega
theorem lives_any {w : World} (hT : Tab w) : Calls Tryd.prog 17 #[] w fun r w' => r = .returned (.bool true) ∧ Below w.heap.size w w' := by
  have HB := bytes_any liveE w hT live_good live_rg
  rw [live_byt] at HB
  unfold evA liveE at HB
  go_enter Tryd.func17, Tryd.ntmps17
  go_wp2_with (go_at_call 12; (with_reducible refine HB.mono ?_); rintro r w1 ⟨v1, rfl, ho1, hb1⟩; have q := conv_own ho1)
  go_ret
  exact ⟨rfl, hb1⟩
end Go.Proofs.YteiidkojofaamaaDoor
namespace Go.Proofs.YteiidkojofaamaaDoor
open Go Go.RowKit

theorem batch_any {w : World} {a : Option Addr} {xs : List Ev} (c : Nat) (m : Int) (hx : EV w a xs) (hn : xs.length ≤ 90000) (hc : xs.length ≤ c) :
    Calls Tryd.prog 23 #[.slice a xs.length c, .int .i64 m] w fun e w' => ∃ k v1 v2, e = .returned (.tuple #[v1, v2]) ∧ Cnt (max m 1).toNat xs k ∧ (0 < xs.length → 0 < k) ∧ OwE w' w.heap.size v1 (xs.take k) ∧ OwE w' w.heap.size v2 (xs.drop k) ∧ Below w.heap.size w w' := by
  by_cases h0 : 0 < xs.length
  · obtain ⟨b, o, rfl, _⟩ := hx 0 h0
    refine (batch_some c m hx hn hc h0).mono ?_
    rintro e w' ⟨k, v1, v2, rfl, h1, h2, h3⟩
    exact ⟨k, v1, v2, rfl, h1, fun _ => h2, h3⟩
  · obtain rfl : xs = [] := List.eq_nil_of_length_eq_zero (by omega)
    refine (batch_nil w a c m).mono ?_
    rintro e w' ⟨v1, v2, rfl, h1, h2, h3⟩
    exact ⟨0, v1, v2, rfl, ⟨Nat.le_refl _, Nat.zero_le _, fun j hj => by omega, .inl rfl⟩, fun h => by simp at h, h1, h2, h3⟩

set_option maxHeartbeats 4000000 in
set_option maxRecDepth 100000 in
theorem rows_tail {w : World} {a b : Option Addr} {xs ys : List Ev} (c d : Nat) (m : Int) (hx : EV w a xs) (hy : EV w b ys) (hc : xs.length ≤ c) (hR : ∀ e ∈ xs, RgE e) (hT : Tab w) :
    Calls Tryd.prog 5 #[.slice a xs.length c, .slice b ys.length d, .int .i64 m] w fun r w' => r = .returned (.bool true) ∧ Below w.heap.size w w' := by
  have HL : ∀ W, Below w.heap.size w W → Calls Tryd.prog 17 #[] W fun r w' => r = .returned (.bool true) ∧ Below W.heap.size W w' := fun W h => lives_any (hT.on h)
  have b0 : Below w.heap.size w w := Below.refl _ _
  by_cases h60 : xs.length ≤ 60
  · by_cases h61 : ys.length ≤ 60
    · have HBT := batch_any c m hx (by omega) hc
      have HRB : ∀ W, Below w.heap.size w W → _ := fun W h => rbatch_any c m (hx.below h) (by omega) hc
      have HA : ∀ W, Below w.heap.size w W → Calls Tryd.prog 25 #[.slice a xs.length c] W fun r w' => ∃ v, r = .returned v ∧ Own w' W.heap.size v (allE xs) ∧ Below W.heap.size W w' := fun W h => all_any c (hx.below h) hR (hT.on h) (by omega)
      have HB : ∀ W, Below w.heap.size w W → Calls Tryd.prog 26 #[.slice a xs.length c] W fun r w' => ∃ v, r = .returned v ∧ Own w' W.heap.size v (allE xs) ∧ Below W.heap.size W w' := fun W h => rall_any c (hx.below h) hR (by omega)
      have HS1 : ∀ W, Below w.heap.size w W → Calls Tryd.prog 27 #[.slice a xs.length c, .slice b ys.length d] W fun r w' => r = .returned (.bool (sameB xs ys)) ∧ Below W.heap.size W w' := fun W h => psame_any c d (hx.below h) (hy.below h) (by omega)
      have HS2 : ∀ W, Below w.heap.size w W → Calls Tryd.prog 22 #[.slice a xs.length c, .slice b ys.length d] W fun r w' => r = .returned (.bool (sameB xs ys)) ∧ Below W.heap.size W w' := fun W h => rsame_any c d (hx.below h) (hy.below h) (by omega)
      have h1 : (xs.length : Int) ≤ 60 := by omega
      have h2 : (ys.length : Int) ≤ 60 := by omega
      have HLN : Hid (xs.length ≤ 60) := h60
      have HX := Hid.mk hx
      clear hx hy hR hT hc h60 h61
      obtain ⟨n, hN⟩ : ∃ n, Hid (xs.length = n) := ⟨_, rfl⟩
      rw [hN.out] at HBT HRB HA HB HS1 HS2 h1 ⊢
      go_enter Tryd.func5, Tryd.ntmps5
      go_upto_region 5 with (first
        | (go_at_call 23; (with_reducible refine HBT.mono ?_); rintro r w1 ⟨k, v1, v2, rfl, hk, hk0, ho1, ho2, hb1⟩)
        | (go_at_call 24; (with_reducible refine (HRB _ hb1).mono ?_); rintro r w2 ⟨l, a4, ⟨c3, c4, rfl⟩, hl, hl0, f2, hb2⟩))
      have hkl : l = k := hl.uniq hk (by rw [hN.out]; exact hl0) (by rw [hN.out]; exact hk0)
      subst l
      have b2 := hb1.trans (hb2.mono hb1.size)
      have hkn : k ≤ n := by have := hk.len; rw [hN.out] at this; exact this
      have q1 : (xs.take k).length = k := by rw [List.length_take, hN.out]; omega
      have q2 : (xs.drop k).length = n - k := by rw [List.length_drop, hN.out]
      obtain ⟨a1, c1, rfl, _, e1, _⟩ := (ho1.below hb2).sl
      obtain ⟨a2, c2, rfl, _, e2, _⟩ := (ho2.below hb2).sl
      rw [q1, q2]
      have HS3 : ∀ W, Below w.heap.size w W → EV W a1 (xs.take k) → Calls Tryd.prog 22 #[.slice a1 k c1, .slice a k c3] W fun r w' => r = .returned (.bool true) ∧ Below W.heap.size W w' := fun W h h1 => by
        have := rsame_any c1 c3 h1 ((HX.out.below h).take k) (by rw [q1]; have := HLN.out; rw [hN.out] at this; omega)
        rwa [sameB_refl, q1] at this
      have HS4 : ∀ W, EV W a2 (xs.drop k) → EV W a4 (xs.drop k) → Calls Tryd.prog 22 #[.slice a2 (n - k) c2, .slice a4 (n - k) c4] W fun r w' => r = .returned (.bool true) ∧ Below W.heap.size W w' := fun W h1 h2 => by
        have := rsame_any c2 c4 h1 h2 (by rw [q2]; have := HLN.out; rw [hN.out] at this; omega)
        rwa [sameB_refl, q2] at this
      have HE1 := Hid.mk q1
      clear hk hk0 hl hl0 ho1 ho2 q1 q2 HBT HRB
      generalize sameB xs ys = t at *
      generalize allE xs = A at *
      refine wp_region_held_drew (S := (fun w' => Below w2.drew.heap.size w2.drew w')) (by kernel_rfl) (Below.refl _ _) (fun hHeld => ?_)
      have bd := b2.drew
      clear b2
      have e1d : EV w2.drew a1 (xs.take k) := e1
      have e2d : EV w2.drew a2 (xs.drop k) := e2
      have f2d : EV w2.drew a4 (xs.drop k) := f2
      clear e1 e2 f2
      generalize w2.drew = W at *
      refine anyH_take (i := 0) (v := ?_) (some 32) rfl rfl (by kernel_rfl) (fun _ _ _ h => h) (Or.inl ⟨by rfl, ?_⟩) (by assumption) ?_
      rotate_left
      · (intro w hSw; go_simp; all_goals with_reducible rfl)
      try simp only [Act.put, List.setIfInBounds_toArray, List.set_cons_zero, List.set_cons_succ]
      refine anyH_take (i := 3) (v := ?_) (some 35) rfl rfl (by kernel_rfl) (fun _ _ _ h => h) (Or.inl ⟨by rfl, ?_⟩) (by assumption) ?_
      rotate_left
      · (intro w hSw; go_simp; all_goals with_reducible rfl)
      try simp only [Act.put, List.setIfInBounds_toArray, List.set_cons_zero, List.set_cons_succ]
      refine anyH_one (i := 1) (by kernel_rfl) rfl (fun K hK => ?_)
      go_simp
      go_at_call 25
      refine (HA _ bd).mono ?_
      rintro e w3 ⟨v3, rfl, ho3, hb3⟩
      refine hK.out _ _ (hb3) (fun hHeld => ?_)
      clear hK K
      try simp only [Act.put, List.setIfInBounds_toArray, List.set_cons_zero, List.set_cons_succ]
      have b3 := bd.trans (hb3.mono bd.size)
      refine anyH_mono (S2 := fun w' => Below w3.heap.size w3 w') (fun w' h => hb3.trans (h.mono hb3.size)) ?_
      have hH3 : Below w3.heap.size w3 w3 := Below.refl _ _
      clear hHeld
      refine anyH_take (i := 2) (v := ?_) (some 34) rfl rfl (by kernel_rfl) (fun _ _ _ h => h) (Or.inl ⟨by rfl, ?_⟩) (by assumption) ?_
      rotate_left
      · (intro w hSw; have q1 := conv_own (ho3.below hSw); go_simp; all_goals with_reducible rfl)
      try simp only [Act.put, List.setIfInBounds_toArray, List.set_cons_zero, List.set_cons_succ]
      refine anyH_one (i := 4) (by kernel_rfl) rfl (fun K hK => ?_)
      go_simp
      go_at_call 26
      refine (HB _ b3).mono ?_
      rintro e w4 ⟨v4, rfl, ho4, hb4⟩
      refine hK.out _ _ (hb4) (fun hHeld => ?_)
      clear hK K
      try simp only [Act.put, List.setIfInBounds_toArray, List.set_cons_zero, List.set_cons_succ]
      have b4 := b3.trans (hb4.mono b3.size)
      clear hH3
      refine anyH_mono (S2 := fun w' => Below w4.heap.size w4 w') (fun w' h => hb4.trans (h.mono hb4.size)) ?_
      have hH4 : Below w4.heap.size w4 w4 := Below.refl _ _
      clear hHeld
      refine anyH_take (i := 5) (v := ?_) (some 37) rfl rfl (by kernel_rfl) (fun _ _ _ h => h) (Or.inl ⟨by rfl, ?_⟩) (by assumption) ?_
      rotate_left
      · (intro w hSw; have q1 := conv_own (ho4.below hSw); go_simp; all_goals with_reducible rfl)
      try simp only [Act.put, List.setIfInBounds_toArray, List.set_cons_zero, List.set_cons_succ]
      refine anyH_take (i := 6) (v := ?_) (some 38) rfl rfl (by kernel_rfl) (fun _ _ _ h => h) (Or.inl ⟨by rfl, ?_⟩) (by assumption) ?_
      rotate_left
      · (intro w hSw; go_simp; all_goals with_reducible rfl)
      try simp only [Act.put, List.setIfInBounds_toArray, List.set_cons_zero, List.set_cons_succ]
      refine anyH_take (i := 7) (v := ?_) (some 39) rfl rfl (by kernel_rfl) (fun _ _ _ h => h) (Or.inl ⟨by rfl, ?_⟩) (by assumption) ?_
      rotate_left
      · (intro w hSw; go_simp; all_goals with_reducible rfl)
      try simp only [Act.put, List.setIfInBounds_toArray, List.set_cons_zero, List.set_cons_succ]
      refine anyH_take (i := 8) (v := ?_) (some 40) rfl rfl (by kernel_rfl) (fun _ _ _ h => h) (Or.inl ⟨by rfl, ?_⟩) (by assumption) ?_
      rotate_left
      · (intro w hSw; go_simp; all_goals with_reducible rfl)
      try simp only [Act.put, List.setIfInBounds_toArray, List.set_cons_zero, List.set_cons_succ]
      refine anyH_take (i := 9) (v := ?_) (some 41) rfl rfl (by kernel_rfl) (fun _ _ _ h => h) (Or.inl ⟨by rfl, ?_⟩) (by assumption) ?_
      rotate_left
      · (intro w hSw; go_simp; all_goals with_reducible rfl)
      try simp only [Act.put, List.setIfInBounds_toArray, List.set_cons_zero, List.set_cons_succ]
      refine anyH_take (i := 11) (v := ?_) (some 43) rfl rfl (by kernel_rfl) (fun _ _ _ h => h) (Or.inl ⟨by rfl, ?_⟩) (by assumption) ?_
      rotate_left
      · (intro w hSw; go_simp; all_goals with_reducible rfl)
      try simp only [Act.put, List.setIfInBounds_toArray, List.set_cons_zero, List.set_cons_succ]
      refine anyH_take (i := 12) (v := ?_) (some 44) rfl rfl (by kernel_rfl) (fun _ _ _ h => h) (Or.inl ⟨by rfl, ?_⟩) (by assumption) ?_
      rotate_left
      · (intro w hSw; go_simp; all_goals with_reducible rfl)
      try simp only [Act.put, List.setIfInBounds_toArray, List.set_cons_zero, List.set_cons_succ]
      refine anyH_one (i := 10) (by kernel_rfl) rfl (fun K hK => ?_)
      go_simp
      go_at_call 27
      refine (HS1 _ b4).mono ?_
      rintro e w5 ⟨rfl, hb5⟩
      refine hK.out _ _ (hb5) (fun hHeld => ?_)
      clear hK K
      try simp only [Act.put, List.setIfInBounds_toArray, List.set_cons_zero, List.set_cons_succ]
      have b5 := b4.trans (hb5.mono b4.size)
      clear hH4
      refine anyH_mono (S2 := fun w' => Below w5.heap.size w5 w') (fun w' h => hb5.trans (h.mono hb5.size)) ?_
      have hH5 : Below w5.heap.size w5 w5 := Below.refl _ _
      clear hHeld
      refine anyH_one (i := 13) (by kernel_rfl) rfl (fun K hK => ?_)
      go_simp
      go_at_call 22
      refine (HS2 _ b5).mono ?_
      rintro e w6 ⟨rfl, hb6⟩
      refine hK.out _ _ (hb6) (fun hHeld => ?_)
      clear hK K
      try simp only [Act.put, List.setIfInBounds_toArray, List.set_cons_zero, List.set_cons_succ]
      have b6 := b5.trans (hb6.mono b5.size)
      clear hH5
      refine anyH_mono (S2 := fun w' => Below w6.heap.size w6 w') (fun w' h => hb6.trans (h.mono hb6.size)) ?_
      have hH6 : Below w6.heap.size w6 w6 := Below.refl _ _
      clear hHeld
      refine anyH_take (i := 14) (v := ?_) (some 46) rfl rfl (by kernel_rfl) (fun _ _ _ h => h) (Or.inl ⟨by rfl, ?_⟩) (by assumption) ?_
      rotate_left
      · (intro w hSw; go_simp; all_goals with_reducible rfl)
      try simp only [Act.put, List.setIfInBounds_toArray, List.set_cons_zero, List.set_cons_succ]
      refine anyH_take (i := 15) (v := ?_) (some 47) rfl rfl (by kernel_rfl) (fun _ _ _ h => h) (Or.inl ⟨by rfl, ?_⟩) (by assumption) ?_
      rotate_left
      · (intro w hSw; go_simp; all_goals with_reducible rfl)
      try simp only [Act.put, List.setIfInBounds_toArray, List.set_cons_zero, List.set_cons_succ]
      refine anyH_take (i := 16) (v := ?_) (some 48) rfl rfl (by kernel_rfl) (fun _ _ _ h => h) (Or.inl ⟨by rfl, ?_⟩) (by assumption) ?_
      rotate_left
      · (intro w hSw; go_simp; all_goals with_reducible rfl)
      try simp only [Act.put, List.setIfInBounds_toArray, List.set_cons_zero, List.set_cons_succ]
      refine anyH_take (i := 17) (v := ?_) (some 49) rfl rfl (by kernel_rfl) (fun _ _ _ h => h) (Or.inl ⟨by rfl, ?_⟩) (by assumption) ?_
      rotate_left
      · (intro w hSw; go_simp; all_goals with_reducible rfl)
      try simp only [Act.put, List.setIfInBounds_toArray, List.set_cons_zero, List.set_cons_succ]
      refine anyH_take (i := 18) (v := ?_) (some 50) rfl rfl (by kernel_rfl) (fun _ _ _ h => h) (Or.inl ⟨by rfl, ?_⟩) (by assumption) ?_
      rotate_left
      · (intro w hSw; go_simp; all_goals with_reducible rfl)
      try simp only [Act.put, List.setIfInBounds_toArray, List.set_cons_zero, List.set_cons_succ]
      have g6 : Below W.heap.size W w6 := ((hb3.trans (hb4.mono hb3.size)).trans (hb5.mono (hb3.trans (hb4.mono hb3.size)).size)).trans (hb6.mono ((hb3.trans (hb4.mono hb3.size)).trans (hb5.mono (hb3.trans (hb4.mono hb3.size)).size)).size)
      refine anyH_one (i := 19) (by kernel_rfl) rfl (fun K hK => ?_)
      go_simp
      go_at_call 22
      refine (HS3 _ b6 (e1d.below g6)).mono ?_
      rintro e w7 ⟨rfl, hb7⟩
      refine hK.out _ _ (hb7) (fun hHeld => ?_)
      clear hK K
      try simp only [Act.put, List.setIfInBounds_toArray, List.set_cons_zero, List.set_cons_succ]
      have b7 := b6.trans (hb7.mono b6.size)
      have g7 := g6.trans (hb7.mono g6.size)
      clear hH6
      refine anyH_mono (S2 := fun w' => Below w7.heap.size w7 w') (fun w' h => hb7.trans (h.mono hb7.size)) ?_
      have hH7 : Below w7.heap.size w7 w7 := Below.refl _ _
      clear hHeld
      refine anyH_take (i := 20) (v := ?_) (some 52) rfl rfl (by kernel_rfl) (fun _ _ _ h => h) (Or.inl ⟨by rfl, ?_⟩) (by assumption) ?_
      rotate_left
      · (intro w hSw; go_simp; all_goals with_reducible rfl)
      try simp only [Act.put, List.setIfInBounds_toArray, List.set_cons_zero, List.set_cons_succ]
      refine anyH_take (i := 21) (v := ?_) (some 53) rfl rfl (by kernel_rfl) (fun _ _ _ h => h) (Or.inl ⟨by rfl, ?_⟩) (by assumption) ?_
      rotate_left
      · (intro w hSw; go_simp; all_goals with_reducible rfl)
      try simp only [Act.put, List.setIfInBounds_toArray, List.set_cons_zero, List.set_cons_succ]
      refine anyH_take (i := 22) (v := ?_) (some 54) rfl rfl (by kernel_rfl) (fun _ _ _ h => h) (Or.inl ⟨by rfl, ?_⟩) (by assumption) ?_
      rotate_left
      · (intro w hSw; go_simp; all_goals with_reducible rfl)
      try simp only [Act.put, List.setIfInBounds_toArray, List.set_cons_zero, List.set_cons_succ]
      refine anyH_take (i := 23) (v := ?_) (some 55) rfl rfl (by kernel_rfl) (fun _ _ _ h => h) (Or.inl ⟨by rfl, ?_⟩) (by assumption) ?_
      rotate_left
      · (intro w hSw; go_simp; all_goals with_reducible rfl)
      try simp only [Act.put, List.setIfInBounds_toArray, List.set_cons_zero, List.set_cons_succ]
      refine anyH_one (i := 24) (by kernel_rfl) rfl (fun K hK => ?_)
      go_simp
      go_at_call 22
      refine (HS4 _ (e2d.below g7) (f2d.below g7)).mono ?_
      rintro e w8 ⟨rfl, hb8⟩
      refine hK.out _ _ (hb8) (fun hHeld => ?_)
      clear hK K
      try simp only [Act.put, List.setIfInBounds_toArray, List.set_cons_zero, List.set_cons_succ]
      have b8 := b7.trans (hb8.mono b7.size)
      clear hH7
      refine anyH_mono (S2 := fun w' => Below w8.heap.size w8 w') (fun w' h => hb8.trans (h.mono hb8.size)) ?_
      have hH8 : Below w8.heap.size w8 w8 := Below.refl _ _
      clear hHeld
      refine anyH_take (i := 25) (v := ?_) (some 57) rfl rfl (by kernel_rfl) (fun _ _ _ h => h) (Or.inl ⟨by rfl, ?_⟩) (by assumption) ?_
      rotate_left
      · (intro w hSw; go_simp; all_goals with_reducible rfl)
      try simp only [Act.put, List.setIfInBounds_toArray, List.set_cons_zero, List.set_cons_succ]
      refine anyH_take (i := 26) (v := ?_) (some 58) rfl rfl (by kernel_rfl) (fun _ _ _ h => h) (Or.inl ⟨by rfl, ?_⟩) (by assumption) ?_
      rotate_left
      · (intro w hSw; go_simp; all_goals with_reducible rfl)
      try simp only [Act.put, List.setIfInBounds_toArray, List.set_cons_zero, List.set_cons_succ]
      refine anyH_one (i := 27) (by kernel_rfl) rfl (fun K hK => ?_)
      go_simp
      go_at_call 17
      refine (HL _ b8).mono ?_
      rintro e w9 ⟨rfl, hb9⟩
      refine hK.out _ _ (hb9) (fun hHeld => ?_)
      clear hK K
      try simp only [Act.put, List.setIfInBounds_toArray, List.set_cons_zero, List.set_cons_succ]
      have b9 := b8.trans (hb9.mono b8.size)
      refine anyH_take (i := 28) (v := ?_) (some 60) rfl rfl (by kernel_rfl) (fun _ _ _ h => h) (Or.inl ⟨by rfl, ?_⟩) (by assumption) ?_
      rotate_left
      · (intro w hSw; go_simp; all_goals with_reducible rfl)
      try simp only [Act.put, List.setIfInBounds_toArray, List.set_cons_zero, List.set_cons_succ]
      refine anyH_take (i := 29) (v := ?_) (some 6) rfl rfl (by kernel_rfl) (fun _ _ _ h => h) (Or.inl ⟨by rfl, ?_⟩) (by assumption) ?_
      rotate_left
      · (intro w hSw; go_simp; all_goals with_reducible rfl)
      try simp only [Act.put, List.setIfInBounds_toArray, List.set_cons_zero, List.set_cons_succ]
      refine wpAnyH_done (by kernel_rfl) ?_ _
      go_wp2_with fail
      go_ret
      exact ⟨rfl, b9⟩
    · have h61' : (60 : Int) < (ys.length : Int) := by omega
      have h60' : (xs.length : Int) ≤ 60 := by omega
      clear hx hy hR hT hc h60 h61
      generalize xs.length = n at *
      generalize ys.length = k at *
      go_enter Tryd.func5, Tryd.ntmps5
      go_wp2_with (go_at_call 17; (with_reducible refine (HL _ b0).mono ?_); rintro r w9 ⟨rfl, q9⟩)
      go_ret
      exact ⟨rfl, q9⟩
  · have h60' : (60 : Int) < (xs.length : Int) := by omega
    clear hx hy hR hT hc h60
    generalize xs.length = n at *
    generalize ys.length = k at *
    go_enter Tryd.func5, Tryd.ntmps5
    go_wp2_with (go_at_call 17; (with_reducible refine (HL _ b0).mono ?_); rintro r w9 ⟨rfl, q9⟩)
    go_ret
    exact ⟨rfl, q9⟩
end Go.Proofs.YteiidkojofaamaaDoor
