/- The document's Ideal. -/
import Derived.Test.YtdfccjhmpgoacaaStRIM
namespace Go.Proofs.Ytdfccjhmpgoacaa.Str
open Go.RowKit Go.Proofs.Ytdfccjhmpgoacaa.Big

section
variable {w : World} {xa : Option Addr} {xc : Nat} {xs : List Int}
set_option maxHeartbeats 4000000 in
set_option maxRecDepth 100000 in

theorem rideal_any (hx : IX w xa xs) (hm : xs.length ≤ maxLen) (i q : Int) (hq0 : -9223372036854775808 ≤ q) (hq1 : q ≤ 9223372036854775807) :
    Calls Try.prog 20 #[.slice xa xs.length xc, .int .i64 i, .int .i64 q] w fun e w' => e = .returned (.tuple #[.int .i64 (idlQ xs i q), .int .i64 (idlR xs i q)]) ∧ Below w.heap.size w w' := by
  have O := rall_any (w := w) (xc := xc) hx hm i
  cases h : oneB xs i
  · rw [h] at O
    rw [show idlQ xs i q = 0 by unfold idlQ; rw [h]; rfl, show idlR xs i q = 0 by unfold idlR; rw [h]; rfl]
    go_enter Try.func20, Try.ntmps20
    go_wp2_with (first | (go_at_call 38; (with_reducible refine O.mono ?_); rintro e w1 ⟨rfl, rfl⟩))
    go_ret2
    exact ⟨rfl, Below.refl _ _⟩
  · rw [h] at O
    rw [show idlQ xs i q = posI q * ix xs i.toNat / totI xs from if_pos h, show idlR xs i q = posI q * ix xs i.toNat % totI xs from if_pos h]
    obtain ⟨⟨hn, hi0, hi1⟩, hg⟩ := one_iff.1 h
    obtain ⟨k, rfl⟩ := Int.eq_ofNat_of_zero_le hi0
    have hk : k < xs.length := by omega
    rw [show (k : Int).toNat = k by omega]
    have hbd := sum_bd (g := id) (xs := xs) (K := 65536) (fun j hj => by have := good_iff.1 (all_ix hg hj); simp only [id]; omega)
    obtain ⟨b, o, hxa, c0⟩ := hx k hk
    subst hxa
    obtain ⟨t0, t1, t2, t3⟩ := tot_bd hg hn hk
    obtain ⟨p, hp⟩ : ∃ p, Hid (posI q = p) := ⟨_, rfl⟩
    have hp0 : 0 ≤ p := by rw [← hp.out]; unfold posI; split <;> omega
    have hp1 : p ≤ 9223372036854775807 := by rw [← hp.out]; unfold posI; split <;> omega
    rw [hp.out]
    have HC : ∀ j, j < xs.length → w.cell? ⟨b, o + j, none⟩ = some (.int .i64 (ix xs j)) := fun j hj => by
      obtain ⟨b', o', e, h'⟩ := hx j hj
      cases e
      exact h'
    have HP : (q < 0 ∧ p = 0) ∨ (¬ q < 0 ∧ p = q) := by
      rw [← hp.out]
      unfold posI
      by_cases hq : q < 0
      · exact .inl ⟨hq, if_pos hq⟩
      · exact .inr ⟨hq, if_neg hq⟩
    obtain ⟨S, hSS⟩ : ∃ S, Hid (totI xs = S) := ⟨_, rfl⟩
    obtain ⟨x, hxx⟩ : ∃ x, Hid (ix xs k = x) := ⟨_, rfl⟩
    rw [hSS.out, hxx.out]
    rw [hxx.out] at t0 t1 t2
    rw [hSS.out] at t2 t3
    clear h hm c0
    go_enter Try.func20, Try.ntmps20
    go_upto_if 22 with (first | (go_at_call 38; (with_reducible refine O.mono ?_); rintro e w1 ⟨rfl, hw⟩; subst w1))
    clear O
    go_cut [2] from 21 to 22 (fun s2 wx => s2 = .int .i64 p ∧ wx = w)
    case first =>
      rcases HP with ⟨h1, h2⟩ | ⟨h1, h2⟩
      · go_wp2_with fail
        go_meet
        case rel => exact ⟨by rw [h2], rfl⟩
      · go_wp2_with fail
        go_meet
        case rel => exact ⟨by rw [h2], rfl⟩
    case rest =>
      obtain ⟨rfl, hw⟩ := hcut
      subst hw
      clear HP
      go_wp2_with fail
      go_loopw [25, 8, 10] (fun v t _ wr => ∃ j : Nat, j ≤ xs.length ∧ v = .int .i64 j ∧ t = .int .i64 (sumG id xs j) ∧ Hid (wr = wc)) (fun v _ _ _ => 40 - (intOf v).toNat)
      case atStart => exact ⟨0, Nat.zero_le _, rfl, rfl, Hid.mk rfl⟩
      case round =>
        obtain ⟨j, hj, rfl, rfl, hw⟩ := hrel
        have hw' : wr = wc := hw
        subst hw'
        clear hw
        by_cases hlt : j < xs.length
        · have cj := HC j hlt
          have hlt' : (j : Int) < (xs.length : Int) := by omega
          have h1 := hbd j (by omega)
          have h2 := good_iff.1 (all_ix hg hlt)
          have HN : Hid (sumG id xs (j + 1) = sumG id xs j + ix xs j) := rfl
          have h3 : (j : Int) * 65536 ≤ 32 * 65536 := by omega
          generalize ix xs j = y at *
          generalize sumG id xs j = s at *
          obtain ⟨h1a, h1b⟩ := h1
          obtain ⟨h2a, h2b⟩ := h2
          clear hbd HC
          go_wp2_with fail
          go_roundw
          case rel => exact ⟨j + 1, by omega, by simp, by rw [HN.out], Hid.mk (by first | rfl | trivial)⟩
          case measure =>
            simp [intOf]
            omega
        · obtain rfl : j = xs.length := by omega
          have hS : Hid (sumG id xs xs.length = totI xs) := rfl
          rw [hS.out, hSS.out]
          have ck := HC k hk
          rw [hxx.out] at ck
          have hki : (k : Int) < (xs.length : Int) := hi1
          clear hbd HC hlt hS
          go_upto_region 11 with fail
          have hbp := big_int (show -9223372036854775808 ≤ p by omega) hp1
          have hbx := big_int (show -9223372036854775808 ≤ x by omega) (show x ≤ 9223372036854775807 by omega)
          have hbpx := big5_mul (show -9223372036854775808 ≤ p by omega) hp1 (show -9223372036854775808 ≤ x by omega) (show x ≤ 9223372036854775807 by omega)
          have hbS := big5 (show -9223372036854775808 ≤ S by omega) (show S ≤ 9223372036854775807 by omega)
          have hS0' : S ≠ 0 := by omega
          have hS1 : 0 < S := by omega
          have hpx : 0 ≤ p * x := Int.mul_nonneg hp0 (by omega)
          have hq1 : 0 ≤ p * x / S := Int.ediv_nonneg hpx (by omega)
          have hq2 : p * x / S ≤ p := (by have := parts hp0 (show 0 ≤ x by omega) hS1 t2; omega)
          have hr1 := Int.emod_nonneg (p * x) hS0'
          have hr2 := Int.emod_lt_of_pos (p * x) hS1
          have hf1 : Hid (fitsB (p * x / S) = true) := fits_mk (by omega) (by omega)
          have hf2 : Hid (fitsB (p * x % S) = true) := fits_mk (by omega) (by omega)
          have hb0 : Below wr.heap.size wr wr.drew := (Below.refl _ wr).drew
          refine wp_region_held_drew (S := fun w' => Below wr.heap.size wr w') (by kernel_rfl) hb0 (fun hHeld => ?_)
          refine anyH_take (i := 0) (v := ?_) (some 34) rfl rfl (by kernel_rfl) (fun _ _ _ h => h) (Or.inl ⟨by rfl, ?_⟩) (by assumption) ?_
          rotate_left
          · (intro w hSw; go_simp; all_goals with_reducible rfl)
          try simp only [Act.put, List.setIfInBounds_toArray, List.set_cons_zero, List.set_cons_succ]
          refine anyH_take (i := 2) (v := ?_) (some 36) rfl rfl (by kernel_rfl) (fun _ _ _ h => h) (Or.inl ⟨by rfl, ?_⟩) (by assumption) ?_
          rotate_left
          · (intro w hSw; go_simp; all_goals with_reducible rfl)
          try simp only [Act.put, List.setIfInBounds_toArray, List.set_cons_zero, List.set_cons_succ]
          refine anyH_take (i := 3) (v := ?_) (some 37) rfl rfl (by kernel_rfl) (fun _ _ _ h => h) (Or.inl ⟨by rfl, ?_⟩) (by assumption) ?_
          rotate_left
          · (intro w hSw; go_simp; all_goals with_reducible rfl)
          try simp only [Act.put, List.setIfInBounds_toArray, List.set_cons_zero, List.set_cons_succ]
          refine anyH_take (i := 4) (v := ?_) (some 38) rfl rfl (by kernel_rfl) (fun _ _ _ h => h) (Or.inl ⟨by rfl, ?_⟩) (by assumption) ?_
          rotate_left
          · (intro w hSw; go_simp; all_goals with_reducible rfl)
          try simp only [Act.put, List.setIfInBounds_toArray, List.set_cons_zero, List.set_cons_succ]
          refine anyH_take (i := 5) (v := ?_) (some 39) rfl rfl (by kernel_rfl) (fun _ _ _ h => h) (Or.inl ⟨by rfl, ?_⟩) (by assumption) ?_
          rotate_left
          · (intro w hSw; have z0 := (hSw.cell (World.block_lt_of_cell? wr _ ck)).trans ck; go_simp; all_goals with_reducible rfl)
          try simp only [Act.put, List.setIfInBounds_toArray, List.set_cons_zero, List.set_cons_succ]
          refine anyH_take (i := 8) (v := ?_) (some 42) rfl rfl (by kernel_rfl) (fun _ _ _ h => h) (Or.inl ⟨by rfl, ?_⟩) (by assumption) ?_
          rotate_left
          · (intro w hSw; go_simp; all_goals with_reducible rfl)
          try simp only [Act.put, List.setIfInBounds_toArray, List.set_cons_zero, List.set_cons_succ]
          have hS0 : Sr wr [] none none wr.drew := ⟨hb0, fun p hp => by simp at hp, fun B e => by simp at e, fun B e => by simp at e, fun B C e => by simp at e⟩
          generalize wr.drew = V at *
          refine anyH_name (fun T hT => ?_)
          have k511 : ∀ (x1 : Value) (x2 : Value) (x3 : Value) (x4 : Value) (v1 : Value) (v2 : Value) (B : Nat) (C : Nat) (W : World), Sr wr [(v1, p * x / S), (v2, p * x % S)] (some B) (some C) W → T 2 #[true, true, true, true, true, true, true, true, true, true, true, true, true, true, true, true, false, false] ({ tmps := #[.slice (some ⟨b, o, none⟩) xs.length xc, .int .i64 (k : Int), .int .i64 p, undef, undef, undef, .int .i64 0, .int .i64 0, .int .i64 S, undef, u10, .pointer (some ⟨B, 0, none⟩), .pointer (some ⟨C, 0, none⟩), undef, undef, undef, undef, .slice (some ⟨b, o, none⟩) xs.length xc, .int .i64 (k : Int), .bool true, .bool false, u21, u22, .slice (some ⟨b, o, none⟩) xs.length xc, .int .i64 (xs.length : Int), .int .i64 (xs.length : Int), .bool false, u27, u28, u29, u30, u31, u32, .tuple #[v1, v2], .int .i64 p, x1, .slice (some ⟨b, o, none⟩) xs.length xc, .int .i64 (k : Int), .pointer (some ⟨b, o + k, none⟩), .int .i64 x, x2, x3, .int .i64 S, x4, .tuple #[v1, v2], v1, v2, undef, undef, undef, undef, undef, undef, undef, undef, undef, undef, undef, undef], defers := [] } : Act) W := by
            intro x1 x2 x3 x4 v1 v2 B C W hS
            have hHeld := hS.k
            refine (hT _ _ _ _).2 ?_
            have hd1 := hS.d (v1, p * x / S) (by simp)
            have hd2 := hS.d (v2, p * x % S) (by simp)
            have F1 := hS.bf B rfl
            have F2 := hS.bg C rfl
            have hne : B ≠ C := hS.ne B C rfl rfl
            have hk0 := hS.k
            dsimp only at hd1 hd2
            obtain ⟨s1, d1, rfl, r1, -, -, -⟩ := id hd1
            obtain ⟨s2, d2, rfl, r2, -, -, -⟩ := id hd2
            obtain ⟨o1, c1, rfl, -, -, -, -⟩ := id r1
            obtain ⟨o2, c2, rfl, -, -, -, -⟩ := id r2
            obtain ⟨n1, hn1⟩ : ∃ n1, Hid (decide (p * x / S < 0) = n1) := ⟨_, rfl⟩
            obtain ⟨n2, hn2⟩ : ∃ n2, Hid (decide (p * x % S < 0) = n2) := ⟨_, rfl⟩
            rw [hn1.out] at hd1 ⊢
            rw [hn2.out] at hd2 ⊢
            clear hS r1 r2
            have y0 := F1.x.1
            have y1 := F1.x.2
            have z0 := F1.l.1
            have z1 := F1.l.2
            refine anyH_one (i := 16) (by kernel_rfl) rfl (fun K hK => ?_)
            go_simp
            have kk := below_set2 hk0 F1.lo (.bool n1) (.slice o1 d1.length c1)
            refine hK.out _ _ kk (fun hHeld => ?_)
            clear hK K
            try simp only [List.setIfInBounds_toArray, List.set_cons_zero, List.set_cons_succ]
            have e1 : Wd ((W.setCell ⟨B, 0, none⟩ (.bool n1)).setCell ⟨B, 1, none⟩ (.slice o1 d1.length c1)) _ _ := hd1.set2' y0 y1
            have e2 : Wd ((W.setCell ⟨B, 0, none⟩ (.bool n1)).setCell ⟨B, 1, none⟩ (.slice o1 d1.length c1)) _ _ := hd2.set2' y0 y1
            have F3 := F2.other (fun e => hne e.symm) (.bool n1) (.slice o1 d1.length c1)
            have F4 : Box ((W.setCell ⟨B, 0, none⟩ (.bool n1)).setCell ⟨B, 1, none⟩ (.slice o1 d1.length c1)) B n1 o1 d1.length c1 := F1.x.put
            generalize (W.setCell ⟨B, 0, none⟩ (.bool n1)).setCell ⟨B, 1, none⟩ (.slice o1 d1.length c1) = W1 at *
            clear y0 y1 z0 z1 hd1 hd2 hk0
            have y0 := F3.x.1
            have y1 := F3.x.2
            have z0 := F3.l.1
            have z1 := F3.l.2
            refine anyH_one (i := 17) (by kernel_rfl) rfl (fun K hK => ?_)
            go_simp
            have kk2 := below_set2 kk F3.lo (.bool n2) (.slice o2 d2.length c2)
            refine hK.out _ _ kk2 (fun hHeld => ?_)
            clear hK K
            try simp only [List.setIfInBounds_toArray, List.set_cons_zero, List.set_cons_succ]
            have g1 : Wd ((W1.setCell ⟨C, 0, none⟩ (.bool n2)).setCell ⟨C, 1, none⟩ (.slice o2 d2.length c2)) _ _ := e1.set2' y0 y1
            have g2 : Wd ((W1.setCell ⟨C, 0, none⟩ (.bool n2)).setCell ⟨C, 1, none⟩ (.slice o2 d2.length c2)) _ _ := e2.set2' y0 y1
            have F5 : Box ((W1.setCell ⟨C, 0, none⟩ (.bool n2)).setCell ⟨C, 1, none⟩ (.slice o2 d2.length c2)) B n1 o1 d1.length c1 := F4.other hne
            have F6 : Box ((W1.setCell ⟨C, 0, none⟩ (.bool n2)).setCell ⟨C, 1, none⟩ (.slice o2 d2.length c2)) C n2 o2 d2.length c2 := F3.x.put
            have lC : C < ((W1.setCell ⟨C, 0, none⟩ (.bool n2)).setCell ⟨C, 1, none⟩ (.slice o2 d2.length c2)).heap.size := by simpa using F3.hi
            generalize (W1.setCell ⟨C, 0, none⟩ (.bool n2)).setCell ⟨C, 1, none⟩ (.slice o2 d2.length c2) = W2 at *
            clear y0 y1 z0 z1 e1 e2 kk F1 F2 F3 F4
            refine wpAnyH_done (by kernel_rfl) ?_ _
            have y0 := F5.1
            have y1 := F5.2
            have hI1 := wint_any _ (p * x / S) W2 g1
            rw [hf1.out] at hI1
            go_wp2_with (first
              | (go_at_call 41; (with_reducible refine hI1.mono ?_); rintro e W3 ⟨n, rfl, hn3, b3⟩; have y2 := cell_on b3 F6.1; have y3 := cell_on b3 F6.2; have hI2 := wint_any _ (p * x % S) W3 (g2.below b3); rw [hf2.out] at hI2; obtain rfl := hn3 (by first | rfl | trivial); clear hI1)
              | (go_at_call 41; (with_reducible refine hI2.mono ?_); rintro e W4 ⟨m, rfl, hm3, b4⟩; obtain rfl := hm3 (by first | rfl | trivial); clear hI2))
            go_ret2
            exact ⟨rfl, below2 (below2 kk2 kk2.size b3) (below2 kk2 kk2.size b3).size b4⟩
          have k510 : ∀ (x1 : Value) (x2 : Value) (x3 : Value) (x4 : Value) (v1 : Value) (v2 : Value) (B : Nat) (W : World), Sr wr [(v1, p * x / S), (v2, p * x % S)] (some B) none W → T 3 #[true, true, true, true, true, true, true, true, true, true, true, true, true, true, true, false, false, false] ({ tmps := #[.slice (some ⟨b, o, none⟩) xs.length xc, .int .i64 (k : Int), .int .i64 p, undef, undef, undef, .int .i64 0, .int .i64 0, .int .i64 S, undef, u10, .pointer (some ⟨B, 0, none⟩), undef, undef, undef, undef, undef, .slice (some ⟨b, o, none⟩) xs.length xc, .int .i64 (k : Int), .bool true, .bool false, u21, u22, .slice (some ⟨b, o, none⟩) xs.length xc, .int .i64 (xs.length : Int), .int .i64 (xs.length : Int), .bool false, u27, u28, u29, u30, u31, u32, .tuple #[v1, v2], .int .i64 p, x1, .slice (some ⟨b, o, none⟩) xs.length xc, .int .i64 (k : Int), .pointer (some ⟨b, o + k, none⟩), .int .i64 x, x2, x3, .int .i64 S, x4, .tuple #[v1, v2], v1, v2, undef, undef, undef, undef, undef, undef, undef, undef, undef, undef, undef, undef], defers := [] } : Act) W := by
            intro x1 x2 x3 x4 v1 v2 B W hS
            have hHeld := hS.k
            refine (hT _ _ _ _).2 ?_
            refine wpAnyH_ready (rs := [15]) (by kernel_rfl) (by simp) (AllReadyH.cons rfl (fun K hK => ?_) AllReadyH.nil)
            · go_simp
              have h1 := hS.al12
              refine hK.out _ _ h1.k (fun _ => (hT _ _ _ _).1 ?_)
              exact k511 x1 x2 x3 x4 v1 v2 B _ _ h1
          have k501 : ∀ (x1 : Value) (x2 : Value) (x3 : Value) (x4 : Value) (v1 : Value) (v2 : Value) (C : Nat) (W : World), Sr wr [(v1, p * x / S), (v2, p * x % S)] none (some C) W → T 3 #[true, true, true, true, true, true, true, true, true, true, true, true, true, true, false, true, false, false] ({ tmps := #[.slice (some ⟨b, o, none⟩) xs.length xc, .int .i64 (k : Int), .int .i64 p, undef, undef, undef, .int .i64 0, .int .i64 0, .int .i64 S, undef, u10, undef, .pointer (some ⟨C, 0, none⟩), undef, undef, undef, undef, .slice (some ⟨b, o, none⟩) xs.length xc, .int .i64 (k : Int), .bool true, .bool false, u21, u22, .slice (some ⟨b, o, none⟩) xs.length xc, .int .i64 (xs.length : Int), .int .i64 (xs.length : Int), .bool false, u27, u28, u29, u30, u31, u32, .tuple #[v1, v2], .int .i64 p, x1, .slice (some ⟨b, o, none⟩) xs.length xc, .int .i64 (k : Int), .pointer (some ⟨b, o + k, none⟩), .int .i64 x, x2, x3, .int .i64 S, x4, .tuple #[v1, v2], v1, v2, undef, undef, undef, undef, undef, undef, undef, undef, undef, undef, undef, undef], defers := [] } : Act) W := by
            intro x1 x2 x3 x4 v1 v2 C W hS
            have hHeld := hS.k
            refine (hT _ _ _ _).2 ?_
            refine wpAnyH_ready (rs := [14]) (by kernel_rfl) (by simp) (AllReadyH.cons rfl (fun K hK => ?_) AllReadyH.nil)
            · go_simp
              have h1 := hS.al11
              refine hK.out _ _ h1.k (fun _ => (hT _ _ _ _).1 ?_)
              exact k511 x1 x2 x3 x4 v1 v2 _ C _ h1
          have k500 : ∀ (x1 : Value) (x2 : Value) (x3 : Value) (x4 : Value) (v1 : Value) (v2 : Value) (W : World), Sr wr [(v1, p * x / S), (v2, p * x % S)] none none W → T 4 #[true, true, true, true, true, true, true, true, true, true, true, true, true, true, false, false, false, false] ({ tmps := #[.slice (some ⟨b, o, none⟩) xs.length xc, .int .i64 (k : Int), .int .i64 p, undef, undef, undef, .int .i64 0, .int .i64 0, .int .i64 S, undef, u10, undef, undef, undef, undef, undef, undef, .slice (some ⟨b, o, none⟩) xs.length xc, .int .i64 (k : Int), .bool true, .bool false, u21, u22, .slice (some ⟨b, o, none⟩) xs.length xc, .int .i64 (xs.length : Int), .int .i64 (xs.length : Int), .bool false, u27, u28, u29, u30, u31, u32, .tuple #[v1, v2], .int .i64 p, x1, .slice (some ⟨b, o, none⟩) xs.length xc, .int .i64 (k : Int), .pointer (some ⟨b, o + k, none⟩), .int .i64 x, x2, x3, .int .i64 S, x4, .tuple #[v1, v2], v1, v2, undef, undef, undef, undef, undef, undef, undef, undef, undef, undef, undef, undef], defers := [] } : Act) W := by
            intro x1 x2 x3 x4 v1 v2 W hS
            have hHeld := hS.k
            refine (hT _ _ _ _).2 ?_
            refine wpAnyH_ready (rs := [14, 15]) (by kernel_rfl) (by simp) (AllReadyH.cons rfl (fun K hK => ?_) (AllReadyH.cons rfl (fun K hK => ?_) AllReadyH.nil))
            · go_simp
              have h1 := hS.al11
              refine hK.out _ _ h1.k (fun _ => (hT _ _ _ _).1 ?_)
              exact k510 x1 x2 x3 x4 v1 v2 _ _ h1
            · go_simp
              have h1 := hS.al12
              refine hK.out _ _ h1.k (fun _ => (hT _ _ _ _).1 ?_)
              exact k501 x1 x2 x3 x4 v1 v2 _ _ h1
          have k411 : ∀ (x1 : Value) (x2 : Value) (x3 : Value) (x4 : Value) (B : Nat) (C : Nat) (W : World), Sr wr [(x3, p * x), (x4, S)] (some B) (some C) W → T 6 #[true, true, true, true, true, true, true, true, true, true, false, false, false, false, true, true, false, false] ({ tmps := #[.slice (some ⟨b, o, none⟩) xs.length xc, .int .i64 (k : Int), .int .i64 p, undef, undef, undef, .int .i64 0, .int .i64 0, .int .i64 S, undef, u10, .pointer (some ⟨B, 0, none⟩), .pointer (some ⟨C, 0, none⟩), undef, undef, undef, undef, .slice (some ⟨b, o, none⟩) xs.length xc, .int .i64 (k : Int), .bool true, .bool false, u21, u22, .slice (some ⟨b, o, none⟩) xs.length xc, .int .i64 (xs.length : Int), .int .i64 (xs.length : Int), .bool false, u27, u28, u29, u30, u31, u32, undef, .int .i64 p, x1, .slice (some ⟨b, o, none⟩) xs.length xc, .int .i64 (k : Int), .pointer (some ⟨b, o + k, none⟩), .int .i64 x, x2, x3, .int .i64 S, x4, undef, undef, undef, undef, undef, undef, undef, undef, undef, undef, undef, undef, undef, undef, undef], defers := [] } : Act) W := by
            intro x1 x2 x3 x4 B C W hS
            have hHeld := hS.k
            refine (hT _ _ _ _).2 ?_
            refine wpAnyH_ready (rs := [10]) (by kernel_rfl) (by simp) (AllReadyH.cons rfl (fun K hK => ?_) AllReadyH.nil)
            · go_simp
              go_at_call 39
              refine (parted_any x3 x4 (p * x) S _ (hS.d (x3, p * x) (by simp)) (hS.d (x4, S) (by simp)) hbpx hbS hS0').mono ?_
              rintro e W1 ⟨v1, v2, Q, R, rfl, hv1, hv2, hD, hb1⟩
              obtain ⟨rfl, rfl⟩ := divof_pos hS1 hD
              have h1 : Sr wr [(v1, p * x / S), (v2, p * x % S)] (some B) (some C) W1 := ((hS.call hb1).nums (fun p hp => by simp only [List.mem_cons, List.not_mem_nil, or_false] at hp; rcases hp with rfl | rfl; exact hv1; exact hv2))
              refine hK.out _ _ h1.k (fun hHeld => ?_)
              clear hK K
              try simp only [List.setIfInBounds_toArray, List.set_cons_zero, List.set_cons_succ]
              refine anyH_take (i := 11) (v := ?_) (some 33) rfl rfl (by kernel_rfl) (fun _ _ _ h => h) (Or.inl ⟨by rfl, ?_⟩) (by assumption) ?_
              rotate_left
              · (intro w hSw; go_simp; all_goals with_reducible rfl)
              try simp only [Act.put, List.setIfInBounds_toArray, List.set_cons_zero, List.set_cons_succ]
              refine anyH_take (i := 12) (v := ?_) (some 45) rfl rfl (by kernel_rfl) (fun _ _ _ h => h) (Or.inl ⟨by rfl, ?_⟩) (by assumption) ?_
              rotate_left
              · (intro w hSw; go_simp; all_goals with_reducible rfl)
              try simp only [Act.put, List.setIfInBounds_toArray, List.set_cons_zero, List.set_cons_succ]
              refine anyH_take (i := 13) (v := ?_) (some 46) rfl rfl (by kernel_rfl) (fun _ _ _ h => h) (Or.inl ⟨by rfl, ?_⟩) (by assumption) ?_
              rotate_left
              · (intro w hSw; go_simp; all_goals with_reducible rfl)
              try simp only [Act.put, List.setIfInBounds_toArray, List.set_cons_zero, List.set_cons_succ]
              exact (hT _ _ _ _).1 (k511 x1 x2 x3 x4 v1 v2 B C _ h1)
          have k410 : ∀ (x1 : Value) (x2 : Value) (x3 : Value) (x4 : Value) (B : Nat) (W : World), Sr wr [(x3, p * x), (x4, S)] (some B) none W → T 7 #[true, true, true, true, true, true, true, true, true, true, false, false, false, false, true, false, false, false] ({ tmps := #[.slice (some ⟨b, o, none⟩) xs.length xc, .int .i64 (k : Int), .int .i64 p, undef, undef, undef, .int .i64 0, .int .i64 0, .int .i64 S, undef, u10, .pointer (some ⟨B, 0, none⟩), undef, undef, undef, undef, undef, .slice (some ⟨b, o, none⟩) xs.length xc, .int .i64 (k : Int), .bool true, .bool false, u21, u22, .slice (some ⟨b, o, none⟩) xs.length xc, .int .i64 (xs.length : Int), .int .i64 (xs.length : Int), .bool false, u27, u28, u29, u30, u31, u32, undef, .int .i64 p, x1, .slice (some ⟨b, o, none⟩) xs.length xc, .int .i64 (k : Int), .pointer (some ⟨b, o + k, none⟩), .int .i64 x, x2, x3, .int .i64 S, x4, undef, undef, undef, undef, undef, undef, undef, undef, undef, undef, undef, undef, undef, undef, undef], defers := [] } : Act) W := by
            intro x1 x2 x3 x4 B W hS
            have hHeld := hS.k
            refine (hT _ _ _ _).2 ?_
            refine wpAnyH_ready (rs := [10, 15]) (by kernel_rfl) (by simp) (AllReadyH.cons rfl (fun K hK => ?_) (AllReadyH.cons rfl (fun K hK => ?_) AllReadyH.nil))
            · go_simp
              go_at_call 39
              refine (parted_any x3 x4 (p * x) S _ (hS.d (x3, p * x) (by simp)) (hS.d (x4, S) (by simp)) hbpx hbS hS0').mono ?_
              rintro e W1 ⟨v1, v2, Q, R, rfl, hv1, hv2, hD, hb1⟩
              obtain ⟨rfl, rfl⟩ := divof_pos hS1 hD
              have h1 : Sr wr [(v1, p * x / S), (v2, p * x % S)] (some B) none W1 := ((hS.call hb1).nums (fun p hp => by simp only [List.mem_cons, List.not_mem_nil, or_false] at hp; rcases hp with rfl | rfl; exact hv1; exact hv2))
              refine hK.out _ _ h1.k (fun hHeld => ?_)
              clear hK K
              try simp only [List.setIfInBounds_toArray, List.set_cons_zero, List.set_cons_succ]
              refine anyH_take (i := 11) (v := ?_) (some 33) rfl rfl (by kernel_rfl) (fun _ _ _ h => h) (Or.inl ⟨by rfl, ?_⟩) (by assumption) ?_
              rotate_left
              · (intro w hSw; go_simp; all_goals with_reducible rfl)
              try simp only [Act.put, List.setIfInBounds_toArray, List.set_cons_zero, List.set_cons_succ]
              refine anyH_take (i := 12) (v := ?_) (some 45) rfl rfl (by kernel_rfl) (fun _ _ _ h => h) (Or.inl ⟨by rfl, ?_⟩) (by assumption) ?_
              rotate_left
              · (intro w hSw; go_simp; all_goals with_reducible rfl)
              try simp only [Act.put, List.setIfInBounds_toArray, List.set_cons_zero, List.set_cons_succ]
              refine anyH_take (i := 13) (v := ?_) (some 46) rfl rfl (by kernel_rfl) (fun _ _ _ h => h) (Or.inl ⟨by rfl, ?_⟩) (by assumption) ?_
              rotate_left
              · (intro w hSw; go_simp; all_goals with_reducible rfl)
              try simp only [Act.put, List.setIfInBounds_toArray, List.set_cons_zero, List.set_cons_succ]
              exact (hT _ _ _ _).1 (k510 x1 x2 x3 x4 v1 v2 B _ h1)
            · go_simp
              have h1 := hS.al12
              refine hK.out _ _ h1.k (fun _ => (hT _ _ _ _).1 ?_)
              exact k411 x1 x2 x3 x4 B _ _ h1
          have k401 : ∀ (x1 : Value) (x2 : Value) (x3 : Value) (x4 : Value) (C : Nat) (W : World), Sr wr [(x3, p * x), (x4, S)] none (some C) W → T 7 #[true, true, true, true, true, true, true, true, true, true, false, false, false, false, false, true, false, false] ({ tmps := #[.slice (some ⟨b, o, none⟩) xs.length xc, .int .i64 (k : Int), .int .i64 p, undef, undef, undef, .int .i64 0, .int .i64 0, .int .i64 S, undef, u10, undef, .pointer (some ⟨C, 0, none⟩), undef, undef, undef, undef, .slice (some ⟨b, o, none⟩) xs.length xc, .int .i64 (k : Int), .bool true, .bool false, u21, u22, .slice (some ⟨b, o, none⟩) xs.length xc, .int .i64 (xs.length : Int), .int .i64 (xs.length : Int), .bool false, u27, u28, u29, u30, u31, u32, undef, .int .i64 p, x1, .slice (some ⟨b, o, none⟩) xs.length xc, .int .i64 (k : Int), .pointer (some ⟨b, o + k, none⟩), .int .i64 x, x2, x3, .int .i64 S, x4, undef, undef, undef, undef, undef, undef, undef, undef, undef, undef, undef, undef, undef, undef, undef], defers := [] } : Act) W := by
            intro x1 x2 x3 x4 C W hS
            have hHeld := hS.k
            refine (hT _ _ _ _).2 ?_
            refine wpAnyH_ready (rs := [10, 14]) (by kernel_rfl) (by simp) (AllReadyH.cons rfl (fun K hK => ?_) (AllReadyH.cons rfl (fun K hK => ?_) AllReadyH.nil))
            · go_simp
              go_at_call 39
              refine (parted_any x3 x4 (p * x) S _ (hS.d (x3, p * x) (by simp)) (hS.d (x4, S) (by simp)) hbpx hbS hS0').mono ?_
              rintro e W1 ⟨v1, v2, Q, R, rfl, hv1, hv2, hD, hb1⟩
              obtain ⟨rfl, rfl⟩ := divof_pos hS1 hD
              have h1 : Sr wr [(v1, p * x / S), (v2, p * x % S)] none (some C) W1 := ((hS.call hb1).nums (fun p hp => by simp only [List.mem_cons, List.not_mem_nil, or_false] at hp; rcases hp with rfl | rfl; exact hv1; exact hv2))
              refine hK.out _ _ h1.k (fun hHeld => ?_)
              clear hK K
              try simp only [List.setIfInBounds_toArray, List.set_cons_zero, List.set_cons_succ]
              refine anyH_take (i := 11) (v := ?_) (some 33) rfl rfl (by kernel_rfl) (fun _ _ _ h => h) (Or.inl ⟨by rfl, ?_⟩) (by assumption) ?_
              rotate_left
              · (intro w hSw; go_simp; all_goals with_reducible rfl)
              try simp only [Act.put, List.setIfInBounds_toArray, List.set_cons_zero, List.set_cons_succ]
              refine anyH_take (i := 12) (v := ?_) (some 45) rfl rfl (by kernel_rfl) (fun _ _ _ h => h) (Or.inl ⟨by rfl, ?_⟩) (by assumption) ?_
              rotate_left
              · (intro w hSw; go_simp; all_goals with_reducible rfl)
              try simp only [Act.put, List.setIfInBounds_toArray, List.set_cons_zero, List.set_cons_succ]
              refine anyH_take (i := 13) (v := ?_) (some 46) rfl rfl (by kernel_rfl) (fun _ _ _ h => h) (Or.inl ⟨by rfl, ?_⟩) (by assumption) ?_
              rotate_left
              · (intro w hSw; go_simp; all_goals with_reducible rfl)
              try simp only [Act.put, List.setIfInBounds_toArray, List.set_cons_zero, List.set_cons_succ]
              exact (hT _ _ _ _).1 (k501 x1 x2 x3 x4 v1 v2 C _ h1)
            · go_simp
              have h1 := hS.al11
              refine hK.out _ _ h1.k (fun _ => (hT _ _ _ _).1 ?_)
              exact k411 x1 x2 x3 x4 _ C _ h1
          have k400 : ∀ (x1 : Value) (x2 : Value) (x3 : Value) (x4 : Value) (W : World), Sr wr [(x3, p * x), (x4, S)] none none W → T 8 #[true, true, true, true, true, true, true, true, true, true, false, false, false, false, false, false, false, false] ({ tmps := #[.slice (some ⟨b, o, none⟩) xs.length xc, .int .i64 (k : Int), .int .i64 p, undef, undef, undef, .int .i64 0, .int .i64 0, .int .i64 S, undef, u10, undef, undef, undef, undef, undef, undef, .slice (some ⟨b, o, none⟩) xs.length xc, .int .i64 (k : Int), .bool true, .bool false, u21, u22, .slice (some ⟨b, o, none⟩) xs.length xc, .int .i64 (xs.length : Int), .int .i64 (xs.length : Int), .bool false, u27, u28, u29, u30, u31, u32, undef, .int .i64 p, x1, .slice (some ⟨b, o, none⟩) xs.length xc, .int .i64 (k : Int), .pointer (some ⟨b, o + k, none⟩), .int .i64 x, x2, x3, .int .i64 S, x4, undef, undef, undef, undef, undef, undef, undef, undef, undef, undef, undef, undef, undef, undef, undef], defers := [] } : Act) W := by
            intro x1 x2 x3 x4 W hS
            have hHeld := hS.k
            refine (hT _ _ _ _).2 ?_
            refine wpAnyH_ready (rs := [10, 14, 15]) (by kernel_rfl) (by simp) (AllReadyH.cons rfl (fun K hK => ?_) (AllReadyH.cons rfl (fun K hK => ?_) (AllReadyH.cons rfl (fun K hK => ?_) AllReadyH.nil)))
            · go_simp
              go_at_call 39
              refine (parted_any x3 x4 (p * x) S _ (hS.d (x3, p * x) (by simp)) (hS.d (x4, S) (by simp)) hbpx hbS hS0').mono ?_
              rintro e W1 ⟨v1, v2, Q, R, rfl, hv1, hv2, hD, hb1⟩
              obtain ⟨rfl, rfl⟩ := divof_pos hS1 hD
              have h1 : Sr wr [(v1, p * x / S), (v2, p * x % S)] none none W1 := ((hS.call hb1).nums (fun p hp => by simp only [List.mem_cons, List.not_mem_nil, or_false] at hp; rcases hp with rfl | rfl; exact hv1; exact hv2))
              refine hK.out _ _ h1.k (fun hHeld => ?_)
              clear hK K
              try simp only [List.setIfInBounds_toArray, List.set_cons_zero, List.set_cons_succ]
              refine anyH_take (i := 11) (v := ?_) (some 33) rfl rfl (by kernel_rfl) (fun _ _ _ h => h) (Or.inl ⟨by rfl, ?_⟩) (by assumption) ?_
              rotate_left
              · (intro w hSw; go_simp; all_goals with_reducible rfl)
              try simp only [Act.put, List.setIfInBounds_toArray, List.set_cons_zero, List.set_cons_succ]
              refine anyH_take (i := 12) (v := ?_) (some 45) rfl rfl (by kernel_rfl) (fun _ _ _ h => h) (Or.inl ⟨by rfl, ?_⟩) (by assumption) ?_
              rotate_left
              · (intro w hSw; go_simp; all_goals with_reducible rfl)
              try simp only [Act.put, List.setIfInBounds_toArray, List.set_cons_zero, List.set_cons_succ]
              refine anyH_take (i := 13) (v := ?_) (some 46) rfl rfl (by kernel_rfl) (fun _ _ _ h => h) (Or.inl ⟨by rfl, ?_⟩) (by assumption) ?_
              rotate_left
              · (intro w hSw; go_simp; all_goals with_reducible rfl)
              try simp only [Act.put, List.setIfInBounds_toArray, List.set_cons_zero, List.set_cons_succ]
              exact (hT _ _ _ _).1 (k500 x1 x2 x3 x4 v1 v2 _ h1)
            · go_simp
              have h1 := hS.al11
              refine hK.out _ _ h1.k (fun _ => (hT _ _ _ _).1 ?_)
              exact k410 x1 x2 x3 x4 _ _ h1
            · go_simp
              have h1 := hS.al12
              refine hK.out _ _ h1.k (fun _ => (hT _ _ _ _).1 ?_)
              exact k401 x1 x2 x3 x4 _ _ h1
          have k311 : ∀ (x1 : Value) (x2 : Value) (x3 : Value) (B : Nat) (C : Nat) (W : World), Sr wr [(x3, p * x)] (some B) (some C) W → T 7 #[true, true, true, true, true, true, true, true, true, false, false, false, false, false, true, true, false, false] ({ tmps := #[.slice (some ⟨b, o, none⟩) xs.length xc, .int .i64 (k : Int), .int .i64 p, undef, undef, undef, .int .i64 0, .int .i64 0, .int .i64 S, undef, u10, .pointer (some ⟨B, 0, none⟩), .pointer (some ⟨C, 0, none⟩), undef, undef, undef, undef, .slice (some ⟨b, o, none⟩) xs.length xc, .int .i64 (k : Int), .bool true, .bool false, u21, u22, .slice (some ⟨b, o, none⟩) xs.length xc, .int .i64 (xs.length : Int), .int .i64 (xs.length : Int), .bool false, u27, u28, u29, u30, u31, u32, undef, .int .i64 p, x1, .slice (some ⟨b, o, none⟩) xs.length xc, .int .i64 (k : Int), .pointer (some ⟨b, o + k, none⟩), .int .i64 x, x2, x3, .int .i64 S, undef, undef, undef, undef, undef, undef, undef, undef, undef, undef, undef, undef, undef, undef, undef, undef], defers := [] } : Act) W := by
            intro x1 x2 x3 B C W hS
            have hHeld := hS.k
            refine (hT _ _ _ _).2 ?_
            refine wpAnyH_ready (rs := [9]) (by kernel_rfl) (by simp) (AllReadyH.cons rfl (fun K hK => ?_) AllReadyH.nil)
            · go_simp
              go_at_call 26
              refine (of_any S _ (by omega) (by omega)).mono ?_
              rintro e W1 ⟨x4, rfl, hx4, hb1⟩
              have h1 : Sr wr [(x3, p * x), (x4, S)] (some B) (some C) W1 := ((hS.call hb1).cons hx4)
              refine hK.out _ _ h1.k (fun _ => (hT _ _ _ _).1 ?_)
              exact k411 x1 x2 x3 x4 B C _ h1
          have k310 : ∀ (x1 : Value) (x2 : Value) (x3 : Value) (B : Nat) (W : World), Sr wr [(x3, p * x)] (some B) none W → T 8 #[true, true, true, true, true, true, true, true, true, false, false, false, false, false, true, false, false, false] ({ tmps := #[.slice (some ⟨b, o, none⟩) xs.length xc, .int .i64 (k : Int), .int .i64 p, undef, undef, undef, .int .i64 0, .int .i64 0, .int .i64 S, undef, u10, .pointer (some ⟨B, 0, none⟩), undef, undef, undef, undef, undef, .slice (some ⟨b, o, none⟩) xs.length xc, .int .i64 (k : Int), .bool true, .bool false, u21, u22, .slice (some ⟨b, o, none⟩) xs.length xc, .int .i64 (xs.length : Int), .int .i64 (xs.length : Int), .bool false, u27, u28, u29, u30, u31, u32, undef, .int .i64 p, x1, .slice (some ⟨b, o, none⟩) xs.length xc, .int .i64 (k : Int), .pointer (some ⟨b, o + k, none⟩), .int .i64 x, x2, x3, .int .i64 S, undef, undef, undef, undef, undef, undef, undef, undef, undef, undef, undef, undef, undef, undef, undef, undef], defers := [] } : Act) W := by
            intro x1 x2 x3 B W hS
            have hHeld := hS.k
            refine (hT _ _ _ _).2 ?_
            refine wpAnyH_ready (rs := [9, 15]) (by kernel_rfl) (by simp) (AllReadyH.cons rfl (fun K hK => ?_) (AllReadyH.cons rfl (fun K hK => ?_) AllReadyH.nil))
            · go_simp
              go_at_call 26
              refine (of_any S _ (by omega) (by omega)).mono ?_
              rintro e W1 ⟨x4, rfl, hx4, hb1⟩
              have h1 : Sr wr [(x3, p * x), (x4, S)] (some B) none W1 := ((hS.call hb1).cons hx4)
              refine hK.out _ _ h1.k (fun _ => (hT _ _ _ _).1 ?_)
              exact k410 x1 x2 x3 x4 B _ h1
            · go_simp
              have h1 := hS.al12
              refine hK.out _ _ h1.k (fun _ => (hT _ _ _ _).1 ?_)
              exact k311 x1 x2 x3 B _ _ h1
          have k301 : ∀ (x1 : Value) (x2 : Value) (x3 : Value) (C : Nat) (W : World), Sr wr [(x3, p * x)] none (some C) W → T 8 #[true, true, true, true, true, true, true, true, true, false, false, false, false, false, false, true, false, false] ({ tmps := #[.slice (some ⟨b, o, none⟩) xs.length xc, .int .i64 (k : Int), .int .i64 p, undef, undef, undef, .int .i64 0, .int .i64 0, .int .i64 S, undef, u10, undef, .pointer (some ⟨C, 0, none⟩), undef, undef, undef, undef, .slice (some ⟨b, o, none⟩) xs.length xc, .int .i64 (k : Int), .bool true, .bool false, u21, u22, .slice (some ⟨b, o, none⟩) xs.length xc, .int .i64 (xs.length : Int), .int .i64 (xs.length : Int), .bool false, u27, u28, u29, u30, u31, u32, undef, .int .i64 p, x1, .slice (some ⟨b, o, none⟩) xs.length xc, .int .i64 (k : Int), .pointer (some ⟨b, o + k, none⟩), .int .i64 x, x2, x3, .int .i64 S, undef, undef, undef, undef, undef, undef, undef, undef, undef, undef, undef, undef, undef, undef, undef, undef], defers := [] } : Act) W := by
            intro x1 x2 x3 C W hS
            have hHeld := hS.k
            refine (hT _ _ _ _).2 ?_
            refine wpAnyH_ready (rs := [9, 14]) (by kernel_rfl) (by simp) (AllReadyH.cons rfl (fun K hK => ?_) (AllReadyH.cons rfl (fun K hK => ?_) AllReadyH.nil))
            · go_simp
              go_at_call 26
              refine (of_any S _ (by omega) (by omega)).mono ?_
              rintro e W1 ⟨x4, rfl, hx4, hb1⟩
              have h1 : Sr wr [(x3, p * x), (x4, S)] none (some C) W1 := ((hS.call hb1).cons hx4)
              refine hK.out _ _ h1.k (fun _ => (hT _ _ _ _).1 ?_)
              exact k401 x1 x2 x3 x4 C _ h1
            · go_simp
              have h1 := hS.al11
              refine hK.out _ _ h1.k (fun _ => (hT _ _ _ _).1 ?_)
              exact k311 x1 x2 x3 _ C _ h1
          have k300 : ∀ (x1 : Value) (x2 : Value) (x3 : Value) (W : World), Sr wr [(x3, p * x)] none none W → T 9 #[true, true, true, true, true, true, true, true, true, false, false, false, false, false, false, false, false, false] ({ tmps := #[.slice (some ⟨b, o, none⟩) xs.length xc, .int .i64 (k : Int), .int .i64 p, undef, undef, undef, .int .i64 0, .int .i64 0, .int .i64 S, undef, u10, undef, undef, undef, undef, undef, undef, .slice (some ⟨b, o, none⟩) xs.length xc, .int .i64 (k : Int), .bool true, .bool false, u21, u22, .slice (some ⟨b, o, none⟩) xs.length xc, .int .i64 (xs.length : Int), .int .i64 (xs.length : Int), .bool false, u27, u28, u29, u30, u31, u32, undef, .int .i64 p, x1, .slice (some ⟨b, o, none⟩) xs.length xc, .int .i64 (k : Int), .pointer (some ⟨b, o + k, none⟩), .int .i64 x, x2, x3, .int .i64 S, undef, undef, undef, undef, undef, undef, undef, undef, undef, undef, undef, undef, undef, undef, undef, undef], defers := [] } : Act) W := by
            intro x1 x2 x3 W hS
            have hHeld := hS.k
            refine (hT _ _ _ _).2 ?_
            refine wpAnyH_ready (rs := [9, 14, 15]) (by kernel_rfl) (by simp) (AllReadyH.cons rfl (fun K hK => ?_) (AllReadyH.cons rfl (fun K hK => ?_) (AllReadyH.cons rfl (fun K hK => ?_) AllReadyH.nil)))
            · go_simp
              go_at_call 26
              refine (of_any S _ (by omega) (by omega)).mono ?_
              rintro e W1 ⟨x4, rfl, hx4, hb1⟩
              have h1 : Sr wr [(x3, p * x), (x4, S)] none none W1 := ((hS.call hb1).cons hx4)
              refine hK.out _ _ h1.k (fun _ => (hT _ _ _ _).1 ?_)
              exact k400 x1 x2 x3 x4 _ h1
            · go_simp
              have h1 := hS.al11
              refine hK.out _ _ h1.k (fun _ => (hT _ _ _ _).1 ?_)
              exact k310 x1 x2 x3 _ _ h1
            · go_simp
              have h1 := hS.al12
              refine hK.out _ _ h1.k (fun _ => (hT _ _ _ _).1 ?_)
              exact k301 x1 x2 x3 _ _ h1
          have k211 : ∀ (x1 : Value) (x2 : Value) (B : Nat) (C : Nat) (W : World), Sr wr [(x1, p), (x2, x)] (some B) (some C) W → T 8 #[true, true, true, true, true, true, true, false, true, false, false, false, false, false, true, true, false, false] ({ tmps := #[.slice (some ⟨b, o, none⟩) xs.length xc, .int .i64 (k : Int), .int .i64 p, undef, undef, undef, .int .i64 0, .int .i64 0, .int .i64 S, undef, u10, .pointer (some ⟨B, 0, none⟩), .pointer (some ⟨C, 0, none⟩), undef, undef, undef, undef, .slice (some ⟨b, o, none⟩) xs.length xc, .int .i64 (k : Int), .bool true, .bool false, u21, u22, .slice (some ⟨b, o, none⟩) xs.length xc, .int .i64 (xs.length : Int), .int .i64 (xs.length : Int), .bool false, u27, u28, u29, u30, u31, u32, undef, .int .i64 p, x1, .slice (some ⟨b, o, none⟩) xs.length xc, .int .i64 (k : Int), .pointer (some ⟨b, o + k, none⟩), .int .i64 x, x2, undef, .int .i64 S, undef, undef, undef, undef, undef, undef, undef, undef, undef, undef, undef, undef, undef, undef, undef, undef], defers := [] } : Act) W := by
            intro x1 x2 B C W hS
            have hHeld := hS.k
            refine (hT _ _ _ _).2 ?_
            refine wpAnyH_ready (rs := [7]) (by kernel_rfl) (by simp) (AllReadyH.cons rfl (fun K hK => ?_) AllReadyH.nil)
            · go_simp
              go_at_call 40
              refine (wtimes_any x1 x2 p x _ (hS.d (x1, p) (by simp)) (hS.d (x2, x) (by simp)) hbp hbx).mono ?_
              rintro e W1 ⟨x3, rfl, hx3, hb1⟩
              have h1 : Sr wr [(x3, p * x)] (some B) (some C) W1 := ((hS.call hb1).nums (fun p hp => by simp only [List.mem_singleton] at hp; subst hp; exact hx3))
              refine hK.out _ _ h1.k (fun _ => (hT _ _ _ _).1 ?_)
              exact k311 x1 x2 x3 B C _ h1
          have k210 : ∀ (x1 : Value) (x2 : Value) (B : Nat) (W : World), Sr wr [(x1, p), (x2, x)] (some B) none W → T 9 #[true, true, true, true, true, true, true, false, true, false, false, false, false, false, true, false, false, false] ({ tmps := #[.slice (some ⟨b, o, none⟩) xs.length xc, .int .i64 (k : Int), .int .i64 p, undef, undef, undef, .int .i64 0, .int .i64 0, .int .i64 S, undef, u10, .pointer (some ⟨B, 0, none⟩), undef, undef, undef, undef, undef, .slice (some ⟨b, o, none⟩) xs.length xc, .int .i64 (k : Int), .bool true, .bool false, u21, u22, .slice (some ⟨b, o, none⟩) xs.length xc, .int .i64 (xs.length : Int), .int .i64 (xs.length : Int), .bool false, u27, u28, u29, u30, u31, u32, undef, .int .i64 p, x1, .slice (some ⟨b, o, none⟩) xs.length xc, .int .i64 (k : Int), .pointer (some ⟨b, o + k, none⟩), .int .i64 x, x2, undef, .int .i64 S, undef, undef, undef, undef, undef, undef, undef, undef, undef, undef, undef, undef, undef, undef, undef, undef], defers := [] } : Act) W := by
            intro x1 x2 B W hS
            have hHeld := hS.k
            refine (hT _ _ _ _).2 ?_
            refine wpAnyH_ready (rs := [7, 15]) (by kernel_rfl) (by simp) (AllReadyH.cons rfl (fun K hK => ?_) (AllReadyH.cons rfl (fun K hK => ?_) AllReadyH.nil))
            · go_simp
              go_at_call 40
              refine (wtimes_any x1 x2 p x _ (hS.d (x1, p) (by simp)) (hS.d (x2, x) (by simp)) hbp hbx).mono ?_
              rintro e W1 ⟨x3, rfl, hx3, hb1⟩
              have h1 : Sr wr [(x3, p * x)] (some B) none W1 := ((hS.call hb1).nums (fun p hp => by simp only [List.mem_singleton] at hp; subst hp; exact hx3))
              refine hK.out _ _ h1.k (fun _ => (hT _ _ _ _).1 ?_)
              exact k310 x1 x2 x3 B _ h1
            · go_simp
              have h1 := hS.al12
              refine hK.out _ _ h1.k (fun _ => (hT _ _ _ _).1 ?_)
              exact k211 x1 x2 B _ _ h1
          have k201 : ∀ (x1 : Value) (x2 : Value) (C : Nat) (W : World), Sr wr [(x1, p), (x2, x)] none (some C) W → T 9 #[true, true, true, true, true, true, true, false, true, false, false, false, false, false, false, true, false, false] ({ tmps := #[.slice (some ⟨b, o, none⟩) xs.length xc, .int .i64 (k : Int), .int .i64 p, undef, undef, undef, .int .i64 0, .int .i64 0, .int .i64 S, undef, u10, undef, .pointer (some ⟨C, 0, none⟩), undef, undef, undef, undef, .slice (some ⟨b, o, none⟩) xs.length xc, .int .i64 (k : Int), .bool true, .bool false, u21, u22, .slice (some ⟨b, o, none⟩) xs.length xc, .int .i64 (xs.length : Int), .int .i64 (xs.length : Int), .bool false, u27, u28, u29, u30, u31, u32, undef, .int .i64 p, x1, .slice (some ⟨b, o, none⟩) xs.length xc, .int .i64 (k : Int), .pointer (some ⟨b, o + k, none⟩), .int .i64 x, x2, undef, .int .i64 S, undef, undef, undef, undef, undef, undef, undef, undef, undef, undef, undef, undef, undef, undef, undef, undef], defers := [] } : Act) W := by
            intro x1 x2 C W hS
            have hHeld := hS.k
            refine (hT _ _ _ _).2 ?_
            refine wpAnyH_ready (rs := [7, 14]) (by kernel_rfl) (by simp) (AllReadyH.cons rfl (fun K hK => ?_) (AllReadyH.cons rfl (fun K hK => ?_) AllReadyH.nil))
            · go_simp
              go_at_call 40
              refine (wtimes_any x1 x2 p x _ (hS.d (x1, p) (by simp)) (hS.d (x2, x) (by simp)) hbp hbx).mono ?_
              rintro e W1 ⟨x3, rfl, hx3, hb1⟩
              have h1 : Sr wr [(x3, p * x)] none (some C) W1 := ((hS.call hb1).nums (fun p hp => by simp only [List.mem_singleton] at hp; subst hp; exact hx3))
              refine hK.out _ _ h1.k (fun _ => (hT _ _ _ _).1 ?_)
              exact k301 x1 x2 x3 C _ h1
            · go_simp
              have h1 := hS.al11
              refine hK.out _ _ h1.k (fun _ => (hT _ _ _ _).1 ?_)
              exact k211 x1 x2 _ C _ h1
          have k200 : ∀ (x1 : Value) (x2 : Value) (W : World), Sr wr [(x1, p), (x2, x)] none none W → T 10 #[true, true, true, true, true, true, true, false, true, false, false, false, false, false, false, false, false, false] ({ tmps := #[.slice (some ⟨b, o, none⟩) xs.length xc, .int .i64 (k : Int), .int .i64 p, undef, undef, undef, .int .i64 0, .int .i64 0, .int .i64 S, undef, u10, undef, undef, undef, undef, undef, undef, .slice (some ⟨b, o, none⟩) xs.length xc, .int .i64 (k : Int), .bool true, .bool false, u21, u22, .slice (some ⟨b, o, none⟩) xs.length xc, .int .i64 (xs.length : Int), .int .i64 (xs.length : Int), .bool false, u27, u28, u29, u30, u31, u32, undef, .int .i64 p, x1, .slice (some ⟨b, o, none⟩) xs.length xc, .int .i64 (k : Int), .pointer (some ⟨b, o + k, none⟩), .int .i64 x, x2, undef, .int .i64 S, undef, undef, undef, undef, undef, undef, undef, undef, undef, undef, undef, undef, undef, undef, undef, undef], defers := [] } : Act) W := by
            intro x1 x2 W hS
            have hHeld := hS.k
            refine (hT _ _ _ _).2 ?_
            refine wpAnyH_ready (rs := [7, 14, 15]) (by kernel_rfl) (by simp) (AllReadyH.cons rfl (fun K hK => ?_) (AllReadyH.cons rfl (fun K hK => ?_) (AllReadyH.cons rfl (fun K hK => ?_) AllReadyH.nil)))
            · go_simp
              go_at_call 40
              refine (wtimes_any x1 x2 p x _ (hS.d (x1, p) (by simp)) (hS.d (x2, x) (by simp)) hbp hbx).mono ?_
              rintro e W1 ⟨x3, rfl, hx3, hb1⟩
              have h1 : Sr wr [(x3, p * x)] none none W1 := ((hS.call hb1).nums (fun p hp => by simp only [List.mem_singleton] at hp; subst hp; exact hx3))
              refine hK.out _ _ h1.k (fun _ => (hT _ _ _ _).1 ?_)
              exact k300 x1 x2 x3 _ h1
            · go_simp
              have h1 := hS.al11
              refine hK.out _ _ h1.k (fun _ => (hT _ _ _ _).1 ?_)
              exact k210 x1 x2 _ _ h1
            · go_simp
              have h1 := hS.al12
              refine hK.out _ _ h1.k (fun _ => (hT _ _ _ _).1 ?_)
              exact k201 x1 x2 _ _ h1
          have k111 : ∀ (x1 : Value) (B : Nat) (C : Nat) (W : World), Sr wr [(x1, p)] (some B) (some C) W → T 9 #[true, true, true, true, true, true, false, false, true, false, false, false, false, false, true, true, false, false] ({ tmps := #[.slice (some ⟨b, o, none⟩) xs.length xc, .int .i64 (k : Int), .int .i64 p, undef, undef, undef, .int .i64 0, .int .i64 0, .int .i64 S, undef, u10, .pointer (some ⟨B, 0, none⟩), .pointer (some ⟨C, 0, none⟩), undef, undef, undef, undef, .slice (some ⟨b, o, none⟩) xs.length xc, .int .i64 (k : Int), .bool true, .bool false, u21, u22, .slice (some ⟨b, o, none⟩) xs.length xc, .int .i64 (xs.length : Int), .int .i64 (xs.length : Int), .bool false, u27, u28, u29, u30, u31, u32, undef, .int .i64 p, x1, .slice (some ⟨b, o, none⟩) xs.length xc, .int .i64 (k : Int), .pointer (some ⟨b, o + k, none⟩), .int .i64 x, undef, undef, .int .i64 S, undef, undef, undef, undef, undef, undef, undef, undef, undef, undef, undef, undef, undef, undef, undef, undef], defers := [] } : Act) W := by
            intro x1 B C W hS
            have hHeld := hS.k
            refine (hT _ _ _ _).2 ?_
            refine wpAnyH_ready (rs := [6]) (by kernel_rfl) (by simp) (AllReadyH.cons rfl (fun K hK => ?_) AllReadyH.nil)
            · go_simp
              go_at_call 26
              refine (of_any x _ (by omega) (by omega)).mono ?_
              rintro e W1 ⟨x2, rfl, hx2, hb1⟩
              have h1 : Sr wr [(x1, p), (x2, x)] (some B) (some C) W1 := ((hS.call hb1).cons hx2)
              refine hK.out _ _ h1.k (fun _ => (hT _ _ _ _).1 ?_)
              exact k211 x1 x2 B C _ h1
          have k110 : ∀ (x1 : Value) (B : Nat) (W : World), Sr wr [(x1, p)] (some B) none W → T 10 #[true, true, true, true, true, true, false, false, true, false, false, false, false, false, true, false, false, false] ({ tmps := #[.slice (some ⟨b, o, none⟩) xs.length xc, .int .i64 (k : Int), .int .i64 p, undef, undef, undef, .int .i64 0, .int .i64 0, .int .i64 S, undef, u10, .pointer (some ⟨B, 0, none⟩), undef, undef, undef, undef, undef, .slice (some ⟨b, o, none⟩) xs.length xc, .int .i64 (k : Int), .bool true, .bool false, u21, u22, .slice (some ⟨b, o, none⟩) xs.length xc, .int .i64 (xs.length : Int), .int .i64 (xs.length : Int), .bool false, u27, u28, u29, u30, u31, u32, undef, .int .i64 p, x1, .slice (some ⟨b, o, none⟩) xs.length xc, .int .i64 (k : Int), .pointer (some ⟨b, o + k, none⟩), .int .i64 x, undef, undef, .int .i64 S, undef, undef, undef, undef, undef, undef, undef, undef, undef, undef, undef, undef, undef, undef, undef, undef], defers := [] } : Act) W := by
            intro x1 B W hS
            have hHeld := hS.k
            refine (hT _ _ _ _).2 ?_
            refine wpAnyH_ready (rs := [6, 15]) (by kernel_rfl) (by simp) (AllReadyH.cons rfl (fun K hK => ?_) (AllReadyH.cons rfl (fun K hK => ?_) AllReadyH.nil))
            · go_simp
              go_at_call 26
              refine (of_any x _ (by omega) (by omega)).mono ?_
              rintro e W1 ⟨x2, rfl, hx2, hb1⟩
              have h1 : Sr wr [(x1, p), (x2, x)] (some B) none W1 := ((hS.call hb1).cons hx2)
              refine hK.out _ _ h1.k (fun _ => (hT _ _ _ _).1 ?_)
              exact k210 x1 x2 B _ h1
            · go_simp
              have h1 := hS.al12
              refine hK.out _ _ h1.k (fun _ => (hT _ _ _ _).1 ?_)
              exact k111 x1 B _ _ h1
          have k101 : ∀ (x1 : Value) (C : Nat) (W : World), Sr wr [(x1, p)] none (some C) W → T 10 #[true, true, true, true, true, true, false, false, true, false, false, false, false, false, false, true, false, false] ({ tmps := #[.slice (some ⟨b, o, none⟩) xs.length xc, .int .i64 (k : Int), .int .i64 p, undef, undef, undef, .int .i64 0, .int .i64 0, .int .i64 S, undef, u10, undef, .pointer (some ⟨C, 0, none⟩), undef, undef, undef, undef, .slice (some ⟨b, o, none⟩) xs.length xc, .int .i64 (k : Int), .bool true, .bool false, u21, u22, .slice (some ⟨b, o, none⟩) xs.length xc, .int .i64 (xs.length : Int), .int .i64 (xs.length : Int), .bool false, u27, u28, u29, u30, u31, u32, undef, .int .i64 p, x1, .slice (some ⟨b, o, none⟩) xs.length xc, .int .i64 (k : Int), .pointer (some ⟨b, o + k, none⟩), .int .i64 x, undef, undef, .int .i64 S, undef, undef, undef, undef, undef, undef, undef, undef, undef, undef, undef, undef, undef, undef, undef, undef], defers := [] } : Act) W := by
            intro x1 C W hS
            have hHeld := hS.k
            refine (hT _ _ _ _).2 ?_
            refine wpAnyH_ready (rs := [6, 14]) (by kernel_rfl) (by simp) (AllReadyH.cons rfl (fun K hK => ?_) (AllReadyH.cons rfl (fun K hK => ?_) AllReadyH.nil))
            · go_simp
              go_at_call 26
              refine (of_any x _ (by omega) (by omega)).mono ?_
              rintro e W1 ⟨x2, rfl, hx2, hb1⟩
              have h1 : Sr wr [(x1, p), (x2, x)] none (some C) W1 := ((hS.call hb1).cons hx2)
              refine hK.out _ _ h1.k (fun _ => (hT _ _ _ _).1 ?_)
              exact k201 x1 x2 C _ h1
            · go_simp
              have h1 := hS.al11
              refine hK.out _ _ h1.k (fun _ => (hT _ _ _ _).1 ?_)
              exact k111 x1 _ C _ h1
          have k100 : ∀ (x1 : Value) (W : World), Sr wr [(x1, p)] none none W → T 11 #[true, true, true, true, true, true, false, false, true, false, false, false, false, false, false, false, false, false] ({ tmps := #[.slice (some ⟨b, o, none⟩) xs.length xc, .int .i64 (k : Int), .int .i64 p, undef, undef, undef, .int .i64 0, .int .i64 0, .int .i64 S, undef, u10, undef, undef, undef, undef, undef, undef, .slice (some ⟨b, o, none⟩) xs.length xc, .int .i64 (k : Int), .bool true, .bool false, u21, u22, .slice (some ⟨b, o, none⟩) xs.length xc, .int .i64 (xs.length : Int), .int .i64 (xs.length : Int), .bool false, u27, u28, u29, u30, u31, u32, undef, .int .i64 p, x1, .slice (some ⟨b, o, none⟩) xs.length xc, .int .i64 (k : Int), .pointer (some ⟨b, o + k, none⟩), .int .i64 x, undef, undef, .int .i64 S, undef, undef, undef, undef, undef, undef, undef, undef, undef, undef, undef, undef, undef, undef, undef, undef], defers := [] } : Act) W := by
            intro x1 W hS
            have hHeld := hS.k
            refine (hT _ _ _ _).2 ?_
            refine wpAnyH_ready (rs := [6, 14, 15]) (by kernel_rfl) (by simp) (AllReadyH.cons rfl (fun K hK => ?_) (AllReadyH.cons rfl (fun K hK => ?_) (AllReadyH.cons rfl (fun K hK => ?_) AllReadyH.nil)))
            · go_simp
              go_at_call 26
              refine (of_any x _ (by omega) (by omega)).mono ?_
              rintro e W1 ⟨x2, rfl, hx2, hb1⟩
              have h1 : Sr wr [(x1, p), (x2, x)] none none W1 := ((hS.call hb1).cons hx2)
              refine hK.out _ _ h1.k (fun _ => (hT _ _ _ _).1 ?_)
              exact k200 x1 x2 _ h1
            · go_simp
              have h1 := hS.al11
              refine hK.out _ _ h1.k (fun _ => (hT _ _ _ _).1 ?_)
              exact k110 x1 _ _ h1
            · go_simp
              have h1 := hS.al12
              refine hK.out _ _ h1.k (fun _ => (hT _ _ _ _).1 ?_)
              exact k101 x1 _ _ h1
          have k011 : ∀ (B : Nat) (C : Nat) (W : World), Sr wr [] (some B) (some C) W → T 10 #[true, false, true, true, true, true, false, false, true, false, false, false, false, false, true, true, false, false] ({ tmps := #[.slice (some ⟨b, o, none⟩) xs.length xc, .int .i64 (k : Int), .int .i64 p, undef, undef, undef, .int .i64 0, .int .i64 0, .int .i64 S, undef, u10, .pointer (some ⟨B, 0, none⟩), .pointer (some ⟨C, 0, none⟩), undef, undef, undef, undef, .slice (some ⟨b, o, none⟩) xs.length xc, .int .i64 (k : Int), .bool true, .bool false, u21, u22, .slice (some ⟨b, o, none⟩) xs.length xc, .int .i64 (xs.length : Int), .int .i64 (xs.length : Int), .bool false, u27, u28, u29, u30, u31, u32, undef, .int .i64 p, undef, .slice (some ⟨b, o, none⟩) xs.length xc, .int .i64 (k : Int), .pointer (some ⟨b, o + k, none⟩), .int .i64 x, undef, undef, .int .i64 S, undef, undef, undef, undef, undef, undef, undef, undef, undef, undef, undef, undef, undef, undef, undef, undef], defers := [] } : Act) W := by
            intro B C W hS
            have hHeld := hS.k
            refine (hT _ _ _ _).2 ?_
            refine wpAnyH_ready (rs := [1]) (by kernel_rfl) (by simp) (AllReadyH.cons rfl (fun K hK => ?_) AllReadyH.nil)
            · go_simp
              go_at_call 26
              refine (of_any p _ (by omega) hp1).mono ?_
              rintro e W1 ⟨x1, rfl, hx1, hb1⟩
              have h1 : Sr wr [(x1, p)] (some B) (some C) W1 := ((hS.call hb1).cons hx1)
              refine hK.out _ _ h1.k (fun _ => (hT _ _ _ _).1 ?_)
              exact k111 x1 B C _ h1
          have k010 : ∀ (B : Nat) (W : World), Sr wr [] (some B) none W → T 11 #[true, false, true, true, true, true, false, false, true, false, false, false, false, false, true, false, false, false] ({ tmps := #[.slice (some ⟨b, o, none⟩) xs.length xc, .int .i64 (k : Int), .int .i64 p, undef, undef, undef, .int .i64 0, .int .i64 0, .int .i64 S, undef, u10, .pointer (some ⟨B, 0, none⟩), undef, undef, undef, undef, undef, .slice (some ⟨b, o, none⟩) xs.length xc, .int .i64 (k : Int), .bool true, .bool false, u21, u22, .slice (some ⟨b, o, none⟩) xs.length xc, .int .i64 (xs.length : Int), .int .i64 (xs.length : Int), .bool false, u27, u28, u29, u30, u31, u32, undef, .int .i64 p, undef, .slice (some ⟨b, o, none⟩) xs.length xc, .int .i64 (k : Int), .pointer (some ⟨b, o + k, none⟩), .int .i64 x, undef, undef, .int .i64 S, undef, undef, undef, undef, undef, undef, undef, undef, undef, undef, undef, undef, undef, undef, undef, undef], defers := [] } : Act) W := by
            intro B W hS
            have hHeld := hS.k
            refine (hT _ _ _ _).2 ?_
            refine wpAnyH_ready (rs := [1, 15]) (by kernel_rfl) (by simp) (AllReadyH.cons rfl (fun K hK => ?_) (AllReadyH.cons rfl (fun K hK => ?_) AllReadyH.nil))
            · go_simp
              go_at_call 26
              refine (of_any p _ (by omega) hp1).mono ?_
              rintro e W1 ⟨x1, rfl, hx1, hb1⟩
              have h1 : Sr wr [(x1, p)] (some B) none W1 := ((hS.call hb1).cons hx1)
              refine hK.out _ _ h1.k (fun _ => (hT _ _ _ _).1 ?_)
              exact k110 x1 B _ h1
            · go_simp
              have h1 := hS.al12
              refine hK.out _ _ h1.k (fun _ => (hT _ _ _ _).1 ?_)
              exact k011 B _ _ h1
          have k001 : ∀ (C : Nat) (W : World), Sr wr [] none (some C) W → T 11 #[true, false, true, true, true, true, false, false, true, false, false, false, false, false, false, true, false, false] ({ tmps := #[.slice (some ⟨b, o, none⟩) xs.length xc, .int .i64 (k : Int), .int .i64 p, undef, undef, undef, .int .i64 0, .int .i64 0, .int .i64 S, undef, u10, undef, .pointer (some ⟨C, 0, none⟩), undef, undef, undef, undef, .slice (some ⟨b, o, none⟩) xs.length xc, .int .i64 (k : Int), .bool true, .bool false, u21, u22, .slice (some ⟨b, o, none⟩) xs.length xc, .int .i64 (xs.length : Int), .int .i64 (xs.length : Int), .bool false, u27, u28, u29, u30, u31, u32, undef, .int .i64 p, undef, .slice (some ⟨b, o, none⟩) xs.length xc, .int .i64 (k : Int), .pointer (some ⟨b, o + k, none⟩), .int .i64 x, undef, undef, .int .i64 S, undef, undef, undef, undef, undef, undef, undef, undef, undef, undef, undef, undef, undef, undef, undef, undef], defers := [] } : Act) W := by
            intro C W hS
            have hHeld := hS.k
            refine (hT _ _ _ _).2 ?_
            refine wpAnyH_ready (rs := [1, 14]) (by kernel_rfl) (by simp) (AllReadyH.cons rfl (fun K hK => ?_) (AllReadyH.cons rfl (fun K hK => ?_) AllReadyH.nil))
            · go_simp
              go_at_call 26
              refine (of_any p _ (by omega) hp1).mono ?_
              rintro e W1 ⟨x1, rfl, hx1, hb1⟩
              have h1 : Sr wr [(x1, p)] none (some C) W1 := ((hS.call hb1).cons hx1)
              refine hK.out _ _ h1.k (fun _ => (hT _ _ _ _).1 ?_)
              exact k101 x1 C _ h1
            · go_simp
              have h1 := hS.al11
              refine hK.out _ _ h1.k (fun _ => (hT _ _ _ _).1 ?_)
              exact k011 _ C _ h1
          have k000 : ∀ (W : World), Sr wr [] none none W → T 12 #[true, false, true, true, true, true, false, false, true, false, false, false, false, false, false, false, false, false] ({ tmps := #[.slice (some ⟨b, o, none⟩) xs.length xc, .int .i64 (k : Int), .int .i64 p, undef, undef, undef, .int .i64 0, .int .i64 0, .int .i64 S, undef, u10, undef, undef, undef, undef, undef, undef, .slice (some ⟨b, o, none⟩) xs.length xc, .int .i64 (k : Int), .bool true, .bool false, u21, u22, .slice (some ⟨b, o, none⟩) xs.length xc, .int .i64 (xs.length : Int), .int .i64 (xs.length : Int), .bool false, u27, u28, u29, u30, u31, u32, undef, .int .i64 p, undef, .slice (some ⟨b, o, none⟩) xs.length xc, .int .i64 (k : Int), .pointer (some ⟨b, o + k, none⟩), .int .i64 x, undef, undef, .int .i64 S, undef, undef, undef, undef, undef, undef, undef, undef, undef, undef, undef, undef, undef, undef, undef, undef], defers := [] } : Act) W := by
            intro W hS
            have hHeld := hS.k
            refine (hT _ _ _ _).2 ?_
            refine wpAnyH_ready (rs := [1, 14, 15]) (by kernel_rfl) (by simp) (AllReadyH.cons rfl (fun K hK => ?_) (AllReadyH.cons rfl (fun K hK => ?_) (AllReadyH.cons rfl (fun K hK => ?_) AllReadyH.nil)))
            · go_simp
              go_at_call 26
              refine (of_any p _ (by omega) hp1).mono ?_
              rintro e W1 ⟨x1, rfl, hx1, hb1⟩
              have h1 : Sr wr [(x1, p)] none none W1 := ((hS.call hb1).cons hx1)
              refine hK.out _ _ h1.k (fun _ => (hT _ _ _ _).1 ?_)
              exact k100 x1 _ h1
            · go_simp
              have h1 := hS.al11
              refine hK.out _ _ h1.k (fun _ => (hT _ _ _ _).1 ?_)
              exact k010 _ _ h1
            · go_simp
              have h1 := hS.al12
              refine hK.out _ _ h1.k (fun _ => (hT _ _ _ _).1 ?_)
              exact k001 _ _ h1
          exact k000 _ hS0
end
end Go.Proofs.Ytdfccjhmpgoacaa.Str
