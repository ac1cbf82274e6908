/- The walk of WheelWakes. -/
import Derived.Test.YtmjjghhlalaeiaaWakesM
namespace Go.Proofs.Ytmjjghhlalaeiaa
open Go.RowKit

set_option maxRecDepth 100000 in
set_option maxHeartbeats 8000000 in
theorem wakes_any (st : Int) (sp : Option Addr) (cp : Nat) (xs : List Nat) (w : World) (hst : 0 ≤ st ∧ st ≤ 65535) (hx : Wide16 w sp xs) (hb : ∀ x ∈ xs, x < 65536) :
    Calls Try.prog 4 #[.int .u16 st, .slice sp xs.length cp] w fun e w' => e = .returned (.bool true) ∧ Below w.heap.size w w' := by
  by_cases h0 : 40 < xs.length
  · have h2 : (40 : Int) < (xs.length : Int) := by omega
    clear hx hb h0
    go_enter Try.func4, Try.ntmps4
    go_wp2_with (first
      | (go_at_call 8; refine (lives_any _).mono ?_; rintro e w' ⟨rfl, hb⟩))
    go_ret
    exact ⟨rfl, hb⟩
  · have hl2 : xs.length ≤ 40 := by omega
    have hl2' : (xs.length : Int) ≤ 40 := by omega
    clear h0
    obtain ⟨s, rfl⟩ : ∃ s : Nat, st = s := ⟨st.toNat, by omega⟩
    have hs : s ≤ 65535 := by omega
    have hs' : (s : Int) ≤ 65535 := by omega
    have t1 : Tm (s + 65535) := tm_small (by omega)
    have t2 : Tm (0 + 65535) := tm_small (by omega)
    have hsk : skN (s : Int) = s := skN_nat (by omega)
    have H1 : ∀ W T, WQ W T 40 0 (List.replicate 40 0) → Calls Try.prog 20 #[.pointer (some ⟨T.B, 0, none⟩), .int .i64 (s : Nat)] W fun e w' => ∃ v wh, e = .returned v ∧ WQ w' T 40 s wh ∧ (∀ t, wt wh t = afM 65535 s xs 0 t) ∧ But T.S W w' := fun W T hW => by
      refine (skip_any hW s (tm_small (by omega))).mono ?_
      rintro e w' ⟨v, rfl, _, hq, hb⟩
      rw [hsk, Nat.zero_add] at hq
      refine ⟨v, _, rfl, hq, fun t => ?_, hb⟩
      rw [wt_skS s 0 _ (fun t ht => absurd (wt_repl 40 t) ht) t, wt_repl]
      have ha : afM 65535 s xs 0 t = 0 := by unfold afM; rw [if_neg (by omega)]
      rw [ha]
      split <;> rfl
    clear hst hsk
    go_enter Try.func4, Try.ntmps4
    go_wp2_with (first
      | (go_at_call 9; refine (wnew_some 40 (by decide) (by decide) _).mono ?_; rintro e w1 ⟨T, rfl, h1, hk, b1⟩)
      | (go_at_call 20; refine (H1 _ T h1).mono ?_; rintro e w2 ⟨v2, wh0, rfl, h2, hw0, b2⟩))
    have hB2 := b1.trans (b2.below b1.size hk)
    clear h1 b1 b2 H1
    go_loopw [6, 32] (fun p q wr => ∃ (j : Nat) (mz : Int) (wh : List Nat), j ≤ xs.length ∧ 0 ≤ mz ∧ mz ≤ 65535 ∧ (∀ t, t < j → ((1 + xs.getD t 0 % 65535 : Nat) : Int) ≤ mz) ∧ p = .int .i64 mz ∧ q = .int .i64 j ∧ WQ wr T 40 s wh ∧ (∀ t, wt wh t = afM 65535 s xs j t) ∧ Below w.heap.size w wr) (fun _ q _ => 40 - (intOf q).toNat)
    case atStart => exact ⟨0, 0, wh0, by omega, by omega, by omega, fun t ht => by omega, rfl, rfl, h2, hw0, hB2⟩
    case round =>
      clear h2 hw0 hB2
      obtain ⟨j, mz, wh, hj, hmz0, hmz, hmm, rfl, rfl, hQ, hw, hB⟩ := hrel
      by_cases hjl : j < xs.length
      · have hxj : xs[j]? = some (xs.getD j 0) := by rw [List.getD_eq_getElem?_getD, List.getElem?_eq_getElem hjl]; rfl
        obtain ⟨b, o, rfl, cx⟩ := (hx.below hB) j _ hxj
        have hbx := hb _ (List.mem_of_getElem? hxj)
        have hA := add_good hQ t1 j (1 + xs.getD j 0 % 65535) (by omega) (by omega) (by omega) (afM_zero hw)
        have hw1 := afM_set hQ.len (show j < 40 by omega) hw
        have em : Int.tmod ((xs.getD j 0 : Nat) : Int) 65535 = ((xs.getD j 0 % 65535 : Nat) : Int) := by rw [Int.tmod_eq_emod_of_nonneg (by omega)]; omega
        have hm3 : ((xs.getD j 0 % 65535 : Nat) : Int) < 65535 := by omega
        have hm0 : (0 : Int) ≤ ((xs.getD j 0 % 65535 : Nat) : Int) := by omega
        have hj3 : (j : Int) < (xs.length : Int) := by omega
        have hj0 : (0 : Int) ≤ (j : Int) := by omega
        have hmm1 : ∀ mz' : Int, mz ≤ mz' → 1 + ((xs.getD j 0 % 65535 : Nat) : Int) ≤ mz' → ∀ t, t < j + 1 → ((1 + xs.getD t 0 % 65535 : Nat) : Int) ≤ mz' := fun mz' h1 h2 t ht => by
          by_cases e : t = j
          · subst e; omega
          · exact Int.le_trans (hmm t (by omega)) h1
        rw [Int.natCast_add, Int.natCast_one] at hA
        generalize wh.set j (s + (1 + xs.getD j 0 % 65535)) = wh1 at *
        generalize ((xs.getD j 0 % 65535 : Nat) : Int) = m at *
        generalize xs.getD j 0 = x at *
        clear hxj hw hQ hmm
        by_cases hgt : mz < 1 + m
        · go_wp2_with (first
            | (go_at_call 21; refine hA.mono ?_; rintro e w2 ⟨rfl, h2, b2⟩))
          go_roundw
          case rel => exact ⟨j + 1, 1 + m, wh1, by omega, by omega, by omega, hmm1 _ (by omega) (Int.le_refl _), by simp, by simp, h2, hw1, hB.trans (b2.below hB.size hk)⟩
          case measure =>
            simp [intOf]
            omega
        · have hgt' : 1 + m ≤ mz := by omega
          clear hgt
          go_wp2_with (first
            | (go_at_call 21; refine hA.mono ?_; rintro e w2 ⟨rfl, h2, b2⟩))
          go_roundw
          case rel => exact ⟨j + 1, mz, wh1, by omega, hmz0, hmz, hmm1 _ (Int.le_refl _) hgt', by simp, by simp, h2, hw1, hB.trans (b2.below hB.size hk)⟩
          case measure =>
            simp [intOf]
            omega
      · obtain rfl : j = xs.length := by omega
        obtain ⟨mx, rfl⟩ : ∃ mx : Nat, mz = mx := ⟨mz.toNat, by omega⟩
        have hmx : mx ≤ 65535 := by omega
        obtain ⟨hsum, H2, hLl, HLn, HNo⟩ := wakes_skip hQ hs hmx hw (fun t ht => by have := hmm t ht; omega)
        generalize skW mx s wh = L at *
        generalize skS mx s wh = whs at *
        clear hmm hw hQ
        go_wp2_with (first
          | (go_at_call 20; refine H2.mono ?_; rintro e w3 ⟨v3, rfl, r3, h3, b3⟩; obtain ⟨va, vc, rfl⟩ := r3.shape))
        clear H2
        go_loopw [10, 55] (fun p q wr' => ∃ (i : Nat) (c : Int), i ≤ L.length ∧ 0 ≤ c ∧ c + ((((L.drop i).map List.length).sum : Nat) : Int) = (xs.length : Int) ∧ p = .int .i64 c ∧ q = .int .i64 i ∧ wr' = w3) (fun _ q _ => 65535 - (intOf q).toNat)
        case atStart => exact ⟨0, 0, by omega, by omega, by rw [List.drop_zero, hsum]; omega, rfl, rfl, rfl⟩
        case round =>
          clear hsum
          obtain ⟨i, c, hi, hc0, hc, rfl, rfl, rfl⟩ := hrel
          by_cases hil : i < L.length
          · have hLi : L[i]? = some L[i] := by simp
            obtain ⟨g, c', ua, uc, e, cg, hI⟩ := r3.get hLi
            simp only [Value.slice.injEq] at e
            obtain ⟨rfl, -, rfl⟩ := e
            rw [sum_drop hil] at hc
            have hH : Hid (c + ((L[i].length : Nat) : Int) + ((((L.drop (i + 1)).map List.length).sum : Nat) : Int) = (xs.length : Int)) := by
              show c + ((L[i].length : Nat) : Int) + ((((L.drop (i + 1)).map List.length).sum : Nat) : Int) = (xs.length : Int)
              omega
            have hc1 : c ≤ 40 := by omega
            have hy : ((L[i].length : Nat) : Int) ≤ 40 := by omega
            have hy0 : (0 : Int) ≤ ((L[i].length : Nat) : Int) := by omega
            clear hI hLi hc
            generalize hyy : ((L[i].length : Nat) : Int) = y at *
            have hi3 : (i : Int) < (L.length : Int) := by omega
            have hi0 : (0 : Int) ≤ (i : Int) := by omega
            clear HLn HNo
            go_wp2_with fail
            clear hyy
            go_roundw
            case rel => exact ⟨i + 1, c + y, by omega, by omega, hH.out, rfl, by simp, trivial⟩
            case measure =>
              simp [intOf]
              omega
          · obtain rfl : i = L.length := by omega
            have hce : c = (xs.length : Int) := by rw [List.drop_length] at hc; simp at hc; exact hc
            subst hce
            clear hc hc0
            go_wp2_with (first
              | (go_at_call 13; refine (HLn _ h3).mono ?_; rintro e w4 ⟨rfl, b4⟩)
              | (go_at_call 12; refine (HNo _ (h3.below b4)).mono ?_; rintro e w' ⟨rfl, hw⟩; subst w')
              | (go_at_call 9; refine (wnew_some 40 (by decide) (by decide) _).mono ?_; rintro e w5 ⟨T2, rfl, h5, hk5, b5⟩))
            have hB3 := hB.trans (b3.below hB.size hk)
            have hB4 := hB3.trans (b4.mono hB3.size)
            have hB5 := hB4.trans (b5.mono hB4.size)
            have hw5 : ∀ t, wt (List.replicate 40 0) t = afM 200 0 xs 0 t := fun t => by
              rw [wt_repl]
              unfold afM
              rw [if_neg (by omega)]
            have hk5' : ∀ k ∈ T2.S, w.heap.size ≤ k := fun k hk' => Nat.le_trans hB4.size (hk5 k hk')
            clear HLn HNo h3 b3 b4 b5 hB3 hB4 hB r3 hk5
            generalize List.replicate 40 0 = wh5 at *
            go_loopw [85] (fun p wr' => ∃ (j : Nat) (wh : List Nat), j ≤ xs.length ∧ p = .int .i64 j ∧ WQ wr' T2 40 0 wh ∧ (∀ t, wt wh t = afM 200 0 xs j t) ∧ Below w.heap.size w wr') (fun p _ => 40 - (intOf p).toNat)
            case atStart => exact ⟨0, wh5, by omega, rfl, h5, hw5, hB5⟩
            case round =>
              clear h5 hw5 hB5
              obtain ⟨j, wh, hj, rfl, hQ, hw, hB⟩ := hrel
              by_cases hjl : j < xs.length
              · have hxj : xs[j]? = some (xs.getD j 0) := by rw [List.getD_eq_getElem?_getD, List.getElem?_eq_getElem hjl]; rfl
                obtain ⟨b, o, rfl, cx⟩ := (hx.below hB) j _ hxj
                have hbx := hb _ (List.mem_of_getElem? hxj)
                have hA := add_good hQ t2 j (1 + xs.getD j 0 % 200) (by omega) (by omega) (by omega) (afM_zero hw)
                have hw1 := afM_set hQ.len (show j < 40 by omega) hw
                have em : Int.tmod ((xs.getD j 0 : Nat) : Int) 200 = ((xs.getD j 0 % 200 : Nat) : Int) := by rw [Int.tmod_eq_emod_of_nonneg (by omega)]; omega
                have hm3 : ((xs.getD j 0 % 200 : Nat) : Int) < 200 := by omega
                have hm0 : (0 : Int) ≤ ((xs.getD j 0 % 200 : Nat) : Int) := by omega
                have hj3 : (j : Int) < (xs.length : Int) := by omega
                have hj0 : (0 : Int) ≤ (j : Int) := by omega
                rw [Int.natCast_add, Int.natCast_one] at hA
                generalize wh.set j (0 + (1 + xs.getD j 0 % 200)) = wh1 at *
                generalize ((xs.getD j 0 % 200 : Nat) : Int) = m at *
                generalize xs.getD j 0 = x at *
                clear hxj hw hQ
                go_wp2_with (first
                  | (go_at_call 21; refine hA.mono ?_; rintro e w2 ⟨rfl, h2, b2⟩))
                go_roundw
                case rel => exact ⟨j + 1, wh1, by omega, by simp, h2, hw1, hB.trans (b2.below hB.size hk5')⟩
                case measure =>
                  simp [intOf]
                  omega
              · obtain rfl : j = xs.length := by omega
                go_wp2_with fail
                go_loopw [16] (fun p wr' => ∃ (u : Nat) (wu : List Nat), u ≤ 200 ∧ p = .int .i64 ((u + 1 : Nat) : Int) ∧ WQ wr' T2 40 u wu ∧ (∀ t, wt wu t = if afM 200 0 xs xs.length t ≤ u then 0 else afM 200 0 xs xs.length t) ∧ Below w.heap.size w wr') (fun p _ => 202 - (intOf p).toNat)
                case atStart =>
                  refine ⟨0, wh, by omega, rfl, hQ, fun t => ?_, hB⟩
                  rw [hw t]
                  split
                  · omega
                  · rfl
                case round =>
                  clear hQ hw hB
                  obtain ⟨u, wu, hu, rfl, hQ, hw, hB⟩ := hrel
                  by_cases hul : u < 200
                  · have HT := tick_any hQ (tm_small (by omega))
                    have hwk : ∀ i ∈ wakeL (u + 1) wu, i < xs.length ∧ 1 + xs.getD i 0 % 200 = u + 1 := fun i hi => by
                      have h1 := (mem_wakeL (by omega)).1 hi
                      rw [hw i] at h1
                      split at h1
                      · omega
                      · unfold afM at h1
                        split at h1 <;> omega
                    have hw' : ∀ t, wt (wakeS (u + 1) wu) t = if afM 200 0 xs xs.length t ≤ u + 1 then 0 else afM 200 0 xs xs.length t := fun t => by
                      rw [wt_wakeS, hw t]
                      generalize afM 200 0 xs xs.length t = y
                      by_cases h1 : y ≤ u
                      · rw [if_pos h1, if_pos (show y ≤ u + 1 by omega)]
                        split <;> rfl
                      · rw [if_neg h1]
                        by_cases h2 : y = u + 1
                        · rw [if_pos h2, if_pos (by omega)]
                        · rw [if_neg h2, if_neg (by omega)]
                    have hwl : (wakeL (u + 1) wu).length ≤ 4096 := by
                      have h1 := List.length_filter_le (fun t => wt wu t == u + 1) (List.range wu.length)
                      rw [List.length_range, hQ.len] at h1
                      unfold wakeL
                      rw [hQ.len] at *
                      omega
                    generalize wakeL (u + 1) wu = wk at *
                    generalize wakeS (u + 1) wu = wu' at *
                    clear hw hQ
                    have htz : ((u + 1 : Nat) : Int) ≤ 200 := by omega
                    have htz1 : (1 : Int) ≤ ((u + 1 : Nat) : Int) := by omega
                    have hH : Hid (((u + 1 : Nat) : Int) + 1 = ((u + 1 + 1 : Nat) : Int)) := by show ((u + 1 : Nat) : Int) + 1 = ((u + 1 + 1 : Nat) : Int); omega
                    have hval : ∀ i ∈ wk, 1 + ((xs.getD i 0 % 200 : Nat) : Int) = ((u + 1 : Nat) : Int) := fun i hi => by have := (hwk i hi).2; omega
                    generalize ((u + 1 : Nat) : Int) = tz at *
                    go_wp2_with (first
                      | (go_at_call 22; refine HT.mono ?_; rintro e w6 ⟨v6, rfl, r6, h6, b6⟩; obtain ⟨a6, c6, rfl, i6⟩ := r6.open'; rw [ints_len]))
                    clear HT
                    have hB6 := hB.trans (b6.below hB.size hk5')
                    go_loopw [105] (fun p wr' => ∃ k : Nat, k ≤ wk.length ∧ p = .int .i64 k ∧ wr' = w6) (fun p _ => 4096 - (intOf p).toNat)
                    case atStart => exact ⟨0, by omega, rfl, rfl⟩
                    case round =>
                      obtain ⟨k, hk', rfl, rfl⟩ := hrel
                      by_cases hkl : k < wk.length
                      · obtain ⟨g2, rfl, c2⟩ := i6 k (wk[k] : Nat) (by rw [ints, List.getElem?_map, List.getElem?_eq_getElem hkl]; rfl)
                        obtain ⟨hi1, -⟩ := hwk _ (List.getElem_mem hkl)
                        have hv := hval _ (List.getElem_mem hkl)
                        generalize wk[k] = i at *
                        have hxi : xs[i]? = some (xs.getD i 0) := by rw [List.getD_eq_getElem?_getD, List.getElem?_eq_getElem hi1]; rfl
                        obtain ⟨b, o, rfl, cx⟩ := (hx.below hB6) i _ hxi
                        have hbx := hb _ (List.mem_of_getElem? hxi)
                        have em : Int.tmod ((xs.getD i 0 : Nat) : Int) 200 = ((xs.getD i 0 % 200 : Nat) : Int) := by rw [Int.tmod_eq_emod_of_nonneg (by omega)]; omega
                        have hm3 : ((xs.getD i 0 % 200 : Nat) : Int) < 200 := by omega
                        have hm0 : (0 : Int) ≤ ((xs.getD i 0 % 200 : Nat) : Int) := by omega
                        generalize ((xs.getD i 0 % 200 : Nat) : Int) = m at *
                        generalize xs.getD i 0 = x at *
                        have hi3 : (i : Int) < (xs.length : Int) := by omega
                        have hi0 : (0 : Int) ≤ (i : Int) := by omega
                        have hk3 : (k : Int) < (wk.length : Int) := by omega
                        have hk0 : (0 : Int) ≤ (k : Int) := by omega
                        clear hval hwk i6 hxi
                        go_wp2_with fail
                        go_roundw
                        case rel => exact ⟨k + 1, by omega, by simp, trivial⟩
                        case measure =>
                          simp [intOf]
                          omega
                      · obtain rfl : k = wk.length := by omega
                        go_wp2_with fail
                        go_roundw
                        case rel => exact ⟨u + 1, wu', by omega, by rw [hH.out], h6, hw', hB6⟩
                        case measure =>
                          simp [intOf]
                          omega
                  · obtain rfl : u = 200 := by omega
                    have hz : ∀ t, wt wu t = 0 := fun t => by
                      rw [hw t]
                      have : afM 200 0 xs xs.length t ≤ 200 := by unfold afM; split <;> omega
                      rw [if_pos this]
                    have HLn := wlen_any hQ (tm_small (by omega))
                    rw [waitL_nil hz] at HLn
                    change Calls Try.prog 13 _ _ (fun e w' => e = .returned (.int .i64 0) ∧ _) at HLn
                    clear hw hz
                    go_wp2_with (first
                      | (go_at_call 13; refine HLn.mono ?_; rintro e w7 ⟨rfl, b7⟩)
                      | (go_at_call 8; refine (lives_any _).mono ?_; rintro e w8 ⟨rfl, b8⟩))
                    go_ret
                    have s7 := hB.trans (b7.mono hB.size)
                    exact ⟨rfl, s7.trans (b8.mono s7.size)⟩
end Go.Proofs.Ytmjjghhlalaeiaa
