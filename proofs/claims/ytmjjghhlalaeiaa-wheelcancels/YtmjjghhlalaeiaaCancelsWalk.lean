/- The walk of WheelCancels. -/
import Derived.Test.YtmjjghhlalaeiaaSkipM
import Derived.Test.YtmjjghhlalaeiaaOpens
namespace Go.Proofs.Ytmjjghhlalaeiaa
open Go.RowKit

/-- For how long each waits: one more than its number's rest by m; the first j alone. -/
def afN (m : Nat) (xs : List Nat) (j t : Nat) : Nat := if t < j then 1 + xs.getD t 0 % m else 0
theorem afN_set {m : Nat} {xs wh : List Nat} {n j N : Nat} (hn : n = 0) (hl : wh.length = N) (hj : j < N) (h : ∀ t, wt wh t = afN m xs j t) : ∀ t, wt (wh.set j (n + (1 + xs.getD j 0 % m))) t = afN m xs (j + 1) t := by
  subst hn
  intro t
  unfold afN
  by_cases e : j = t
  · subst e
    rw [wt_set_self _ (by omega), if_pos (by omega)]
    omega
  · rw [wt_set_ne _ e, h t]
    unfold afN
    by_cases h1 : t < j
    · rw [if_pos h1, if_pos (by omega)]
    · rw [if_neg h1, if_neg (by omega)]

theorem ints_one (w : World) (x : Int) : IntsR (w.alloc (.cells #[.int .i64 x] 3)) (some ⟨w.heap.size, 0, none⟩) [x] := by
  intro j z hz
  refine ⟨_, rfl, ?_⟩
  match j, hz with
  | 0, hz => simp at hz; subst hz; simp [go_sem]
  | j + 1, hz => simp at hz

theorem wakeL_one {n c : Nat} {wh : List Nat} (hn : n ≠ 0) (h : ∀ t, wt wh t = n ↔ t = c) : wakeL n wh = [c] := by
  have h1 : (wakeL n wh).Perm [c] := (List.perm_ext_iff_of_nodup (wakeL_nodup _ _) (by simp)).2 (fun t => by rw [mem_wakeL hn, h t]; simp)
  exact List.perm_singleton.1 h1

set_option maxRecDepth 100000 in
set_option maxHeartbeats 4000000 in
theorem cancels_any (sp : Option Addr) (cp : Nat) (xs : List Nat) (z : Int) (w : World) (hx : Wide16 w sp xs) (hb : ∀ x ∈ xs, x < 65536) (hz : 0 ≤ z ∧ z ≤ 255) :
    Calls Try.prog 6 #[.slice sp xs.length cp, .int .u8 z] w fun e w' => e = .returned (.bool true) ∧ Below w.heap.size w w' := by
  by_cases h0 : xs.length = 0 ∨ 20 < xs.length
  · by_cases h1 : xs.length = 0
    · rw [h1]
      go_enter Try.func6, Try.ntmps6
      go_wp2_with (first
        | (go_at_call 8; refine (lives_any _).mono ?_; rintro e w' ⟨rfl, hb⟩))
      go_ret
      exact ⟨rfl, hb⟩
    · have h2 : (20 : Int) < (xs.length : Int) := by omega
      have h3 : ((xs.length : Int) == 0) = false := by
        have : (xs.length : Int) ≠ 0 := by omega
        simpa using this
      clear hx hb h0
      go_enter Try.func6, Try.ntmps6
      go_wp2_with (first
        | (go_at_call 8; refine (lives_any _).mono ?_; rintro e w' ⟨rfl, hb⟩))
      go_ret
      exact ⟨rfl, hb⟩
  · have hl1 : 1 ≤ xs.length := by omega
    have hl2 : xs.length ≤ 20 := by omega
    clear h0
    have hl1' : (1 : Int) ≤ (xs.length : Int) := by omega
    have hl2' : (xs.length : Int) ≤ 20 := by omega
    have t0 : Tm (0 + 65535) := tm_small (by omega)
    obtain ⟨zn, rfl⟩ : ∃ zn : Nat, z = zn := ⟨z.toNat, by omega⟩
    obtain ⟨c, hc, hcl⟩ : ∃ c : Nat, Int.tmod (zn : Int) (xs.length : Int) = (c : Int) ∧ c < xs.length := by
      refine ⟨zn % xs.length, ?_, Nat.mod_lt _ (by omega)⟩
      rw [Int.tmod_eq_emod_of_nonneg (by omega)]
      omega
    have hz' : (zn : Int) ≤ 255 := hz.2
    have hn0 : ((xs.length : Int) == 0) = false := by
      have : (xs.length : Int) ≠ 0 := by omega
      simpa using this
    clear hz
    go_enter Try.func6, Try.ntmps6
    go_wp2_with (first
      | (go_at_call 9; refine (wnew_some 20 (by decide) (by decide) _).mono ?_; rintro e w1 ⟨T, rfl, h1, hk, b1⟩))
    have hw0 : ∀ t, wt (List.replicate 20 0) t = afN 3000 xs 0 t := fun t => by
      unfold afN wt
      rw [if_neg (by omega), List.getD_eq_getElem?_getD, List.getElem?_replicate]
      split <;> rfl
    have hx1 : Wide16 w1 sp xs := hx.below b1
    generalize List.replicate 20 0 = wh0 at *
    go_loopw [27] (fun p wr => ∃ (j : Nat) (wh : List Nat), j ≤ xs.length ∧ p = .int .i64 j ∧ WQ wr T 20 0 wh ∧ (∀ t, wt wh t = afN 3000 xs j t) ∧ Below w.heap.size w wr) (fun p _ => 20 - (intOf p).toNat)
    case atStart => exact ⟨0, wh0, by omega, rfl, h1, hw0, b1⟩
    case round =>
      clear h1 hw0 b1 hx1
      obtain ⟨j, wh, hj, rfl, hQ, hw, hB⟩ := hrel
      by_cases hjl : j < xs.length
      · have hxj : xs[j]? = some (xs.getD j 0) := by rw [List.getD_eq_getElem?_getD, List.getElem?_eq_getElem hjl]; rfl
        obtain ⟨b, o, rfl, cx⟩ := (hx.below hB) j _ hxj
        have hbx := hb _ (List.mem_of_getElem? hxj)
        have hA := add_any hQ t0 j ((1 + xs.getD j 0 % 3000 : Nat) : Int)
        have e0 : addE 20 wh j ((1 + xs.getD j 0 % 3000 : Nat) : Int) = 0 := by
          unfold addE
          have : wt wh j = 0 := by rw [hw j]; unfold afN; rw [if_neg (by omega)]
          rw [inN_of (show j < 20 by omega), Int.toNat_natCast, this]
          have e : inN 65535 (((1 + xs.getD j 0 % 3000 : Nat) : Int) - 1) = true := by unfold inN; simp; omega
          rw [e]
          simp
        have e1 : addS 20 0 wh j ((1 + xs.getD j 0 % 3000 : Nat) : Int) = wh.set j (0 + (1 + xs.getD j 0 % 3000)) := by unfold addS; rw [if_pos e0, Int.toNat_natCast, Int.toNat_natCast]
        rw [e0, e1] at hA
        have hw1 := afN_set (m := 3000) (n := 0) rfl hQ.len (show j < 20 by omega) hw
        have em : Int.tmod ((xs.getD j 0 : Nat) : Int) 3000 = ((xs.getD j 0 % 3000 : Nat) : Int) := by rw [Int.tmod_eq_emod_of_nonneg (by omega)]; omega
        have hm3 : ((xs.getD j 0 % 3000 : Nat) : Int) < 3000 := by omega
        have hm0 : (0 : Int) ≤ ((xs.getD j 0 % 3000 : Nat) : Int) := by omega
        rw [Int.natCast_add, Int.natCast_one] at hA
        generalize wh.set j (0 + (1 + xs.getD j 0 % 3000)) = wh1 at *
        generalize ((xs.getD j 0 % 3000 : Nat) : Int) = m at *
        generalize xs.getD j 0 = x at *
        have hj3 : (j : Int) < (xs.length : Int) := by omega
        have hj0 : (0 : Int) ≤ (j : Int) := by omega
        clear e0 e1 hxj hw hQ
        go_wp2_with (first
          | (go_at_call 21; refine hA.mono ?_; rintro e w2 ⟨rfl, h2, b2⟩))
        go_roundw
        case rel => exact ⟨j + 1, wh1, by omega, by simp, h2, hw1, hB.trans (b2.below hB.size hk)⟩
        case measure =>
          simp [intOf]
          omega
      · obtain rfl : j = xs.length := by omega
        have hc20 : c < 20 := by omega
        have hwl := hQ.len
        have hwc : wt wh c ≠ 0 := by rw [hw c]; unfold afN; rw [if_pos hcl]; omega
        have HC := cancel_any hQ c
        have e0 : canE 20 wh c = 0 := by unfold canE; rw [inN_of hc20, Int.toNat_natCast, if_pos rfl, if_neg hwc]
        have e1 : canS 20 wh c = wh.set c 0 := by unfold canS; rw [if_pos e0, Int.toNat_natCast]
        rw [e0, e1] at HC
        have hw2 : ∀ t, wt (wh.set c 0) t = if t = c then 0 else afN 3000 xs xs.length t := fun t => by
          by_cases e : c = t
          · subst e
            rw [wt_set_self _ (by omega), if_pos rfl]
          · rw [wt_set_ne _ e, if_neg (Ne.symm e), hw t]
        have hl2' : (wh.set c 0).length = 20 := by simpa using hwl
        have HC2 : ∀ W, WQ W T 20 0 (wh.set c 0) → Calls Try.prog 25 #[.pointer (some ⟨T.B, 0, none⟩), .int .i64 (c : Nat)] W fun e w' => e = .returned (.int .i64 4) ∧ WQ w' T 20 0 (wh.set c 0) ∧ But T.S W w' := fun W hW => by
          have := cancel_any hW c
          have f0 : canE 20 (wh.set c 0) c = 4 := by unfold canE; rw [inN_of hc20, Int.toNat_natCast, if_pos rfl, wt_set_self _ (by omega), if_pos rfl]
          have f1 : canS 20 (wh.set c 0) c = wh.set c 0 := by unfold canS; rw [f0, if_neg (by omega)]
          rwa [f0, f1] at this
        clear e0 e1 hwc
        generalize wh.set c 0 = wh2 at *
        have hafb : ∀ t, afN 3000 xs xs.length t ≤ 3000 := fun t => by unfold afN; split <;> omega
        have hlate : Late 0 wh2 := fun t ht => by omega
        have hsk : skN 3000 = 3000 := by decide
        have HS : ∀ W, WQ W T 20 0 wh2 → Calls Try.prog 20 #[.pointer (some ⟨T.B, 0, none⟩), .int .i64 3000] W fun e w' => ∃ v, e = .returned v ∧ RowLL w' W.heap.size v (skW 3000 0 wh2) ∧ WQ w' T 20 (0 + 3000) (skS 3000 0 wh2) ∧ But T.S W w' := fun W hW => by
          have := skip_any hW 3000 (tm_small (by omega))
          rwa [hsk] at this
        have hno : ∀ x ∈ skW 3000 0 wh2, c ∉ x := fun x hx hcx => by
          have := (mem_skW 3000 0 wh2 hlate x hx c hcx).1
          rw [hw2 c, if_pos rfl] at this
          exact this rfl
        have hLl := skW_len 3000 0 wh2
        have hxl := mem_skW_len (k := 3000) hlate hl2' (by omega)
        have hz0 : ∀ t, wt (skS 3000 0 wh2) t = 0 := fun t => by
          rw [wt_skS 3000 0 wh2 hlate t]
          have : wt wh2 t ≤ 3000 := by
            rw [hw2 t]
            split
            · omega
            · exact hafb t
          rw [if_pos (by omega)]
        have hsl : (skS 3000 0 wh2).length = 20 := by rw [skS_len]; exact hl2'
        have HLn : ∀ W, WQ W T 20 (0 + 3000) (skS 3000 0 wh2) → Calls Try.prog 13 #[.pointer (some ⟨T.B, 0, none⟩)] W fun e w' => e = .returned (.int .i64 0) ∧ Below W.heap.size W w' := fun W hW => by
          have := wlen_any hW (tm_small (by omega))
          rw [waitL_nil hz0] at this
          exact this
        have HA : ∀ W, WQ W T 20 (0 + 3000) (skS 3000 0 wh2) → Calls Try.prog 21 #[.pointer (some ⟨T.B, 0, none⟩), .int .i64 (c : Nat), .int .i64 1] W fun e w' => e = .returned (.int .i64 0) ∧ WQ w' T 20 (0 + 3000) ((skS 3000 0 wh2).set c (0 + 3000 + 1)) ∧ But T.S W w' := fun W hW => by
          have := add_any hW (tm_small (by omega)) c 1
          have f0 : addE 20 (skS 3000 0 wh2) c 1 = 0 := by unfold addE; rw [inN_of hc20, Int.toNat_natCast, hz0 c]; rfl
          have f1 : addS 20 (0 + 3000) (skS 3000 0 wh2) c 1 = (skS 3000 0 wh2).set c (0 + 3000 + 1) := by unfold addS; rw [if_pos f0, Int.toNat_natCast]; rfl
          rwa [f0, f1] at this
        have HT : ∀ W, WQ W T 20 (0 + 3000) ((skS 3000 0 wh2).set c (0 + 3000 + 1)) → Calls Try.prog 22 #[.pointer (some ⟨T.B, 0, none⟩)] W fun e w' => ∃ v, e = .returned v ∧ RowI w' W.heap.size v [(c : Int)] ∧ But T.S W w' := fun W hW => by
          refine (tick_any hW (tm_small (by omega))).mono ?_
          rintro e w' ⟨v, rfl, hr, _, hb⟩
          have f0 : wakeL (0 + 3000 + 1) ((skS 3000 0 wh2).set c (0 + 3000 + 1)) = [c] := wakeL_one (by omega) (fun t => by
            by_cases e : c = t
            · subst e
              rw [wt_set_self _ (by omega)]
              simp
            · rw [wt_set_ne _ e, hz0 t]
              constructor
              · intro e; omega
              · intro e'; exact absurd e'.symm e)
          rw [f0] at hr
          exact ⟨v, rfl, hr, hb⟩
        clear hw2 hz0 hsl hafb hlate hsk hl2' hw hwl
        generalize skS 3000 0 wh2 = whs at *
        generalize (whs.set c (0 + 3000 + 1)) = wh4 at *
        generalize skW 3000 0 wh2 = L at *
        have hcl' : (c : Int) < (xs.length : Int) := by omega
        go_wp2_with (first
          | (go_at_call 25; (with_reducible refine HC.mono ?_); rintro e w2 ⟨rfl, h2, b2⟩; clear HC hQ)
          | (go_at_call 25; (with_reducible refine (HC2 _ h2).mono ?_); rintro e w3 ⟨rfl, h3, b3⟩; clear h2)
          | (go_at_call 20; refine (HS _ h3).mono ?_; rintro e w4 ⟨v4, rfl, r4, h4, b4⟩; obtain ⟨va, vc, rfl⟩ := r4.shape))
        go_loopw [58] (fun p wr' => ∃ i : Nat, i ≤ L.length ∧ p = .int .i64 i ∧ wr' = w4) (fun p _ => 3000 - (intOf p).toNat)
        case atStart => exact ⟨0, by omega, rfl, rfl⟩
        case round =>
          obtain ⟨i, hi, rfl, rfl⟩ := hrel
          by_cases hil : i < L.length
          · have hLi : L[i]? = some L[i] := by simp
            obtain ⟨g, c', ua, uc, e, cg, hI⟩ := r4.get hLi
            simp only [Value.slice.injEq] at e
            obtain ⟨rfl, -, rfl⟩ := e
            have hnc := hno _ (List.getElem_mem hil)
            have hxi := hxl _ (List.getElem_mem hil)
            generalize L[i] = x at *
            have hi3 : (i : Int) < (L.length : Int) := by omega
            have hi0 : (0 : Int) ≤ (i : Int) := by omega
            clear hLi
            go_wp2_with fail
            go_loopw [64] (fun p wr' => ∃ k : Nat, k ≤ x.length ∧ p = .int .i64 k ∧ wr' = wr) (fun p _ => 4096 - (intOf p).toNat)
            case atStart => exact ⟨0, by omega, rfl, rfl⟩
            case round =>
              obtain ⟨k, hk', rfl, rfl⟩ := hrel
              by_cases hkl : k < x.length
              · obtain ⟨g2, rfl, c2⟩ := hI k (x[k] : Nat) (by rw [ints, List.getElem?_map, List.getElem?_eq_getElem hkl]; rfl)
                have hne : x[k] ≠ c := fun e => hnc (e ▸ List.getElem_mem hkl)
                have hne' : ((x[k] : Nat) : Int) ≠ (c : Int) := by omega
                have hneb : (((x[k] : Nat) : Int) == (c : Int)) = false := by simpa using hne'
                generalize x[k] = y at *
                have hk3 : (k : Int) < (x.length : Int) := by omega
                have hk0 : (0 : Int) ≤ (k : Int) := by omega
                go_wp2_with fail
                go_roundw
                case rel => exact ⟨k + 1, by omega, by simp, trivial⟩
                case measure =>
                  simp [intOf]
                  omega
              · obtain rfl : k = x.length := by omega
                go_wp2_with fail
                go_roundw
                case rel => exact ⟨i + 1, by omega, by simp, trivial⟩
                case measure =>
                  simp [intOf]
                  omega
          · obtain rfl : i = L.length := by omega
            go_wp2_with (first
              | (go_at_call 13; refine (HLn _ h4).mono ?_; rintro e w5 ⟨rfl, b5⟩)
              | (go_at_call 21; refine (HA _ (h4.below b5)).mono ?_; rintro e w6 ⟨rfl, h6, b6⟩)
              | (go_at_call 22; refine (HT _ h6).mono ?_; rintro e w7 ⟨v7, rfl, r7, b7⟩; obtain ⟨a7, c7, rfl, i7⟩ := r7.open')
              | (go_at_call 18; refine (ints_any a7 (some ⟨w7.heap.size, 0, none⟩) c7 1 [(c : Int)] _ (by simp) (i7.below ((Below.refl _ _).alloc (Nat.le_refl _) _)) (ints_one w7 c)).mono ?_; rintro e w8 ⟨rfl, b8⟩)
              | (go_at_call 8; refine (lives_any _).mono ?_; rintro e w9 ⟨rfl, b9⟩))
            go_ret
            refine ⟨rfl, ?_⟩
            have s4 := hB.trans (((b2.trans b3).trans b4).below hB.size hk)
            have s5 := s4.trans (b5.mono s4.size)
            have s7 := s5.trans ((b6.trans b7).below s5.size hk)
            have s8 := s7.alloc s7.size (.cells #[.int .i64 (c : Int)] 3)
            have s9 := s8.trans (b8.mono s8.size)
            exact s9.trans (b9.mono s9.size)
end Go.Proofs.Ytmjjghhlalaeiaa
