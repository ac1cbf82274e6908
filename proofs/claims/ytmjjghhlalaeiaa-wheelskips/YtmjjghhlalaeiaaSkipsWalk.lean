/- The walk of WheelSkips. -/
import Derived.Test.YtmjjghhlalaeiaaAct
import Derived.Test.YtmjjghhlalaeiaaWcopy
import Derived.Test.YtmjjghhlalaeiaaWallQ
import Derived.Test.YtmjjghhlalaeiaaOpens
namespace Go.Proofs.Ytmjjghhlalaeiaa
open Go.RowKit

theorem but_two {T : Wp} {P : Rp} {a b : World} {m : Nat} (h : But (twoS T P) a b) (hm : m ≤ a.heap.size) (h1 : ∀ k ∈ T.S, m ≤ k) (h2 : ∀ k ∈ P.S, m ≤ k) : Below m a b :=
  h.below hm (fun x hx => (List.mem_append.1 hx).elim (h1 x) (h2 x))

theorem skN_small {k : Nat} (h : k ≤ 100000) : skN (k : Int) = k := by
  unfold skN
  rw [if_neg (by omega)]
  simp

set_option maxRecDepth 100000 in
set_option maxHeartbeats 8000000 in
theorem skips_any (sp : Option Addr) (cp : Nat) (xs : List (Int × Int × Int)) (kn : Int) (w : World) (hx : Acts w sp xs) (hkn : 0 ≤ kn ∧ kn ≤ 65535) :
    Calls Try.prog 5 #[.slice sp xs.length cp, .int .u16 kn] w fun e w' => e = .returned (.bool true) ∧ Below w.heap.size w w' := by
  by_cases h0 : 40 < xs.length
  · have h2 : (40 : Int) < (xs.length : Int) := by omega
    clear hx h0
    go_enter Try.func5, Try.ntmps5
    go_wp2_with (first
      | (go_at_call 8; refine (lives_any _).mono ?_; rintro e w' ⟨rfl, hb⟩))
    go_ret
    exact ⟨rfl, hb⟩
  · have hl2 : xs.length ≤ 40 := by omega
    have hl2' : (xs.length : Int) ≤ 40 := by omega
    obtain ⟨kk, rfl⟩ : ∃ kk : Nat, kn = kk := ⟨kn.toNat, by omega⟩
    have hkk : (kk : Int) ≤ 65535 := hkn.2
    clear h0 hkn
    go_enter Try.func5, Try.ntmps5
    go_wp2_with (first
      | (go_at_call 9; refine (wnew_some 10 (by decide) (by decide) _).mono ?_; rintro e w1 ⟨T, rfl, h1, hk1, b1⟩)
      | (go_at_call 10; refine (rnew_some 10 (by decide) (by decide) _).mono ?_; rintro e w2 ⟨P, rfl, h2, hk2, b2⟩))
    have hPr : Pr w2 T P 10 0 (List.replicate 10 0) := ⟨h1.below b2, h2, fun x hx e => by have := h1.lt hx; have := hk2 x e; omega⟩
    have hB2 := b1.trans (b2.mono b1.size)
    have hk2' : ∀ k ∈ P.S, w.heap.size ≤ k := fun k hk => Nat.le_trans b1.size (hk2 k hk)
    clear h1 h2 b1 b2 hk2
    generalize List.replicate 10 0 = wh0 at *
    go_loopw [25] (fun p wr => ∃ (j m : Nat) (wh : List Nat), j ≤ xs.length ∧ p = .int .i64 j ∧ Pr wr T P 10 m wh ∧ m ≤ j * 100000 ∧ Below w.heap.size w wr) (fun p _ => 40 - (intOf p).toNat)
    case atStart => exact ⟨0, 0, wh0, by omega, rfl, hPr, by omega, hB2⟩
    case round =>
      clear hPr hB2
      obtain ⟨j, m, wh, hj, rfl, hPr, hmj, hB⟩ := hrel
      by_cases hjl : j < xs.length
      · obtain ⟨b, o, rfl, c0, c1, c2⟩ := (hx.below hB) j xs[j] (by simp)
        generalize xs[j] = aa at c0 c1 c2
        obtain ⟨ka, la, ta⟩ := aa
        dsimp only at c0 c1 c2
        have hba : Below wr.heap.size wr (wr.alloc (.cells #[.int .i64 ka, .int .i64 la, .int .i64 ta] 29)) := (Below.refl _ wr).alloc (Nat.le_refl _) _
        have HA := act_any (hPr.below hba) (by omega) ka la ta
        have hj3 : (j : Int) < (xs.length : Int) := by omega
        have hj0 : (0 : Int) ≤ (j : Int) := by omega
        have HB : Hid (Below w.heap.size w (wr.alloc (.cells #[.int .i64 ka, .int .i64 la, .int .i64 ta] 29))) := hB.alloc hB.size _
        clear hPr hba
        go_wp2_with (first
          | (go_at_call 11; refine HA.mono ?_; rintro e w3 ⟨rfl, ⟨m', wh', hPr', hm'⟩, b3⟩))
        go_roundw
        case rel => exact ⟨j + 1, m', wh', by omega, by simp, hPr', by omega, HB.out.trans (but_two b3 HB.out.size hk1 hk2')⟩
        case measure =>
          simp [intOf]
          omega
      · obtain rfl : j = xs.length := by omega
        have hq := hPr.q
        have hm4 : m ≤ 4000000 := by omega
        have em : Int.tmod (kk : Int) 2000 = ((kk % 2000 : Nat) : Int) := by rw [Int.tmod_eq_emod_of_nonneg (by omega)]; omega
        have hkb : ((kk % 2000 : Nat) : Int) < 2000 := by omega
        have hk0 : (0 : Int) ≤ ((kk % 2000 : Nat) : Int) := by omega
        have hkl : kk % 2000 < 2000 := by omega
        have hsk : skN ((kk % 2000 : Nat) : Int) = kk % 2000 := skN_small (by omega)
        have HC := wcopy_any hq
        have HS : ∀ W, WQ W T 10 m wh → Calls Try.prog 20 #[.pointer (some ⟨T.B, 0, none⟩), .int .i64 ((kk % 2000 : Nat) : Int)] W fun e w' => ∃ v, e = .returned v ∧ RowLL w' W.heap.size v (skW (kk % 2000) m wh) ∧ WQ w' T 10 (m + kk % 2000) (skS (kk % 2000) m wh) ∧ But T.S W w' := fun W hW => by
          have := skip_any hW ((kk % 2000 : Nat) : Int) (tm_small (by omega))
          rwa [hsk] at this
        have hLen := hq.len
        have hLate : Late m wh := hq.2
        clear hPr hsk hmj
        generalize kk % 2000 = k at *
        go_wp2_with (first
          | (go_at_call 23; refine HC.mono ?_; rintro e w3 ⟨T2, rfl, q3, hk3, b3⟩)
          | (go_at_call 20; refine (HS _ (hq.below b3)).mono ?_; rintro e w4 ⟨v4, rfl, r4, q4, b4⟩))
        have hd : ∀ x ∈ T.S, x ∉ T2.S := fun x hx e => by have := hq.lt hx; have := hk3 x e; omega
        have q3' : WQ w4 T2 10 m wh := q3.but b4 (fun k hk e => hd k e hk)
        have hB3 := hB.trans (b3.mono hB.size)
        have hB4 := hB3.trans (b4.below hB3.size hk1)
        have hlt2 : ∀ x ∈ T2.S, x < w3.heap.size := fun x hx => q3.lt hx
        have hs4 : w3.heap.size ≤ w4.heap.size := b4.size
        have hk3' : ∀ x ∈ T2.S, w.heap.size ≤ x := fun x hx => Nat.le_trans hB.size (hk3 x hx)
        have hlL := mem_skW_len (k := k) hLate hLen (by omega)
        have hlK := skW_len k m wh
        obtain ⟨va4, vc4, rfl⟩ := r4.shape
        clear HC HS hq q3 b3 b4 hB3 hB hk3 em
        go_loopw [12, 13] (fun p q wr' => ∃ (i : Nat) (L : List (List Nat)) (wi : List Nat), i ≤ k ∧ L.length ≤ i ∧ q = .int .i64 i ∧ RowLL wr' w4.heap.size p L ∧ WQ wr' T2 10 (m + i) wi ∧ L ++ skW (k - i) (m + i) wi = skW k m wh ∧ skS (k - i) (m + i) wi = skS k m wh ∧ But T2.S w4 wr') (fun _ q _ => 2000 - (intOf q).toNat)
        case atStart => exact ⟨0, [], wh, by omega, by simp, rfl, RowLL.nil _ _, q3', rfl, rfl, But.refl _ _⟩
        case round =>
          clear q3'
          obtain ⟨i, L, wi, hi, hLl, rfl, hr, hQ, hW, hS, hB⟩ := hrel
          have hBs := hB.size
          by_cases hik : i < k
          · have hik' : (i : Int) < (k : Int) := by omega
            have hTj : Tm (m + i + 1) := tm_small (by omega)
            have HT := tick_any hQ hTj
            obtain ⟨d, hd'⟩ : ∃ d, k - i = d + 1 := ⟨k - i - 1, by omega⟩
            have hd1 : k - (i + 1) = d := by omega
            rw [hd'] at hW hS
            simp only [skW, skS] at hW hS
            rw [← List.append_assoc] at hW
            obtain ⟨pa, pc, rfl⟩ := hr.shape
            have hlt4 : ∀ x ∈ T2.S, x < w4.heap.size := fun x hx => Nat.lt_of_lt_of_le (hlt2 x hx) hs4
            by_cases hw0 : wakeL (m + i + 1) wi = []
            · rw [hw0, if_pos rfl, List.append_nil] at hW
              rw [hw0] at HT
              clear hQ
              go_wp2_with (first
                | (go_at_call 22; refine HT.mono ?_; rintro e w5 ⟨v5, rfl, r5, h5, b5⟩; obtain ⟨va, vc, rfl, -⟩ := r5.open'; rw [show (ints []).length = 0 from rfl]))
              go_roundw
              case rel => exact ⟨i + 1, L, _, by omega, by omega, by simp, hr.but b5 hlt4, h5, by rw [hd1]; exact hW, by rw [hd1]; exact hS, hB.trans b5⟩
              case measure =>
                simp [intOf]
                omega
            · rw [if_neg hw0] at hW
              have hpos : 0 < (wakeL (m + i + 1) wi).length := List.length_pos_iff.2 hw0
              generalize hwk : wakeL (m + i + 1) wi = wk at *
              have hpos' : (0 : Int) < (wk.length : Int) := by omega
              clear hQ hwk hw0
              go_wp2_with (first
                | (go_at_call 22; refine HT.mono ?_; rintro e w5 ⟨v5, rfl, r5, h5, b5⟩; obtain ⟨va, vc, rfl, -⟩ := r5.open'; rw [ints_len] at r5 ⊢)
                | (at_builtin; refine wpList_appL rfl _ _ rfl w4.heap.size _ L rfl (hr.but b5 hlt4) _ wk (row_lower r5 hBs) rfl rfl (by omega) (by have := b5.size; omega) ?_; intro v6 w6 ho6 hb6; obtain ⟨oa, oc, rfl⟩ := ho6.shape))
              go_roundw
              case rel =>
                have h6' := But.of_from hb6
                have ho6' : RowLL w6 w4.heap.size (.slice oa (L.length + 1) oc) (L ++ [wk]) := by rw [List.length_append] at ho6; exact ho6
                exact ⟨i + 1, L ++ [wk], _, by omega, by simp; omega, by simp, ho6', h5.but h6' (fun x hx => But.from_not (hlt4 x hx)), by rw [hd1]; exact hW, by rw [hd1]; exact hS, (hB.trans b5).trans_new h6' (fun x hx => .inr (List.mem_range'_1.1 hx).1)⟩
              case measure =>
                simp [intOf]
                omega
          · obtain rfl : i = k := by omega
            rw [Nat.sub_self] at hW hS
            simp only [skW, skS, List.append_nil] at hW hS
            have q4' := q4.but hB (fun x hx => hd x hx)
            have r4' := r4.but hB hlt2
            rw [← hW] at r4' hlL hlK ⊢
            rw [← hS] at q4'
            clear hW hS r4 q4
            have HL := lists_any r4' hr (by omega) hlL
            have hsz2 : (allL wi).length ≤ 4096 := by have := allL_le wi; have := hQ.len; omega
            have HN1 : ∀ W, WQ W T 10 (m + i) wi → Calls Try.prog 12 #[.pointer (some ⟨T.B, 0, none⟩)] W fun e w' => e = .returned (.int .i64 ((m + i : Nat) : Int)) ∧ w' = W := fun W hW => by
              obtain ⟨us, ls, hm, _⟩ := hW.pair
              exact now2_any hm
            have HN2 : ∀ W, WQ W T2 10 (m + i) wi → Calls Try.prog 12 #[.pointer (some ⟨T2.B, 0, none⟩)] W fun e w' => e = .returned (.int .i64 ((m + i : Nat) : Int)) ∧ w' = W := fun W hW => by
              obtain ⟨us, ls, hm, _⟩ := hW.pair
              exact now2_any hm
            have HA1 : ∀ W, WQ W T 10 (m + i) wi → _ := fun W hW => wall_any hW (tm_small (by omega))
            have HA2 : ∀ W, WQ W T2 10 (m + i) wi → _ := fun W hW => wall_any hW (tm_small (by omega))
            generalize allL wi = al at *
            generalize ((m + i : Nat) : Int) = nz at *
            obtain ⟨pa, pc, rfl⟩ := hr.shape
            go_wp2_with (first
              | (go_at_call 24; (with_reducible refine HL.mono ?_); rintro e w5 ⟨rfl, d5⟩)
              | (go_at_call 12; (with_reducible refine (HN1 _ (q4'.keep d5.but)).mono ?_); rintro e w' ⟨rfl, hw⟩; subst w')
              | (go_at_call 12; (with_reducible refine (HN2 _ (hQ.keep d5.but)).mono ?_); rintro e w' ⟨rfl, hw⟩; subst w')
              | (go_at_call 19; (with_reducible refine (HA1 _ (q4'.keep d5.but)).mono ?_); rintro e w6 ⟨v6, rfl, r6, b6⟩)
              | (go_at_call 19; (with_reducible refine (HA2 _ ((hQ.keep d5.but).below b6)).mono ?_); rintro e w7 ⟨v7, rfl, r7, b7⟩; obtain ⟨a6, c6, rfl, i6⟩ := r6.open'; obtain ⟨a7, c7, rfl, i7⟩ := r7.open')
              | (go_at_call 18; refine (ints_drawn a6 a7 c6 c7 (ints al) _ (by rw [ints_len]; exact hsz2) (i6.below b7) i7).mono ?_; rintro e w8 ⟨rfl, d8⟩)
              | (go_at_call 8; refine (lives_any _).mono ?_; rintro e w9 ⟨rfl, b9⟩))
            go_ret
            refine ⟨rfl, ?_⟩
            have s5 := hB4.trans ((hB.trans d5.but).below hB4.size hk3')
            have s7 := s5.trans ((b6.trans (b7.mono b6.size)).mono s5.size)
            have s8 := s7.trans ((But.to_below (Drawn.but (S := []) d8)).mono s7.size)
            exact s8.trans (b9.mono s8.size)
end Go.Proofs.Ytmjjghhlalaeiaa
