/- The walk of MaskBack. -/
import Derived.Test.YtgoedlgilgnphaaDoorParseT
import Derived.Test.YtgoedlgilgnphaaDoorMembersWalk
namespace Go.Proofs.YtgoedlgilgnphaaDoor
open Go.RowKit Go.Shelf
attribute [local go_sem] Oper.semAt_some

theorem or_andN (m : Nat) (hm : m < 18446744073709551616) (k : Int) : (m ||| bitN k) &&& (18446744073709551615 - bitN k) = m &&& (18446744073709551615 - bitN k) := by
  have hb := bitN_lt k
  refine eq_of_bits (and_lt (or_lt hm hb)) (and_lt hm) fun j hj => ?_
  rw [Nat.testBit_and, Nat.testBit_and, Nat.testBit_or]
  rcases testBit_compl (a := bitN k) hj with e | e
  · rw [e]; cases m.testBit j <;> cases (bitN k).testBit j <;> rfl
  · exact absurd hb e

theorem has_with (m : Nat) (k : Int) (h0 : 0 ≤ k) (h1 : k < 64) : hasB (m ||| bitN k) k = true := by
  unfold hasB
  rw [Nat.testBit_or, testBit_bitN k _ (by omega)]
  have e : decide (k = (k.toNat : Int)) = true := decide_eq_true (by omega)
  rw [e]
  simp [h0, h1]

theorem has_without (m : Nat) (k : Int) (h0 : 0 ≤ k) (h1 : k < 64) : hasB (m &&& (18446744073709551615 - bitN k)) k = false := by
  unfold hasB
  rw [Nat.testBit_and]
  have hb := bitN_lt k
  rcases testBit_compl (a := bitN k) (i := k.toNat) (by omega) with e | e
  · have e2 : decide (k = (k.toNat : Int)) = true := decide_eq_true (by omega)
    rw [e, testBit_bitN k _ (by omega), e2]
    simp
  · exact absurd hb e

theorem nth_has {m j : Nat} (h : j < (mem m).length) : ∃ x : Nat, x < 64 ∧ nthI m j = x ∧ hasB m x = true ∧ (belowL (x : Int) (mem m)).length = j := by
  have hx : (mem m)[j]? = some (mem m)[j] := List.getElem?_eq_getElem h
  have hm := mem_mem.1 (List.getElem_mem h)
  refine ⟨(mem m)[j], hm.1, ?_, ?_, rank_at hx⟩
  · unfold nthI
    rw [if_pos (by omega), show ((j : Int)).toNat = j from rfl, hx]
  · unfold hasB
    have h64 : ((mem m)[j] : Int) < 64 := by have := hm.1; omega
    simp [h64, hm.2]

theorem nth_end (m : Nat) : nthI m ((mem m).length : Int) = -1 := by
  unfold nthI
  rw [if_pos (by omega)]
  simp

theorem last_ge : ∀ (l : List Nat), l.Pairwise (· < ·) → ∀ x ∈ l, (x : Int) ≤ lastI l
  | [], _, x, h => by simp at h
  | [a], _, x, h => by obtain rfl : x = a := by simpa using h
                       exact Int.le_refl _
  | a :: b :: l, hp, x, h => by
    rw [List.pairwise_cons] at hp
    show (x : Int) ≤ lastI (b :: l)
    rcases List.mem_cons.1 h with rfl | h'
    · have h1 := last_ge (b :: l) hp.2 b (by simp)
      have h2 := hp.1 b (by simp)
      omega
    · exact last_ge (b :: l) hp.2 x h'

theorem next_last (m : Nat) : headI (aboveL (lastI (mem m)) (mem m)) = -1 := by
  have : aboveL (lastI (mem m)) (mem m) = [] := by
    unfold aboveL
    rw [List.filter_eq_nil_iff]
    intro x hx
    have := last_ge _ (mem_sorted m) x hx
    simp
    omega
  rw [this]
  rfl

set_option maxRecDepth 100000 in
set_option maxHeartbeats 8000000 in
theorem back_tail (m : Nat) (i : Nat) (hm : m < 18446744073709551616) (hi : i < 256) (w : World) (hT : Tab w) (hE : Errs w) :
    Calls Tryd.prog 6 #[.int .u64 m, .int .u8 i] w fun e w' => e = .returned (.bool true) ∧ Below w.heap.size w w' := by
  have TX : Veil (∀ W, Below w.heap.size w W → Calls Tryd.prog 35 #[.int .u64 m] W fun e w' => e = .returned (.string ⟨(textL m).toArray⟩) ∧ Below W.heap.size W w') := ⟨fun W hb => text_any m hm W (hT.below hb (Nat.le_refl _))⟩
  have PX : Veil (∀ W, Below w.heap.size w W → Calls Tryd.prog 33 #[.string ⟨(textL m).toArray⟩] W fun e w' => e = .returned (.tuple #[.int .u64 (m : Nat), .bool true]) ∧ Below W.heap.size W w') := ⟨fun W hb => parse_text m hm W (hT.below hb (Nat.le_refl _)) (hE.below hb hE.size)⟩
  generalize textL m = tx at TX PX
  have k0 : (0 : Int) ≤ (i : Int) % 64 := by omega
  have k1 : (i : Int) % 64 < 64 := by omega
  have hbk := bitN_lt ((i : Int) % 64)
  have hA : m ||| bitN ((i : Int) % 64) < 18446744073709551616 := or_lt hm hbk
  have hBv : m &&& (18446744073709551615 - bitN ((i : Int) % 64)) < 18446744073709551616 := and_lt hm
  have W1 : Veil (∀ W, Calls Tryd.prog 12 #[.int .u64 m, .int .i64 ((i : Int) % 64)] W fun e w' => e = .returned (.int .u64 (m ||| bitN ((i : Int) % 64) : Nat)) ∧ Below W.heap.size W w') := ⟨fun W => (with_any m _ hm W).mono fun e w' h => ⟨h.1, same_below h.2⟩⟩
  have O1 : Veil (∀ W, Calls Tryd.prog 14 #[.int .u64 (m ||| bitN ((i : Int) % 64) : Nat), .int .i64 ((i : Int) % 64)] W fun e w' => e = .returned (.int .u64 (m &&& (18446744073709551615 - bitN ((i : Int) % 64)) : Nat)) ∧ Below W.heap.size W w') := ⟨fun W => by rw [← or_andN m hm]; exact (without_any _ _ hA W).mono fun e w' h => ⟨h.1, same_below h.2⟩⟩
  have O2 : Veil (∀ W, Calls Tryd.prog 14 #[.int .u64 m, .int .i64 ((i : Int) % 64)] W fun e w' => e = .returned (.int .u64 (m &&& (18446744073709551615 - bitN ((i : Int) % 64)) : Nat)) ∧ Below W.heap.size W w') := ⟨fun W => (without_any _ _ hm W).mono fun e w' h => ⟨h.1, same_below h.2⟩⟩
  have H1 : Veil (∀ W, Calls Tryd.prog 10 #[.int .u64 (m ||| bitN ((i : Int) % 64) : Nat), .int .i64 ((i : Int) % 64)] W fun e w' => e = .returned (.bool true) ∧ Below W.heap.size W w') := ⟨fun W => by rw [← has_with m _ k0 k1]; exact (has_any _ _ hA W).mono fun e w' h => ⟨h.1, same_below h.2⟩⟩
  have H2 : Veil (∀ W, Calls Tryd.prog 10 #[.int .u64 (m &&& (18446744073709551615 - bitN ((i : Int) % 64)) : Nat), .int .i64 ((i : Int) % 64)] W fun e w' => e = .returned (.bool false) ∧ Below W.heap.size W w') := ⟨fun W => by rw [← has_without m _ k0 k1]; exact (has_any _ _ hBv W).mono fun e w' h => ⟨h.1, same_below h.2⟩⟩
  obtain ⟨L, hL⟩ : ∃ L : Nat, (mem m).length = L := ⟨_, rfl⟩
  have hL64 : L ≤ 64 := by rw [← hL]; exact mem_length_le m
  have L1 : Veil (∀ W, Calls Tryd.prog 16 #[.int .u64 m] W fun e w' => e = .returned (.int .i64 (L : Nat)) ∧ Below W.heap.size W w') := ⟨fun W => by rw [← hL]; exact (len_any _ m rfl hm W).mono fun e w' h => ⟨h.1, same_below h.2⟩⟩
  have TE : Veil (∀ W, Below w.heap.size w W → Calls Tryd.prog 22 #[.int .u64 m, .int .i64 (L : Nat)] W fun e w' => e = .returned (.int .i64 (-1)) ∧ Below W.heap.size W w') := ⟨fun W hb => by rw [← nth_end m, hL]; exact nth_any m _ hm W (hT.below hb (Nat.le_refl _))⟩
  have hlr : -1 ≤ lastI (mem m) ∧ lastI (mem m) ≤ 64 := by
    rw [last_get]
    split
    · rename_i x hx
      have := (mem_mem.1 (List.mem_of_getElem? hx)).1
      omega
    · omega
  have LA : Veil (∀ W, Calls Tryd.prog 19 #[.int .u64 m] W fun e w' => e = .returned (.int .i64 (lastI (mem m))) ∧ Below W.heap.size W w') := ⟨fun W => (last_any m hm W).mono fun e w' h => ⟨h.1, same_below h.2⟩⟩
  have NE : Veil (∀ W, Below w.heap.size w W → Calls Tryd.prog 21 #[.int .u64 m, .int .i64 (lastI (mem m))] W fun e w' => e = .returned (.int .i64 (-1)) ∧ Below W.heap.size W w') := ⟨fun W hb => by rw [← next_last m]; exact (next_any m _ hm W (hT.below hb (Nat.le_refl _)) (by omega) (by omega)).mono fun e w' h => ⟨h.1, same_below h.2⟩⟩
  have LV : Veil (∀ W, Below w.heap.size w W → Calls Tryd.prog 26 #[] W fun e w' => e = .returned (.bool true) ∧ Below W.heap.size W w') := ⟨fun W hb => lives_any W (hT.below hb (Nat.le_refl _))⟩
  generalize lastI (mem m) = la at hlr LA NE
  generalize m ||| bitN ((i : Int) % 64) = va at hA W1 O1 H1
  generalize m &&& (18446744073709551615 - bitN ((i : Int) % 64)) = vb at hBv O1 O2 H2
  have hcA : Below w.heap.size w w := Below.refl _ _
  go_enter Tryd.func6, Tryd.ntmps6
  go_wp2_with (first
    | (go_at_call 35; refine (TX.out _ hcA).mono ?_; rintro e w1 ⟨rfl, h⟩; have hcA := below2 hcA h; clear h)
    | (go_at_call 33; refine (PX.out _ hcA).mono ?_; rintro e w1 ⟨rfl, h⟩; have hcA := below2 hcA h; clear h)
    | (go_at_call 12; refine (W1.out _).mono ?_; rintro e w1 ⟨rfl, h⟩; have hcA := below2 hcA h; clear h)
    | (go_at_call 14; refine (O1.out _).mono ?_; rintro e w1 ⟨rfl, h⟩; have hcA := below2 hcA h; clear h)
    | (go_at_call 14; refine (O2.out _).mono ?_; rintro e w1 ⟨rfl, h⟩; have hcA := below2 hcA h; clear h)
    | (go_at_call 10; refine (H1.out _).mono ?_; rintro e w1 ⟨rfl, h⟩; have hcA := below2 hcA h; clear h)
    | (go_at_call 10; refine (H2.out _).mono ?_; rintro e w1 ⟨rfl, h⟩; have hcA := below2 hcA h; clear h))
  rename_i hcB
  go_loopw [8] (fun q wr => ∃ j : Nat, j ≤ L ∧ q = .int .i64 j ∧ Below w.heap.size w wr) (fun q _ => 64 - (intOf q).toNat)
  case atStart => exact ⟨0, by omega, rfl, by assumption⟩
  case round =>
    obtain ⟨j, hj, rfl, hcA⟩ := hrel
    by_cases hlt : j < L
    · obtain ⟨x, hx64, hn, hh, hr⟩ := nth_has (m := m) (j := j) (by omega)
      have h1 : (j : Int) < (L : Int) := by omega
      have TJ : Veil (∀ W, Below w.heap.size w W → Calls Tryd.prog 22 #[.int .u64 m, .int .i64 (j : Nat)] W fun e w' => e = .returned (.int .i64 (x : Nat)) ∧ Below W.heap.size W w') := ⟨fun W hb => by rw [← hn]; exact nth_any m _ hm W (hT.below hb (Nat.le_refl _))⟩
      have HX : Veil (∀ W, Calls Tryd.prog 10 #[.int .u64 m, .int .i64 (x : Nat)] W fun e w' => e = .returned (.bool true) ∧ Below W.heap.size W w') := ⟨fun W => by rw [← hh]; exact (has_any _ _ hm W).mono fun e w' h => ⟨h.1, same_below h.2⟩⟩
      have RX : Veil (∀ W, Calls Tryd.prog 23 #[.int .u64 m, .int .i64 (x : Nat)] W fun e w' => e = .returned (.int .i64 (j : Nat)) ∧ Below W.heap.size W w') := ⟨fun W => by have := (rank_any m x hm W (by omega) (by omega)); rw [hr] at this; exact this.mono fun e w' h => ⟨h.1, same_below h.2⟩⟩
      clear hn hh hr
      go_wp2_with (first
        | (go_at_call 16; refine (L1.out _).mono ?_; rintro e w1 ⟨rfl, h⟩; have hcA := below2 hcA h; clear h)
        | (go_at_call 22; refine (TJ.out _ hcA).mono ?_; rintro e w1 ⟨rfl, h⟩; have hcA := below2 hcA h; clear h)
        | (go_at_call 10; refine (HX.out _).mono ?_; rintro e w1 ⟨rfl, h⟩; have hcA := below2 hcA h; clear h)
        | (go_at_call 23; refine (RX.out _).mono ?_; rintro e w1 ⟨rfl, h⟩; have hcA := below2 hcA h; clear h))
      go_roundw
      case rel => exact ⟨j + 1, by omega, by simp, by assumption⟩
      case measure => simp [intOf]; omega
    · have hjL : j = L := by omega
      subst hjL
      go_wp2_with (first
        | (go_at_call 16; refine (L1.out _).mono ?_; rintro e w1 ⟨rfl, h⟩; have hcA := below2 hcA h; clear h)
        | (go_at_call 22; refine (TE.out _ hcA).mono ?_; rintro e w1 ⟨rfl, h⟩; have hcA := below2 hcA h; clear h)
        | (go_at_call 19; refine (LA.out _).mono ?_; rintro e w1 ⟨rfl, h⟩; have hcA := below2 hcA h; clear h)
        | (go_at_call 21; refine (NE.out _ hcA).mono ?_; rintro e w1 ⟨rfl, h⟩; have hcA := below2 hcA h; clear h)
        | (go_at_call 26; refine (LV.out _ hcA).mono ?_; rintro e w1 ⟨rfl, h⟩; have hcA := below2 hcA h; clear h))
      go_ret
      exact ⟨rfl, by assumption⟩

end Go.Proofs.YtgoedlgilgnphaaDoor
