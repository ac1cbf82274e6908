/- The walk of MaskMembers. -/
import Derived.Test.YtgoedlgilgnphaaDoorRefM
import Derived.Test.YtgoedlgilgnphaaDoorLall
import Derived.Test.YtgoedlgilgnphaaDoorMakesWalk
namespace Go.Proofs.YtgoedlgilgnphaaDoor
open Go.RowKit Go.Shelf

theorem above_all (m : Nat) : aboveL (-1) (mem m) = mem m := by
  unfold aboveL
  rw [List.filter_eq_self]
  intro a _
  simp
  omega

theorem last_get : ∀ (l : List Nat), lastI l = (match l[l.length - 1]? with | some x => (x : Int) | none => -1)
  | [] => rfl
  | [x] => rfl
  | x :: y :: l => by
    have := last_get (y :: l)
    simp only [lastI]
    rw [this]
    simp

theorem nth_last (m : Nat) : nthI m (((mem m).length : Int) - 1) = lastI (mem m) := by
  rw [last_get]
  unfold nthI
  by_cases h : (mem m).length = 0
  · rw [if_neg (by omega)]
    have : mem m = [] := List.length_eq_zero_iff.1 h
    rw [this]
    rfl
  · rw [if_pos (by omega)]
    have e : (((mem m).length : Int) - 1).toNat = (mem m).length - 1 := by omega
    rw [e]
    cases (mem m)[(mem m).length - 1]? <;> rfl

theorem ints_take {w : World} {a : Option Addr} {xs : List Int} (k : Nat) (h : Ints w a xs) : Ints w a (xs.take k) := by
  intro j x hx
  have hj : j < k := by
    have := (List.getElem?_eq_some_iff.1 hx).1
    rw [List.length_take] at this
    omega
  rw [List.getElem?_take_of_lt hj] at hx
  exact h j x hx

theorem RowI.ints2 {w : World} {base : Nat} {v : Value} {xs : List Int} (h : RowI w base v xs) : ∃ a c, v = .slice a xs.length c ∧ Ints w a xs ∧ xs.length ≤ c ∧ c ≤ maxLen ∧ (a = none → xs.length = 0) := by
  have h' := h
  rcases h.2 with ⟨rfl, h0⟩ | ⟨g, cap, cur, rfl, _, _, h1, h2, _⟩
  · exact ⟨none, 0, by rw [h0], (fun j x hx => by
      have := (List.getElem?_eq_some_iff.1 hx).1
      omega), by omega, by unfold maxLen; omega, fun _ => h0⟩
  · refine ⟨_, cap, rfl, fun j x hx => ⟨g, 0, rfl, ?_⟩, h1, h2, fun e => by cases e⟩
    have hj := (List.getElem?_eq_some_iff.1 hx).1
    have := World.ownsRow.cellAt h' j (by omega)
    rw [Nat.zero_add, this, List.getElem?_map, hx]
    rfl

set_option maxRecDepth 100000 in
set_option maxHeartbeats 8000000 in
theorem members_tail (m : Nat) (i : Int) (most : Nat) (hm : m < 18446744073709551616) (hi0 : -9223372036854775808 ≤ i) (hi1 : i ≤ 9223372036854775807) (hmost : most < 256) (w : World) (hT : Tab w) :
    Calls Tryd.prog 3 #[.int .u64 m, .int .i64 i, .int .u8 most] w fun e w' => e = .returned (.bool true) ∧ Below w.heap.size w w' := by
  obtain ⟨nx, hnx⟩ : ∃ nx : Int → Int, ∀ j, nx j = headI (aboveL j (mem m)) := ⟨_, fun _ => rfl⟩
  obtain ⟨nt, hnt⟩ : ∃ nt : Int → Int, ∀ j, nt j = nthI m j := ⟨_, fun _ => rfl⟩
  obtain ⟨L, hL⟩ : ∃ L : Nat, (memI m).length = L := ⟨_, rfl⟩
  have hLm : L = (mem m).length := by rw [← hL]; exact toI_length _
  have hL64 : L ≤ 64 := by rw [← hL]; exact memI_len m
  have v5 : nx (-1) = headI (mem m) := by rw [hnx, above_all]
  have v6 : nt ((L : Int) - 1) = lastI (mem m) := by rw [hnt, hLm, nth_last]
  have H1 : Veil (∀ W, Calls Tryd.prog 10 #[.int .u64 m, .int .i64 i] W fun e w' => e = .returned (.bool (hasB m i)) ∧ Below W.heap.size W w') := ⟨fun W => (has_any m i hm W).mono fun e w' h => ⟨h.1, same_below h.2⟩⟩
  have H2 : Veil (∀ W, Calls Tryd.prog 11 #[.int .u64 m, .int .i64 i] W fun e w' => e = .returned (.bool (hasB m i)) ∧ Below W.heap.size W w') := ⟨fun W => (rhas_any m i hm W).mono fun e w' h => ⟨h.1, same_below h.2⟩⟩
  have W1 : Veil (∀ W, Calls Tryd.prog 12 #[.int .u64 m, .int .i64 i] W fun e w' => e = .returned (.int .u64 (m ||| bitN i : Nat)) ∧ Below W.heap.size W w') := ⟨fun W => (with_any m i hm W).mono fun e w' h => ⟨h.1, same_below h.2⟩⟩
  have W2 : Veil (∀ W, Calls Tryd.prog 13 #[.int .u64 m, .int .i64 i] W fun e w' => e = .returned (.int .u64 (m ||| bitN i : Nat)) ∧ Below W.heap.size W w') := ⟨fun W => rwith_any m i hm W⟩
  have O1 : Veil (∀ W, Calls Tryd.prog 14 #[.int .u64 m, .int .i64 i] W fun e w' => e = .returned (.int .u64 (m &&& (18446744073709551615 - bitN i) : Nat)) ∧ Below W.heap.size W w') := ⟨fun W => (without_any m i hm W).mono fun e w' h => ⟨h.1, same_below h.2⟩⟩
  have O2 : Veil (∀ W, Calls Tryd.prog 15 #[.int .u64 m, .int .i64 i] W fun e w' => e = .returned (.int .u64 (m &&& (18446744073709551615 - bitN i) : Nat)) ∧ Below W.heap.size W w') := ⟨fun W => rwithout_any m i hm W⟩
  have L1 : Veil (∀ W, Calls Tryd.prog 16 #[.int .u64 m] W fun e w' => e = .returned (.int .i64 (L : Nat)) ∧ Below W.heap.size W w') := ⟨fun W => by rw [hLm]; exact (len_any _ m rfl hm W).mono fun e w' h => ⟨h.1, same_below h.2⟩⟩
  have F1 : Veil (∀ W, Below w.heap.size w W → Calls Tryd.prog 17 #[.int .u64 m] W fun e w' => e = .returned (.int .i64 (headI (mem m))) ∧ Below W.heap.size W w') := ⟨fun W hb => (first_any _ m rfl hm W (hT.below hb (Nat.le_refl _))).mono fun e w' h => ⟨h.1, same_below h.2⟩⟩
  have NR : Veil (∀ W j, Calls Tryd.prog 18 #[.int .u64 m, .int .i64 j] W fun e w' => e = .returned (.int .i64 (nx j)) ∧ Below W.heap.size W w') := ⟨fun W j => by rw [hnx]; exact rnext_any m j hm W⟩
  have LA : Veil (∀ W, Calls Tryd.prog 19 #[.int .u64 m] W fun e w' => e = .returned (.int .i64 (lastI (mem m))) ∧ Below W.heap.size W w') := ⟨fun W => (last_any m hm W).mono fun e w' h => ⟨h.1, same_below h.2⟩⟩
  have TR : Veil (∀ W j, Calls Tryd.prog 20 #[.int .u64 m, .int .i64 j] W fun e w' => e = .returned (.int .i64 (nt j)) ∧ Below W.heap.size W w') := ⟨fun W j => by rw [hnt]; exact rnth_any m j hm W⟩
  have N1 : Veil (∀ W, Below w.heap.size w W → Calls Tryd.prog 21 #[.int .u64 m, .int .i64 i] W fun e w' => e = .returned (.int .i64 (nx i)) ∧ Below W.heap.size W w') := ⟨fun W hb => by rw [hnx]; exact (next_any m i hm W (hT.below hb (Nat.le_refl _)) hi0 hi1).mono fun e w' h => ⟨h.1, same_below h.2⟩⟩
  have T1 : Veil (∀ W, Below w.heap.size w W → Calls Tryd.prog 22 #[.int .u64 m, .int .i64 i] W fun e w' => e = .returned (.int .i64 (nt i)) ∧ Below W.heap.size W w') := ⟨fun W hb => by rw [hnt]; exact nth_any m i hm W (hT.below hb (Nat.le_refl _))⟩
  have R1 : Veil (∀ W, Calls Tryd.prog 23 #[.int .u64 m, .int .i64 i] W fun e w' => e = .returned (.int .i64 ((belowL i (mem m)).length : Nat)) ∧ Below W.heap.size W w') := ⟨fun W => (rank_any m i hm W hi0 hi1).mono fun e w' h => ⟨h.1, same_below h.2⟩⟩
  have R2 : Veil (∀ W, Calls Tryd.prog 24 #[.int .u64 m, .int .i64 i] W fun e w' => e = .returned (.int .i64 ((belowL i (mem m)).length : Nat)) ∧ Below W.heap.size W w') := ⟨fun W => rrank_any m i hm W⟩
  have LV : Veil (∀ W, Below w.heap.size w W → Calls Tryd.prog 26 #[] W fun e w' => e = .returned (.bool true) ∧ Below W.heap.size W w') := ⟨fun W hb => lives_any W (hT.below hb (Nat.le_refl _))⟩
  have A1 := lall_any m most hm hmost w hT
  have A2 : Veil (∀ W, Calls Tryd.prog 9 #[.int .u64 m] W fun e w' => ∃ v, e = .returned v ∧ RowI w' W.heap.size v (memI m) ∧ Below W.heap.size W w') := ⟨fun W => rall_any m hm W⟩
  have etake : toI ((mem m).take most) = (memI m).take most := by unfold memI toI; rw [List.map_take]
  rw [etake] at A1
  generalize hasB m i = v1 at H1 H2
  generalize ((m ||| bitN i : Nat) : Int) = v2 at W1 W2
  generalize ((m &&& (18446744073709551615 - bitN i) : Nat) : Int) = v3 at O1 O2
  generalize ((belowL i (mem m)).length : Int) = v9 at R1 R2
  generalize headI (mem m) = v5' at v5 F1
  generalize lastI (mem m) = v6' at v6 LA
  clear hnx hnt hLm etake hi0 hi1 hT
  replace A1 := Veil.mk A1
  by_cases hcase : L ≤ most
  · skip
    have e1 : min most L = L := by omega
    have hq : ((L : Nat) : Int) ≤ ((most : Nat) : Int) := by omega
    go_enter Tryd.func3, Tryd.ntmps3
    go_wp2_with fail
    refine A1.out.mono ?_
    rintro e wl ⟨vl, rfl, hrowl, hBl⟩
    obtain ⟨la, lc, rfl, hintl⟩ := hrowl.ints
    clear hrowl
    go_wp2_with fail
    refine (A2.out _).mono ?_
    rintro e wA ⟨v, rfl, hrow, hB⟩
    obtain ⟨a, c, rfl, hints, hcl, hcm, hcn⟩ := hrow.ints2
    clear hrow
    rw [hL] at hcl hcn
    have hB0 := below2 hBl hB
    have hcA : Below wA.heap.size wA wA := Below.refl _ _
    have et : (memI m).take most = memI m := List.take_of_length_le (by omega)
    rw [et] at hintl
    have SM : Veil (∀ W, Below wA.heap.size wA W → Calls Tryd.prog 25 #[.slice la L lc, .slice a L c] W fun e w' => e = .returned (.bool true) ∧ Below W.heap.size W w') := ⟨fun W hb => by
      have := same_any la a lc c (memI m) W (by omega) (ints_below (ints_below hintl hB) hb) (ints_below hints hb)
      rw [hL] at this
      exact this⟩
    clear et
    clear hints hintl
    go_wp2_with (first
        | (go_at_call 10; refine (H1.out _).mono ?_; rintro e w1 ⟨rfl, h⟩; have hcA := below2 hcA h; clear h)
        | (go_at_call 11; refine (H2.out _).mono ?_; rintro e w1 ⟨rfl, h⟩; have hcA := below2 hcA h; clear h)
        | (go_at_call 12; refine (W1.out _).mono ?_; rintro e w1 ⟨rfl, h⟩; have hcA := below2 hcA h; clear h)
        | (go_at_call 13; refine (W2.out _).mono ?_; rintro e w1 ⟨rfl, h⟩; have hcA := below2 hcA h; clear h)
        | (go_at_call 14; refine (O1.out _).mono ?_; rintro e w1 ⟨rfl, h⟩; have hcA := below2 hcA h; clear h)
        | (go_at_call 15; refine (O2.out _).mono ?_; rintro e w1 ⟨rfl, h⟩; have hcA := below2 hcA h; clear h)
        | (go_at_call 16; refine (L1.out _).mono ?_; rintro e w1 ⟨rfl, h⟩; have hcA := below2 hcA h; clear h)
        | (go_at_call 19; refine (LA.out _).mono ?_; rintro e w1 ⟨rfl, h⟩; have hcA := below2 hcA h; clear h)
        | (go_at_call 23; refine (R1.out _).mono ?_; rintro e w1 ⟨rfl, h⟩; have hcA := below2 hcA h; clear h)
        | (go_at_call 24; refine (R2.out _).mono ?_; rintro e w1 ⟨rfl, h⟩; have hcA := below2 hcA h; clear h)
        | (go_at_call 18; refine (NR.out _ _).mono ?_; rintro e w1 ⟨rfl, h⟩; have hcA := below2 hcA h; clear h)
        | (go_at_call 20; refine (TR.out _ _).mono ?_; rintro e w1 ⟨rfl, h⟩; have hcA := below2 hcA h; clear h)
        | (go_at_call 17; refine (F1.out _ (hB0.trans (hcA.mono hB0.size))).mono ?_; rintro e w1 ⟨rfl, h⟩; have hcA := below2 hcA h; clear h)
        | (go_at_call 21; refine (N1.out _ (hB0.trans (hcA.mono hB0.size))).mono ?_; rintro e w1 ⟨rfl, h⟩; have hcA := below2 hcA h; clear h)
        | (go_at_call 22; refine (T1.out _ (hB0.trans (hcA.mono hB0.size))).mono ?_; rintro e w1 ⟨rfl, h⟩; have hcA := below2 hcA h; clear h)
        | (go_at_call 26; refine (LV.out _ (hB0.trans (hcA.mono hB0.size))).mono ?_; rintro e w1 ⟨rfl, h⟩; have hcA := below2 hcA h; clear h)
        | (go_at_call 25; refine (SM.out _ hcA).mono ?_; rintro e w1 ⟨rfl, h⟩; have hcA := below2 hcA h; clear h))
    all_goals
      go_ret
      exact ⟨rfl, hB0.trans (hcA.mono hB0.size)⟩
  · skip
    have e1 : min most L = most := by omega
    have hq : ((most : Nat) : Int) < ((L : Nat) : Int) := by omega
    go_enter Tryd.func3, Tryd.ntmps3
    go_wp2_with fail
    refine A1.out.mono ?_
    rintro e wl ⟨vl, rfl, hrowl, hBl⟩
    obtain ⟨la, lc, rfl, hintl⟩ := hrowl.ints
    clear hrowl
    go_wp2_with fail
    refine (A2.out _).mono ?_
    rintro e wA ⟨v, rfl, hrow, hB⟩
    obtain ⟨a, c, rfl, hints, hcl, hcm, hcn⟩ := hrow.ints2
    clear hrow
    rw [hL] at hcl hcn
    have hB0 := below2 hBl hB
    have hcA : Below wA.heap.size wA wA := Below.refl _ _
    have SM : Veil (∀ W, Below wA.heap.size wA W → Calls Tryd.prog 25 #[.slice la most lc, .slice a most c] W fun e w' => e = .returned (.bool true) ∧ Below W.heap.size W w') := ⟨fun W hb => by
      have := same_any la a lc c ((memI m).take most) W (by rw [List.length_take]; omega) (ints_below (ints_below hintl hB) hb) (ints_take most (ints_below hints hb))
      rw [List.length_take, hL, e1] at this
      exact this⟩
    have hc1 : ((most : Nat) : Int) ≤ ((c : Nat) : Int) := by omega
    have ha : ∃ a', a = some a' := by
      cases a with
      | none => have := hcn rfl; omega
      | some a' => exact ⟨a', rfl⟩
    obtain ⟨a', rfl⟩ := ha
    clear hints hintl
    go_wp2_with (first
        | (go_at_call 10; refine (H1.out _).mono ?_; rintro e w1 ⟨rfl, h⟩; have hcA := below2 hcA h; clear h)
        | (go_at_call 11; refine (H2.out _).mono ?_; rintro e w1 ⟨rfl, h⟩; have hcA := below2 hcA h; clear h)
        | (go_at_call 12; refine (W1.out _).mono ?_; rintro e w1 ⟨rfl, h⟩; have hcA := below2 hcA h; clear h)
        | (go_at_call 13; refine (W2.out _).mono ?_; rintro e w1 ⟨rfl, h⟩; have hcA := below2 hcA h; clear h)
        | (go_at_call 14; refine (O1.out _).mono ?_; rintro e w1 ⟨rfl, h⟩; have hcA := below2 hcA h; clear h)
        | (go_at_call 15; refine (O2.out _).mono ?_; rintro e w1 ⟨rfl, h⟩; have hcA := below2 hcA h; clear h)
        | (go_at_call 16; refine (L1.out _).mono ?_; rintro e w1 ⟨rfl, h⟩; have hcA := below2 hcA h; clear h)
        | (go_at_call 19; refine (LA.out _).mono ?_; rintro e w1 ⟨rfl, h⟩; have hcA := below2 hcA h; clear h)
        | (go_at_call 23; refine (R1.out _).mono ?_; rintro e w1 ⟨rfl, h⟩; have hcA := below2 hcA h; clear h)
        | (go_at_call 24; refine (R2.out _).mono ?_; rintro e w1 ⟨rfl, h⟩; have hcA := below2 hcA h; clear h)
        | (go_at_call 18; refine (NR.out _ _).mono ?_; rintro e w1 ⟨rfl, h⟩; have hcA := below2 hcA h; clear h)
        | (go_at_call 20; refine (TR.out _ _).mono ?_; rintro e w1 ⟨rfl, h⟩; have hcA := below2 hcA h; clear h)
        | (go_at_call 17; refine (F1.out _ (hB0.trans (hcA.mono hB0.size))).mono ?_; rintro e w1 ⟨rfl, h⟩; have hcA := below2 hcA h; clear h)
        | (go_at_call 21; refine (N1.out _ (hB0.trans (hcA.mono hB0.size))).mono ?_; rintro e w1 ⟨rfl, h⟩; have hcA := below2 hcA h; clear h)
        | (go_at_call 22; refine (T1.out _ (hB0.trans (hcA.mono hB0.size))).mono ?_; rintro e w1 ⟨rfl, h⟩; have hcA := below2 hcA h; clear h)
        | (go_at_call 26; refine (LV.out _ (hB0.trans (hcA.mono hB0.size))).mono ?_; rintro e w1 ⟨rfl, h⟩; have hcA := below2 hcA h; clear h)
        | (go_at_call 25; refine (SM.out _ hcA).mono ?_; rintro e w1 ⟨rfl, h⟩; have hcA := below2 hcA h; clear h))
    all_goals
      go_ret
      exact ⟨rfl, hB0.trans (hcA.mono hB0.size)⟩

end Go.Proofs.YtgoedlgilgnphaaDoor
