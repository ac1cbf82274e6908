/- The walk of HeapLowers. -/
import Derived.Test.YtmogedfjhbfglaaLow
import Derived.Test.YtmogedfjhbfglaaSound
import Derived.Test.YtmogedfjhbfglaaFill
namespace Go.Proofs.Ytmogedfjhbfglaa
open Go.RowKit

theorem ints_q {W : World} (a b : Option Addr) (c d : Nat) {q : List Th} (hq : q.length ≤ 4096) (h1 : IntsR W a (idsL q)) (h2 : IntsR W b (idsL q)) :
    Calls Try.prog 18 #[.slice a q.length c, .slice b q.length d] W fun e w' => e = .returned (.bool true) ∧ Below W.heap.size W w' := by
  have := ints_any a b c d (idsL q) W (by rw [idsL_len]; exact hq) h1 h2
  rwa [idsL_len] at this
theorem idsL_low (q : List Th) (c : Int) : idsL (lowL q c) = idsL q := by simp [idsL, lowL]
theorem lowL_len (q : List Th) (c : Int) : (lowL q c).length = q.length := by simp [lowL]

/-- Small keys, less by a small number, are ints. -/
theorem low_fits {q : List Th} {c : Int} (hq : ∀ p ∈ q, -2147483648 ≤ p.2 ∧ p.2 ≤ 2147483647) (hc : -2147483648 ≤ c ∧ c ≤ 2147483647) : lowE q c = 0 ∧ lowS q c = lowL q c := by
  have h : lowB q c = true := by
    unfold lowB
    rw [List.all_eq_true]
    intro p hp
    have := hq p hp
    unfold fitsB
    simp
    omega
  unfold lowE lowS
  rw [h]
  exact ⟨rfl, rfl⟩
theorem low_key {q : List Th} {ks : List Int} {c k : Int} {i : Nat} (hn : (q.map (·.1)).Nodup) (hq : q.Perm (prs ks)) (hk : ks[i]? = some k) : keyV (lowL q c) (i : Int) = k - c ∧ hasB (lowL q c) (i : Int) = true := by
  have hm : (i, k) ∈ q := hq.symm.subset (prs_mem.2 hk)
  have hm2 : (i, k - c) ∈ lowL q c := List.mem_map.2 ⟨(i, k), hm, rfl⟩
  have hn2 : ((lowL q c).map (·.1)).Nodup := by
    have : (lowL q c).map (·.1) = q.map (·.1) := by simp [lowL]
    rw [this]
    exact hn
  exact ⟨keyV_some hn2 hm2, hasB_iff.2 ⟨_, hm2, rfl⟩⟩

set_option maxRecDepth 100000 in
set_option maxHeartbeats 4000000 in
theorem lowers_any (a : Option Addr) (c : Nat) (ks : List Int) (y : Int) (w : World) (hk : Ints .i32 w a ks) (hb : ∀ x ∈ ks, -2147483648 ≤ x ∧ x ≤ 2147483647) (hy : -2147483648 ≤ y ∧ y ≤ 2147483647) :
    Calls Try.prog 6 #[.slice a ks.length c, .int .i32 y] w fun e w' => e = .returned (.bool true) ∧ Below w.heap.size w w' := by
  by_cases hlen : 100 < ks.length
  · have hlen' : (100 : Int) < (ks.length : Int) := by omega
    go_enter Try.func6, Try.ntmps6
    go_wp2_with (first
      | (go_at_call 8; refine (lives_any _).mono ?_; rintro e w2 ⟨rfl, b2⟩))
    go_ret
    exact ⟨rfl, b2⟩
  · have hlen' : (ks.length : Int) ≤ 100 := by omega
    have hy0 := hy.1
    have hy1 := hy.2
    go_enter Try.func6, Try.ntmps6
    go_wp2_with (first
      | (go_at_call 9; refine (new_some 100 (by decide) (by decide) _).mono ?_; rintro e w1 ⟨B, T1, rfl, h1, s1⟩))
    go_loopw [22, 6, 7] (fun v _ _ wr => ∃ (j : Nat) (T : List Nat) (q : List Th), j ≤ ks.length ∧ v = .int .i64 j ∧ HQ wr B T 100 q ∧ q.Perm (prs (ks.take j)) ∧ Step [] w T wr) (fun v _ _ _ => 200 - (intOf v).toNat)
    case atStart => exact ⟨0, T1, [], by omega, rfl, h1, List.Perm.refl _, s1⟩
    case round =>
      clear h1 s1
      obtain ⟨j, T, q, hj, rfl, h1, hq, s1⟩ := hrel
      by_cases hlt : j < ks.length
      · obtain ⟨b, o, rfl, hc⟩ := hk.below s1.below j ks[j] (by simp)
        have hx : ks[j]? = some ks[j] := List.getElem?_eq_getElem hlt
        obtain ⟨e0, hq2⟩ := put_next (N := 100) hq hx (by omega)
        have hbx := hb ks[j] (List.getElem_mem hlt)
        generalize ks[j] = x at *
        have hbx0 := hbx.1
        have hbx1 := hbx.2
        have PU := put_any h1 (j : Int) x
        rw [e0] at PU
        generalize putS 100 q (j : Int) x = q2 at *
        have hlt' : (j : Int) < (ks.length : Int) := by omega
        clear hx e0
        go_wp2_with (first
          | (go_at_call 20; refine PU.mono ?_; rintro e w2 ⟨rfl, T2, h2, s2⟩))
        go_roundw
        case rel => exact ⟨j + 1, T2, q2, by omega, by simp, h2, hq2, s1.trans s2⟩
        case measure =>
          simp [intOf]
          omega
      · obtain rfl : j = ks.length := by omega
        rw [List.take_length] at hq
        have hql : q.length = ks.length := by rw [hq.length_eq, prs_len]
        have hq32 : ∀ p ∈ q, -2147483648 ≤ p.2 ∧ p.2 ≤ 2147483647 := fun p hp => hb p.2 (List.mem_of_getElem? (prs_mem.1 (hq.subset hp)))
        obtain ⟨e1, e2⟩ := low_fits hq32 hy
        have hnd := h1.nd
        have hq4 : q.length ≤ 4096 := by omega
        have HK : ∀ (i : Nat) (k : Int), ks[i]? = some k → keyV (lowL q y) (i : Int) = k - y ∧ hasB (lowL q y) (i : Int) = true := fun i k hi => low_key hnd hq hi
        have hTl := h1.lt
        have AL := all_any h1
        have LW : ∀ W, HQ W B T 100 q → _ := fun W h => lower_any (w := W) h (fun p hp => by have := hq32 p hp; exact ⟨by omega, by omega⟩) y ⟨by omega, by omega⟩
        rw [e1, e2] at LW
        have AL2 : ∀ W B T, HQ W B T 100 (lowL q y) → _ := fun W B T h => all_any (w := W) (B := B) (T := T) h
        rw [lowL_len, idsL_low] at AL2
        clear e1 e2 hq32
        generalize lowL q y = q' at *
        have Hql : Hid (q.length = ks.length) := hql
        clear hql
        go_wp2_with (first
          | (go_at_call 19; (with_reducible refine AL.mono ?_); rintro e w2 ⟨sa, rfl, r2, b2⟩; have h2 := h1.below b2)
          | (go_at_call 24; refine (LW _ h2).mono ?_; rintro e w3 ⟨rfl, T3, h3, s3⟩; have r3 := r2.but s3.but hTl)
          | (go_at_call 19; (with_reducible refine (AL2 _ _ _ h3).mono ?_); rintro e w4 ⟨sb, rfl, r4, b4⟩; have r3b := r3.below b4)
          | (go_at_call 18; refine (ints_q _ _ _ _ hq4 r4.at r3b.at).mono ?_; rintro e w5 ⟨rfl, b5⟩; have r5 := r3b.below b5; have h5 := (h3.below b4).below b5))
        have st5 : Step [] w T3 w5 := (((s1.trans (Step.keep (.of_below b2))).trans s3).trans (Step.keep (.of_below b4))).trans (Step.keep (.of_below b5))
        clear AL LW h2 h3 r2 r3 r3b r4 b2 s3 b4 b5 s1 hTl h1
        go_loopw [49, 9, 10, 11, 12] (fun v _ _ _ _ wx => ∃ j : Nat, j ≤ ks.length ∧ v = .int .i64 j ∧ But [] w5 wx) (fun v _ _ _ _ _ => 200 - (intOf v).toNat)
        case atStart => exact ⟨0, by omega, rfl, But.refl _ _⟩
        case round =>
          obtain ⟨j, hj2, rfl, hBx⟩ := hrel
          have hx5 := h5.keep hBx
          have stx : Step [] w T3 wr := st5.trans (Step.keep hBx)
          have hrx := r5.but hBx (by simp)
          by_cases hlt : j < ks.length
          · obtain ⟨b, o, rfl, hc⟩ := hk.below stx.below j ks[j] (by simp)
            obtain ⟨e1, e2⟩ := HK j ks[j] (List.getElem?_eq_getElem hlt)
            have hbx := hb ks[j] (List.getElem_mem hlt)
            have KE := key_any hx5 (j : Int)
            rw [e1, e2] at KE
            generalize ks[j] = x at *
            have hbx0 := hbx.1
            have hbx1 := hbx.2
            have hlt' : (j : Int) < (ks.length : Int) := by omega
            clear e1 e2
            go_wp2_with (first
              | (go_at_call 16; refine KE.mono ?_; rintro e w6 ⟨rfl, d6⟩))
            go_roundw
            case rel => exact ⟨j + 1, by omega, by simp, hBx.trans d6.but⟩
            case measure =>
              simp [intOf]
              omega
          · obtain rfl : j = ks.length := by omega
            go_wp2_with (first
              | (go_at_call 25; (with_reducible refine (copy_any hx5).mono ?_); rintro e w6 ⟨B6, T6, rfl, h6, s6⟩; have b6 := s6.below; have hx6 := hx5.below b6; have r6 := hrx.below b6)
              | (go_at_call 12; refine (sound_any h6).mono ?_; rintro e w7 ⟨rfl, b7⟩; have hx7 := hx6.below b7; have r7 := r6.below b7)
              | (go_at_call 25; (with_reducible refine (copy_any hx7).mono ?_); rintro e w8 ⟨B8, T8, rfl, h8, s8⟩; have b8 := s8.below; have r8 := r7.below b8)
              | (go_at_call 19; refine (AL2 _ _ _ h8).mono ?_; rintro e w9 ⟨sc, rfl, r9, b9⟩; have r8b := r8.below b9)
              | (go_at_call 18; refine (ints_q _ _ _ _ hq4 r9.at r8b.at).mono ?_; rintro e w10 ⟨rfl, b10⟩)
              | (go_at_call 8; refine (lives_any _).mono ?_; rintro e w11 ⟨rfl, b11⟩))
            go_ret
            have z1 := stx.below
            have z2 := z1.trans (b6.mono z1.size)
            have z3 := z2.trans (b7.mono z2.size)
            have z4 := z3.trans (b8.mono z3.size)
            have z5 := z4.trans (b9.mono z4.size)
            have z6 := z5.trans (b10.mono z5.size)
            exact ⟨rfl, z6.trans (b11.mono z6.size)⟩
end Go.Proofs.Ytmogedfjhbfglaa
