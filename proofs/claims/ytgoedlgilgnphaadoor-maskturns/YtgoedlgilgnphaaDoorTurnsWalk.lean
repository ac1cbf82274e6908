/- The walk of MaskTurns. -/
import Derived.Test.YtgoedlgilgnphaaDoorLives
import Derived.Test.YtgoedlgilgnphaaDoorTurnM
namespace Go.Proofs.YtgoedlgilgnphaaDoor
open Go.RowKit Go.Shelf

set_option maxHeartbeats 2000000 in
theorem turns_any (m n : Nat) (b : Int) (hm : m < 18446744073709551616) (hn : n < 256) (hb0 : -32768 ≤ b) (hb1 : b ≤ 32767) (w : World) (hT : Tab w) :
    Calls Tryd.prog 7 #[.int .u64 m, .int .u8 n, .int .i16 b] w fun e w' => e = .returned (.bool true) ∧ Below w.heap.size w w' := by
  obtain ⟨k, hk⟩ : ∃ k : Nat, k = 1 + n % 64 := ⟨_, rfl⟩
  have ek : (1 : Int) + (n : Int) % 64 = (k : Int) := by omega
  have k1 : 1 ≤ k := by omega
  have k2 : k ≤ 64 := by omega
  clear hk
  have f0 := Int.emod_nonneg b (b := (k : Int)) (by omega)
  have f1 := Int.emod_lt_of_pos b (b := (k : Int)) (by omega)
  have g0 := Int.emod_nonneg (-b) (b := (k : Int)) (by omega)
  have g1 := Int.emod_lt_of_pos (-b) (b := (k : Int)) (by omega)
  have hsum : (b % (k : Int)).toNat + ((-b) % (k : Int)).toNat = 0 ∨ (b % (k : Int)).toNat + ((-b) % (k : Int)).toNat = k := by
    have e : (b % (k : Int) + (-b) % (k : Int)) % (k : Int) = 0 := by
      rw [← Int.add_emod]
      have : b + -b = 0 := by omega
      rw [this]
      simp
    by_cases hlt : b % (k : Int) + (-b) % (k : Int) < k
    · rw [Int.emod_eq_of_lt (by omega) hlt] at e
      omega
    · have e2 : (b % (k : Int) + (-b) % (k : Int) - k) % (k : Int) = 0 := by rw [Int.sub_emod_right]; exact e
      rw [Int.emod_eq_of_lt (by omega) (by omega)] at e2
      omega
  obtain ⟨s, hs⟩ : ∃ s : Nat, s = (b % (k : Int)).toNat := ⟨_, rfl⟩
  obtain ⟨s', hs'⟩ : ∃ s : Nat, s = ((-b) % (k : Int)).toNat := ⟨_, rfl⟩
  rw [← hs, ← hs'] at hsum
  have s1 : s < k := by omega
  have s2 : s' < k := by omega
  have e1 : turnN m k b = turnS m k s := by rw [turnN_eq m k b k1 k2, hs]
  have e2 : turnN (turnS m k s) k (-b) = m &&& belowN k := by rw [turnN_eq _ k (-b) k1 k2, ← hs', turnS_back m k s s' k1 k2 s1 s2 hsum hm]
  have e3 : turnN (turnS m k s) k 0 = turnS m k s := by
    rw [turnN_eq _ k 0 k1 k2, show ((0 : Int) % (k : Int)).toNat = 0 by simp, turnS_zero m k s k1 k2 s1]
  have e4 : turnN m k k = turnN m k 0 := by
    rw [turnN_eq m k k k1 k2, turnN_eq m k 0 k1 k2]
    simp
  have e5 := turnS_count m k s k1 k2 s1
  have hx := turnS_lt m k s k1 k2
  have q4 : clampN (k : Int) = k := by unfold clampN; split <;> (try split) <;> omega
  have hbl := below_lt k2
  have q5 := bits_and_u64_nat m (belowN k) hm hbl
  clear f0 f1 g0 g1 hsum hs hs'
  generalize turnS m k s = x at e1 e2 e3 e5 hx
  have e6 := and_lt (b := belowN k) hm
  go_enter Tryd.func7, Tryd.ntmps7
  go_wp2_with fail
  refine (turn_any m k b hm _ hT).mono ?_
  rintro e w1 ⟨rfl, hb1'⟩
  rw [e1]
  have hT1 := hT.below hb1' (Nat.le_refl _)
  go_wp2_with fail
  refine (turn_any x k (-b) hx _ hT1).mono ?_
  rintro e w2 ⟨rfl, hb2'⟩
  rw [e2]
  have hc2 := below2 hb1' hb2'
  have hT2 := hT.below hc2 (Nat.le_refl _)
  clear hb1' hb2' hT1
  go_wp2_with fail
  refine (below_any k _ (by omega) (by omega)).mono ?_
  rintro e w3 ⟨rfl, rfl⟩
  rw [q4]
  go_wp2_with fail
  refine (len_any _ x rfl hx _).mono ?_
  rintro e w4 ⟨rfl, rfl⟩
  go_wp2_with fail
  refine (below_any k _ (by omega) (by omega)).mono ?_
  rintro e w5 ⟨rfl, rfl⟩
  rw [q4]
  go_wp2_with fail
  refine (len_any _ (m &&& belowN k) rfl e6 _).mono ?_
  rintro e w6 ⟨rfl, rfl⟩
  go_wp2_with fail
  refine (turn_any x k 0 hx _ hT2).mono ?_
  rintro e w7 ⟨rfl, hb7⟩
  rw [e3]
  have hc7 := below2 hc2 hb7
  have hT7 := hT.below hc7 (Nat.le_refl _)
  clear hb7 hT2 hc2
  go_wp2_with fail
  refine (turn_any m k k hm _ hT7).mono ?_
  rintro e w8 ⟨rfl, hb8⟩
  rw [e4]
  have hc8 := below2 hc7 hb8
  have hT8 := hT.below hc8 (Nat.le_refl _)
  clear hb8 hT7 hc7
  go_wp2_with fail
  refine (turn_any m k 0 hm _ hT8).mono ?_
  rintro e w9 ⟨rfl, hb9⟩
  have hc9 := below2 hc8 hb9
  have hT9 := hT.below hc9 (Nat.le_refl _)
  clear hb9 hT8 hc8
  go_wp2_with fail
  refine (lives_any _ hT9).mono ?_
  rintro e w10 ⟨rfl, hb10⟩
  have hc10 := below2 hc9 hb10
  go_wp2_with fail
  go_ret
  exact ⟨rfl, hc10⟩

end Go.Proofs.YtgoedlgilgnphaaDoor
