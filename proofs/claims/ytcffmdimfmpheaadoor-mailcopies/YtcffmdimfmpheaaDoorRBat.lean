/- Batch: the reference's. -/
import Derived.Test.YtcffmdimfmpheaaDoorEBatch
namespace Go.Proofs.YtcffmdimfmpheaaDoor
open Go Go.RowKit

set_option maxHeartbeats 2000000 in
set_option maxRecDepth 100000 in
theorem rbatch_ge {w : World} {a : Option Addr} {xs : List Ev} (c : Nat) (m : Int) (hm : 1 ≤ m) (hx : EV w a xs) (hn : xs.length ≤ 90000) (hc : xs.length ≤ c) :
    Calls Tryd.prog 40 #[.slice a xs.length c, .int .i64 m] w fun e w' => ∃ k a2, (∃ c1 c2, e = .returned (.tuple #[.slice a k c1, .slice a2 (xs.length - k) c2])) ∧ Cnt (max m 1).toNat xs k ∧ (0 < xs.length → 0 < k) ∧ EV w' a2 (xs.drop k) ∧ Below w.heap.size w w' := by
  obtain ⟨n, hN⟩ : ∃ n, Hid (xs.length = n) := ⟨_, rfl⟩
  have HC : Hid (n ≤ c ∧ n ≤ 90000 ∧ xs.length ≤ c) := ⟨by rw [← hN.out]; exact hc, by rw [← hN.out]; exact hn, hc⟩
  have HM : Hid (((max m 1).toNat : Int) = m) := Hid.mk (by omega)
  rw [hN.out]
  clear hn hc
  go_enter Tryd.func40, Tryd.ntmps40
  go_wp2_with fail
  go_loopw [12, 6, 7] (fun v _ _ wr => ∃ j : Nat, j ≤ n ∧ v = .int .i64 j ∧ (∀ i, i < j → preB (ev xs i) = false) ∧ j < (max m 1).toNat ∧ Below w.heap.size w wr) (fun v _ _ _ => 90000 - (intOf v).toNat)
  case atStart => exact ⟨0, Nat.zero_le _, rfl, fun i hi => by omega, by omega, Below.refl _ _⟩
  case round =>
    obtain ⟨j, hj, rfl, hall, hjm, hb⟩ := hrel
    by_cases hlt : j < n
    · have hjx : j < xs.length := by rw [hN.out]; exact hlt
      obtain ⟨b, o, rfl, hcl⟩ := hx.below hb j hjx
      have hcl0 := hcl
      obtain ⟨c0, c1, c2, c3, c4, c5, c6, c7, c8, c9, c10, c11, c12, c13, c14⟩ := hcl.cells
      have hlt' : (j : Int) < (n : Int) := by omega
      have hj9 : (j : Int) + 1 ≤ 90000 := by have := HC.out; omega
      have hjn : (j : Int) + 1 ≤ (n : Int) := by omega
      have hjc : (j : Int) + 1 ≤ (c : Int) := by have := HC.out; omega
      have hnc : (n : Int) ≤ (c : Int) := by have := HC.out; omega
      have hj0 : (0 : Int) ≤ (j : Int) + 1 := by omega
      have hw : IntKind.i64.wrap ((j : Int) + 1) = (j : Int) + 1 := by rw [IntKind.wrap_i64] <;> omega
      have Ba : Below w.heap.size w (wr.alloc (.cells (evA (ev xs j)) 33)) := hb.alloc hb.size _
      have HBa := Hid.mk Ba
      have HR : Hid (EV (wr.alloc (.cells (evA (ev xs j)) 33)) (adr c (j + 1) b o) (xs.drop (j + 1))) := drop_at (hx.below Ba) HC.out.2.2 (j + 1)
      have HALL : Hid ((∀ i, i < j → preB (ev xs i) = false) ∧ j < (max m 1).toNat ∧ j < xs.length) := ⟨hall, hjm, hjx⟩
      by_cases hM : (j : Int) + 1 = m
      · have HQ : Hid (Cnt (max m 1).toNat xs (j + 1)) := Hid.mk ⟨by omega, by omega, fun i hi => hall i (by omega), .inr (.inl (by have := HM.out; omega))⟩
        have hMe : ((j : Int) + 1 == m) = true := by simpa using hM
        clear hall hjx hcl hcl0 hM hjm Ba hj
        generalize ev xs j = x at HBa HR c0 c1 c2 c3 c4 c5 c6 c7 c8 c9 c10 c11 c12 c13 c14
        go_upto_region 7 with fail
        refine wp_region_held_drew (S := (fun w' => True)) (by kernel_rfl) trivial (fun hHeld => ?_)
        refine anyH_take (i := 0) (v := ?_) (some 26) rfl rfl (by kernel_rfl) (fun _ _ _ h => h) (Or.inl ⟨by rfl, ?_⟩) (by assumption) ?_
        rotate_left
        · (intro w hSw; go_simp; all_goals with_reducible rfl)
        try simp only [Act.put, List.setIfInBounds_toArray, List.set_cons_zero, List.set_cons_succ]
        refine anyH_take (i := 1) (v := ?_) (some 27) rfl rfl (by kernel_rfl) (fun _ _ _ h => h) (Or.inl ⟨by rfl, ?_⟩) (by assumption) ?_
        rotate_left
        · (intro w hSw; go_simp; all_goals with_reducible rfl)
        try simp only [Act.put, List.setIfInBounds_toArray, List.set_cons_zero, List.set_cons_succ]
        refine anyH_take (i := 2) (v := ?_) (some 28) rfl rfl (by kernel_rfl) (fun _ _ _ h => h) (Or.inl ⟨by rfl, ?_⟩) (by assumption) ?_
        rotate_left
        · (intro w hSw; go_simp; all_goals with_reducible rfl)
        try simp only [Act.put, List.setIfInBounds_toArray, List.set_cons_zero, List.set_cons_succ]
        refine anyH_take (i := 3) (v := ?_) (some 29) rfl rfl (by kernel_rfl) (fun _ _ _ h => h) (Or.inl ⟨by rfl, ?_⟩) (by assumption) ?_
        rotate_left
        · (intro w hSw; go_simp; all_goals with_reducible rfl)
        try simp only [Act.put, List.setIfInBounds_toArray, List.set_cons_zero, List.set_cons_succ]
        refine anyH_take (i := 4) (v := ?_) (some 30) rfl rfl (by kernel_rfl) (fun _ _ _ h => h) (Or.inl ⟨by rfl, ?_⟩) (by assumption) ?_
        rotate_left
        · (intro w hSw; go_simp; all_goals with_reducible rfl)
        try simp only [Act.put, List.setIfInBounds_toArray, List.set_cons_zero, List.set_cons_succ]
        refine anyH_take (i := 5) (v := ?_) (some 31) rfl rfl (by kernel_rfl) (fun _ _ _ h => h) (Or.inl ⟨by rfl, ?_⟩) (by assumption) ?_
        rotate_left
        · (intro w hSw; go_simp; all_goals with_reducible rfl)
        try simp only [Act.put, List.setIfInBounds_toArray, List.set_cons_zero, List.set_cons_succ]
        refine anyH_take (i := 6) (v := ?_) (some 32) rfl rfl (by kernel_rfl) (fun _ _ _ h => h) (Or.inl ⟨by rfl, ?_⟩) (by assumption) ?_
        rotate_left
        · (intro w hSw; go_simp; all_goals with_reducible rfl)
        try simp only [Act.put, List.setIfInBounds_toArray, List.set_cons_zero, List.set_cons_succ]
        refine anyH_take (i := 7) (v := ?_) (some 33) rfl rfl (by kernel_rfl) (fun _ _ _ h => h) (Or.inl ⟨by rfl, ?_⟩) (by assumption) ?_
        rotate_left
        · (intro w hSw; go_simp; all_goals with_reducible rfl)
        try simp only [Act.put, List.setIfInBounds_toArray, List.set_cons_zero, List.set_cons_succ]
        refine anyH_take (i := 8) (v := ?_) (some 4) rfl rfl (by kernel_rfl) (fun _ _ _ h => h) (Or.inl ⟨by rfl, ?_⟩) (by assumption) ?_
        rotate_left
        · (intro w hSw; go_simp; all_goals with_reducible rfl)
        try simp only [Act.put, List.setIfInBounds_toArray, List.set_cons_zero, List.set_cons_succ]
        refine anyH_take (i := 9) (v := ?_) (some 5) rfl rfl (by kernel_rfl) (fun _ _ _ h => h) (Or.inl ⟨by rfl, ?_⟩) (by assumption) ?_
        rotate_left
        · (intro w hSw; go_simp; all_goals with_reducible rfl)
        try simp only [Act.put, List.setIfInBounds_toArray, List.set_cons_zero, List.set_cons_succ]
        refine wpAnyH_done (by kernel_rfl) ?_ _
        clear hw hMe hj9 hjn hjc hnc hj0 hlt'
        go_wp2_with fail
        all_goals go_ret2
        all_goals exact ⟨j + 1, _, (by first | exact ⟨j + 1, 0, by simp [adr]; assumption⟩ | exact ⟨c, c - (j + 1), by simp [adr]; assumption⟩), HQ.out, fun _ => by omega, HR.out.below (below_drew _), HBa.out.drew⟩
      · have hMe : ((j : Int) + 1 == m) = false := by simpa using hM
        cases hp : preB (ev xs j) with
        | true =>
          have HQ : Hid (Cnt (max m 1).toNat xs (j + 1)) := Hid.mk ⟨by omega, by have := HM.out; omega, fun i hi => hall i (by omega), .inr (.inr ⟨by omega, by simpa using hp⟩)⟩
          have hkd : ((ev xs j).kd == 2) = true := by simpa [preB] using hp
          clear hall hjx hcl hcl0 hM hp hjm Ba hj
          generalize ev xs j = x at HBa HR hkd c0 c1 c2 c3 c4 c5 c6 c7 c8 c9 c10 c11 c12 c13 c14
          go_upto_region 7 with fail
          refine wp_region_held_drew (S := (fun w' => True)) (by kernel_rfl) trivial (fun hHeld => ?_)
          refine anyH_take (i := 0) (v := ?_) (some 26) rfl rfl (by kernel_rfl) (fun _ _ _ h => h) (Or.inl ⟨by rfl, ?_⟩) (by assumption) ?_
          rotate_left
          · (intro w hSw; go_simp; all_goals with_reducible rfl)
          try simp only [Act.put, List.setIfInBounds_toArray, List.set_cons_zero, List.set_cons_succ]
          refine anyH_take (i := 1) (v := ?_) (some 27) rfl rfl (by kernel_rfl) (fun _ _ _ h => h) (Or.inl ⟨by rfl, ?_⟩) (by assumption) ?_
          rotate_left
          · (intro w hSw; go_simp; all_goals with_reducible rfl)
          try simp only [Act.put, List.setIfInBounds_toArray, List.set_cons_zero, List.set_cons_succ]
          refine anyH_take (i := 2) (v := ?_) (some 28) rfl rfl (by kernel_rfl) (fun _ _ _ h => h) (Or.inl ⟨by rfl, ?_⟩) (by assumption) ?_
          rotate_left
          · (intro w hSw; go_simp; all_goals with_reducible rfl)
          try simp only [Act.put, List.setIfInBounds_toArray, List.set_cons_zero, List.set_cons_succ]
          refine anyH_take (i := 3) (v := ?_) (some 29) rfl rfl (by kernel_rfl) (fun _ _ _ h => h) (Or.inl ⟨by rfl, ?_⟩) (by assumption) ?_
          rotate_left
          · (intro w hSw; go_simp; all_goals with_reducible rfl)
          try simp only [Act.put, List.setIfInBounds_toArray, List.set_cons_zero, List.set_cons_succ]
          refine anyH_take (i := 4) (v := ?_) (some 30) rfl rfl (by kernel_rfl) (fun _ _ _ h => h) (Or.inl ⟨by rfl, ?_⟩) (by assumption) ?_
          rotate_left
          · (intro w hSw; go_simp; all_goals with_reducible rfl)
          try simp only [Act.put, List.setIfInBounds_toArray, List.set_cons_zero, List.set_cons_succ]
          refine anyH_take (i := 5) (v := ?_) (some 31) rfl rfl (by kernel_rfl) (fun _ _ _ h => h) (Or.inl ⟨by rfl, ?_⟩) (by assumption) ?_
          rotate_left
          · (intro w hSw; go_simp; all_goals with_reducible rfl)
          try simp only [Act.put, List.setIfInBounds_toArray, List.set_cons_zero, List.set_cons_succ]
          refine anyH_take (i := 6) (v := ?_) (some 32) rfl rfl (by kernel_rfl) (fun _ _ _ h => h) (Or.inl ⟨by rfl, ?_⟩) (by assumption) ?_
          rotate_left
          · (intro w hSw; go_simp; all_goals with_reducible rfl)
          try simp only [Act.put, List.setIfInBounds_toArray, List.set_cons_zero, List.set_cons_succ]
          refine anyH_take (i := 7) (v := ?_) (some 33) rfl rfl (by kernel_rfl) (fun _ _ _ h => h) (Or.inl ⟨by rfl, ?_⟩) (by assumption) ?_
          rotate_left
          · (intro w hSw; go_simp; all_goals with_reducible rfl)
          try simp only [Act.put, List.setIfInBounds_toArray, List.set_cons_zero, List.set_cons_succ]
          refine anyH_take (i := 8) (v := ?_) (some 4) rfl rfl (by kernel_rfl) (fun _ _ _ h => h) (Or.inl ⟨by rfl, ?_⟩) (by assumption) ?_
          rotate_left
          · (intro w hSw; go_simp; all_goals with_reducible rfl)
          try simp only [Act.put, List.setIfInBounds_toArray, List.set_cons_zero, List.set_cons_succ]
          refine anyH_take (i := 9) (v := ?_) (some 5) rfl rfl (by kernel_rfl) (fun _ _ _ h => h) (Or.inl ⟨by rfl, ?_⟩) (by assumption) ?_
          rotate_left
          · (intro w hSw; go_simp; all_goals with_reducible rfl)
          try simp only [Act.put, List.setIfInBounds_toArray, List.set_cons_zero, List.set_cons_succ]
          refine wpAnyH_done (by kernel_rfl) ?_ _
          clear hw hMe hj9 hjn hjc hnc hj0 hlt' hkd
          go_wp2_with fail
          all_goals go_ret2
          all_goals exact ⟨j + 1, _, (by first | exact ⟨j + 1, 0, by simp [adr]; assumption⟩ | exact ⟨c, c - (j + 1), by simp [adr]; assumption⟩), HQ.out, fun _ => by omega, HR.out.below (below_drew _), HBa.out.drew⟩
        | false =>
          have HA2 : Hid (∀ i, i < j + 1 → preB (ev xs i) = false) := fun i hi => by
            by_cases e : i = j
            · rw [e]; exact hp
            · exact hall i (by omega)
          have HM2 : Hid (j + 1 < (max m 1).toNat) := Hid.mk (by have := HM.out; omega)
          have hkd : ((ev xs j).kd == 2) = false := by simpa [preB] using hp
          clear hall hjx hcl hcl0 hM hp hjm Ba
          generalize ev xs j = x at HBa HR hkd c0 c1 c2 c3 c4 c5 c6 c7 c8 c9 c10 c11 c12 c13 c14
          go_wp2_with fail
          go_roundw
          case rel => exact ⟨j + 1, by omega, by simp, HA2.out, HM2.out, HBa.out⟩
          case measure =>
            simp [intOf]
            omega
    · obtain rfl : j = n := by omega
      have HQ : Hid (Cnt (max m 1).toNat xs j) := Hid.mk ⟨by rw [hN.out]; exact Nat.le_refl _, by omega, fun i hi => hall i (by omega), .inl hN.out.symm⟩
      have HE : Hid (EV wr none (xs.drop j)) := by rw [List.drop_eq_nil_of_le (by rw [hN.out]; exact Nat.le_refl _)]; exact Hid.mk (EV.nil _ _)
      clear hall hjm
      go_wp2_with fail
      go_ret2
      exact ⟨j, none, ⟨c, 0, by simp⟩, HQ.out, fun h => by rw [hN.out] at *; omega, HE.out, hb⟩

set_option maxHeartbeats 2000000 in
set_option maxRecDepth 100000 in
theorem rbatch_lt {w : World} {a : Option Addr} {xs : List Ev} (c : Nat) (m : Int) (hm : m < 1) (hx : EV w a xs) (hn : xs.length ≤ 90000) (hc : xs.length ≤ c) :
    Calls Tryd.prog 40 #[.slice a xs.length c, .int .i64 m] w fun e w' => ∃ k a2, (∃ c1 c2, e = .returned (.tuple #[.slice a k c1, .slice a2 (xs.length - k) c2])) ∧ Cnt (max m 1).toNat xs k ∧ (0 < xs.length → 0 < k) ∧ EV w' a2 (xs.drop k) ∧ Below w.heap.size w w' := by
  obtain ⟨n, hN⟩ : ∃ n, Hid (xs.length = n) := ⟨_, rfl⟩
  have HC : Hid (n ≤ c ∧ n ≤ 90000 ∧ xs.length ≤ c) := ⟨by rw [← hN.out]; exact hc, by rw [← hN.out]; exact hn, hc⟩
  have HM : Hid (((max m 1).toNat : Int) = 1) := Hid.mk (by omega)
  rw [hN.out]
  clear hn hc
  go_enter Tryd.func40, Tryd.ntmps40
  go_wp2_with fail
  go_loopw [12, 6, 7] (fun v _ _ wr => ∃ j : Nat, j ≤ n ∧ v = .int .i64 j ∧ (∀ i, i < j → preB (ev xs i) = false) ∧ j < (max m 1).toNat ∧ Below w.heap.size w wr) (fun v _ _ _ => 90000 - (intOf v).toNat)
  case atStart => exact ⟨0, Nat.zero_le _, rfl, fun i hi => by omega, by omega, Below.refl _ _⟩
  case round =>
    obtain ⟨j, hj, rfl, hall, hjm, hb⟩ := hrel
    by_cases hlt : j < n
    · have hjx : j < xs.length := by rw [hN.out]; exact hlt
      obtain ⟨b, o, rfl, hcl⟩ := hx.below hb j hjx
      have hcl0 := hcl
      obtain ⟨c0, c1, c2, c3, c4, c5, c6, c7, c8, c9, c10, c11, c12, c13, c14⟩ := hcl.cells
      have hlt' : (j : Int) < (n : Int) := by omega
      have hj9 : (j : Int) + 1 ≤ 90000 := by have := HC.out; omega
      have hjn : (j : Int) + 1 ≤ (n : Int) := by omega
      have hjc : (j : Int) + 1 ≤ (c : Int) := by have := HC.out; omega
      have hnc : (n : Int) ≤ (c : Int) := by have := HC.out; omega
      have hj0 : (0 : Int) ≤ (j : Int) + 1 := by omega
      have hw : IntKind.i64.wrap ((j : Int) + 1) = (j : Int) + 1 := by rw [IntKind.wrap_i64] <;> omega
      have Ba : Below w.heap.size w (wr.alloc (.cells (evA (ev xs j)) 33)) := hb.alloc hb.size _
      have HBa := Hid.mk Ba
      have HR : Hid (EV (wr.alloc (.cells (evA (ev xs j)) 33)) (adr c (j + 1) b o) (xs.drop (j + 1))) := drop_at (hx.below Ba) HC.out.2.2 (j + 1)
      have HALL : Hid ((∀ i, i < j → preB (ev xs i) = false) ∧ j < (max m 1).toNat ∧ j < xs.length) := ⟨hall, hjm, hjx⟩
      by_cases hM : (j : Int) + 1 = 1
      · have HQ : Hid (Cnt (max m 1).toNat xs (j + 1)) := Hid.mk ⟨by omega, by omega, fun i hi => hall i (by omega), .inr (.inl (by have := HM.out; omega))⟩
        have hMe : ((j : Int) + 1 == 1) = true := by simpa using hM
        clear hall hjx hcl hcl0 hM hjm Ba hj
        generalize ev xs j = x at HBa HR c0 c1 c2 c3 c4 c5 c6 c7 c8 c9 c10 c11 c12 c13 c14
        go_upto_region 7 with fail
        refine wp_region_held_drew (S := (fun w' => True)) (by kernel_rfl) trivial (fun hHeld => ?_)
        refine anyH_take (i := 0) (v := ?_) (some 26) rfl rfl (by kernel_rfl) (fun _ _ _ h => h) (Or.inl ⟨by rfl, ?_⟩) (by assumption) ?_
        rotate_left
        · (intro w hSw; go_simp; all_goals with_reducible rfl)
        try simp only [Act.put, List.setIfInBounds_toArray, List.set_cons_zero, List.set_cons_succ]
        refine anyH_take (i := 1) (v := ?_) (some 27) rfl rfl (by kernel_rfl) (fun _ _ _ h => h) (Or.inl ⟨by rfl, ?_⟩) (by assumption) ?_
        rotate_left
        · (intro w hSw; go_simp; all_goals with_reducible rfl)
        try simp only [Act.put, List.setIfInBounds_toArray, List.set_cons_zero, List.set_cons_succ]
        refine anyH_take (i := 2) (v := ?_) (some 28) rfl rfl (by kernel_rfl) (fun _ _ _ h => h) (Or.inl ⟨by rfl, ?_⟩) (by assumption) ?_
        rotate_left
        · (intro w hSw; go_simp; all_goals with_reducible rfl)
        try simp only [Act.put, List.setIfInBounds_toArray, List.set_cons_zero, List.set_cons_succ]
        refine anyH_take (i := 3) (v := ?_) (some 29) rfl rfl (by kernel_rfl) (fun _ _ _ h => h) (Or.inl ⟨by rfl, ?_⟩) (by assumption) ?_
        rotate_left
        · (intro w hSw; go_simp; all_goals with_reducible rfl)
        try simp only [Act.put, List.setIfInBounds_toArray, List.set_cons_zero, List.set_cons_succ]
        refine anyH_take (i := 4) (v := ?_) (some 30) rfl rfl (by kernel_rfl) (fun _ _ _ h => h) (Or.inl ⟨by rfl, ?_⟩) (by assumption) ?_
        rotate_left
        · (intro w hSw; go_simp; all_goals with_reducible rfl)
        try simp only [Act.put, List.setIfInBounds_toArray, List.set_cons_zero, List.set_cons_succ]
        refine anyH_take (i := 5) (v := ?_) (some 31) rfl rfl (by kernel_rfl) (fun _ _ _ h => h) (Or.inl ⟨by rfl, ?_⟩) (by assumption) ?_
        rotate_left
        · (intro w hSw; go_simp; all_goals with_reducible rfl)
        try simp only [Act.put, List.setIfInBounds_toArray, List.set_cons_zero, List.set_cons_succ]
        refine anyH_take (i := 6) (v := ?_) (some 32) rfl rfl (by kernel_rfl) (fun _ _ _ h => h) (Or.inl ⟨by rfl, ?_⟩) (by assumption) ?_
        rotate_left
        · (intro w hSw; go_simp; all_goals with_reducible rfl)
        try simp only [Act.put, List.setIfInBounds_toArray, List.set_cons_zero, List.set_cons_succ]
        refine anyH_take (i := 7) (v := ?_) (some 33) rfl rfl (by kernel_rfl) (fun _ _ _ h => h) (Or.inl ⟨by rfl, ?_⟩) (by assumption) ?_
        rotate_left
        · (intro w hSw; go_simp; all_goals with_reducible rfl)
        try simp only [Act.put, List.setIfInBounds_toArray, List.set_cons_zero, List.set_cons_succ]
        refine anyH_take (i := 8) (v := ?_) (some 4) rfl rfl (by kernel_rfl) (fun _ _ _ h => h) (Or.inl ⟨by rfl, ?_⟩) (by assumption) ?_
        rotate_left
        · (intro w hSw; go_simp; all_goals with_reducible rfl)
        try simp only [Act.put, List.setIfInBounds_toArray, List.set_cons_zero, List.set_cons_succ]
        refine anyH_take (i := 9) (v := ?_) (some 5) rfl rfl (by kernel_rfl) (fun _ _ _ h => h) (Or.inl ⟨by rfl, ?_⟩) (by assumption) ?_
        rotate_left
        · (intro w hSw; go_simp; all_goals with_reducible rfl)
        try simp only [Act.put, List.setIfInBounds_toArray, List.set_cons_zero, List.set_cons_succ]
        refine wpAnyH_done (by kernel_rfl) ?_ _
        clear hw hMe hj9 hjn hjc hnc hj0 hlt'
        go_wp2_with fail
        all_goals go_ret2
        all_goals exact ⟨j + 1, _, (by first | exact ⟨j + 1, 0, by simp [adr]; assumption⟩ | exact ⟨c, c - (j + 1), by simp [adr]; assumption⟩), HQ.out, fun _ => by omega, HR.out.below (below_drew _), HBa.out.drew⟩
      · have hMe : ((j : Int) + 1 == 1) = false := by simpa using hM
        cases hp : preB (ev xs j) with
        | true =>
          have HQ : Hid (Cnt (max m 1).toNat xs (j + 1)) := Hid.mk ⟨by omega, by have := HM.out; omega, fun i hi => hall i (by omega), .inr (.inr ⟨by omega, by simpa using hp⟩)⟩
          have hkd : ((ev xs j).kd == 2) = true := by simpa [preB] using hp
          clear hall hjx hcl hcl0 hM hp hjm Ba hj
          generalize ev xs j = x at HBa HR hkd c0 c1 c2 c3 c4 c5 c6 c7 c8 c9 c10 c11 c12 c13 c14
          go_upto_region 7 with fail
          refine wp_region_held_drew (S := (fun w' => True)) (by kernel_rfl) trivial (fun hHeld => ?_)
          refine anyH_take (i := 0) (v := ?_) (some 26) rfl rfl (by kernel_rfl) (fun _ _ _ h => h) (Or.inl ⟨by rfl, ?_⟩) (by assumption) ?_
          rotate_left
          · (intro w hSw; go_simp; all_goals with_reducible rfl)
          try simp only [Act.put, List.setIfInBounds_toArray, List.set_cons_zero, List.set_cons_succ]
          refine anyH_take (i := 1) (v := ?_) (some 27) rfl rfl (by kernel_rfl) (fun _ _ _ h => h) (Or.inl ⟨by rfl, ?_⟩) (by assumption) ?_
          rotate_left
          · (intro w hSw; go_simp; all_goals with_reducible rfl)
          try simp only [Act.put, List.setIfInBounds_toArray, List.set_cons_zero, List.set_cons_succ]
          refine anyH_take (i := 2) (v := ?_) (some 28) rfl rfl (by kernel_rfl) (fun _ _ _ h => h) (Or.inl ⟨by rfl, ?_⟩) (by assumption) ?_
          rotate_left
          · (intro w hSw; go_simp; all_goals with_reducible rfl)
          try simp only [Act.put, List.setIfInBounds_toArray, List.set_cons_zero, List.set_cons_succ]
          refine anyH_take (i := 3) (v := ?_) (some 29) rfl rfl (by kernel_rfl) (fun _ _ _ h => h) (Or.inl ⟨by rfl, ?_⟩) (by assumption) ?_
          rotate_left
          · (intro w hSw; go_simp; all_goals with_reducible rfl)
          try simp only [Act.put, List.setIfInBounds_toArray, List.set_cons_zero, List.set_cons_succ]
          refine anyH_take (i := 4) (v := ?_) (some 30) rfl rfl (by kernel_rfl) (fun _ _ _ h => h) (Or.inl ⟨by rfl, ?_⟩) (by assumption) ?_
          rotate_left
          · (intro w hSw; go_simp; all_goals with_reducible rfl)
          try simp only [Act.put, List.setIfInBounds_toArray, List.set_cons_zero, List.set_cons_succ]
          refine anyH_take (i := 5) (v := ?_) (some 31) rfl rfl (by kernel_rfl) (fun _ _ _ h => h) (Or.inl ⟨by rfl, ?_⟩) (by assumption) ?_
          rotate_left
          · (intro w hSw; go_simp; all_goals with_reducible rfl)
          try simp only [Act.put, List.setIfInBounds_toArray, List.set_cons_zero, List.set_cons_succ]
          refine anyH_take (i := 6) (v := ?_) (some 32) rfl rfl (by kernel_rfl) (fun _ _ _ h => h) (Or.inl ⟨by rfl, ?_⟩) (by assumption) ?_
          rotate_left
          · (intro w hSw; go_simp; all_goals with_reducible rfl)
          try simp only [Act.put, List.setIfInBounds_toArray, List.set_cons_zero, List.set_cons_succ]
          refine anyH_take (i := 7) (v := ?_) (some 33) rfl rfl (by kernel_rfl) (fun _ _ _ h => h) (Or.inl ⟨by rfl, ?_⟩) (by assumption) ?_
          rotate_left
          · (intro w hSw; go_simp; all_goals with_reducible rfl)
          try simp only [Act.put, List.setIfInBounds_toArray, List.set_cons_zero, List.set_cons_succ]
          refine anyH_take (i := 8) (v := ?_) (some 4) rfl rfl (by kernel_rfl) (fun _ _ _ h => h) (Or.inl ⟨by rfl, ?_⟩) (by assumption) ?_
          rotate_left
          · (intro w hSw; go_simp; all_goals with_reducible rfl)
          try simp only [Act.put, List.setIfInBounds_toArray, List.set_cons_zero, List.set_cons_succ]
          refine anyH_take (i := 9) (v := ?_) (some 5) rfl rfl (by kernel_rfl) (fun _ _ _ h => h) (Or.inl ⟨by rfl, ?_⟩) (by assumption) ?_
          rotate_left
          · (intro w hSw; go_simp; all_goals with_reducible rfl)
          try simp only [Act.put, List.setIfInBounds_toArray, List.set_cons_zero, List.set_cons_succ]
          refine wpAnyH_done (by kernel_rfl) ?_ _
          clear hw hMe hj9 hjn hjc hnc hj0 hlt' hkd
          go_wp2_with fail
          all_goals go_ret2
          all_goals exact ⟨j + 1, _, (by first | exact ⟨j + 1, 0, by simp [adr]; assumption⟩ | exact ⟨c, c - (j + 1), by simp [adr]; assumption⟩), HQ.out, fun _ => by omega, HR.out.below (below_drew _), HBa.out.drew⟩
        | false =>
          have HA2 : Hid (∀ i, i < j + 1 → preB (ev xs i) = false) := fun i hi => by
            by_cases e : i = j
            · rw [e]; exact hp
            · exact hall i (by omega)
          have HM2 : Hid (j + 1 < (max m 1).toNat) := Hid.mk (by have := HM.out; omega)
          have hkd : ((ev xs j).kd == 2) = false := by simpa [preB] using hp
          clear hall hjx hcl hcl0 hM hp hjm Ba
          generalize ev xs j = x at HBa HR hkd c0 c1 c2 c3 c4 c5 c6 c7 c8 c9 c10 c11 c12 c13 c14
          go_wp2_with fail
          go_roundw
          case rel => exact ⟨j + 1, by omega, by simp, HA2.out, HM2.out, HBa.out⟩
          case measure =>
            simp [intOf]
            omega
    · obtain rfl : j = n := by omega
      have HQ : Hid (Cnt (max m 1).toNat xs j) := Hid.mk ⟨by rw [hN.out]; exact Nat.le_refl _, by omega, fun i hi => hall i (by omega), .inl hN.out.symm⟩
      have HE : Hid (EV wr none (xs.drop j)) := by rw [List.drop_eq_nil_of_le (by rw [hN.out]; exact Nat.le_refl _)]; exact Hid.mk (EV.nil _ _)
      clear hall hjm
      go_wp2_with fail
      go_ret2
      exact ⟨j, none, ⟨c, 0, by simp⟩, HQ.out, fun h => by rw [hN.out] at *; omega, HE.out, hb⟩

theorem rbatch_any {w : World} {a : Option Addr} {xs : List Ev} (c : Nat) (m : Int) (hx : EV w a xs) (hn : xs.length ≤ 90000) (hc : xs.length ≤ c) :
    Calls Tryd.prog 40 #[.slice a xs.length c, .int .i64 m] w fun e w' => ∃ k a2, (∃ c1 c2, e = .returned (.tuple #[.slice a k c1, .slice a2 (xs.length - k) c2])) ∧ Cnt (max m 1).toNat xs k ∧ (0 < xs.length → 0 < k) ∧ EV w' a2 (xs.drop k) ∧ Below w.heap.size w w' := by
  by_cases h : 1 ≤ m
  · exact rbatch_ge c m h hx hn hc
  · exact rbatch_lt c m (by omega) hx hn hc
end Go.Proofs.YtcffmdimfmpheaaDoor
