/- Count and Find of a box. -/
import Derived.Test.YtcffmdimfmpheaaDoorMlDel
namespace Go.Proofs.YtcffmdimfmpheaaDoor
open Go Go.RowKit

theorem kcl_any {w : World} {X : Nat} {t : Int} (hX : w.cell? ⟨X, 0, none⟩ = some (.int .i64 t)) (e : Ev) :
    Calls Tryd.prog 41 #[.agg (evA e), .pointer (some ⟨X, 0, none⟩)] w fun r w' => r = .returned (.bool (decide (e.kd = t))) ∧ Below w.heap.size w w' := by
  have hb : Below w.heap.size w (w.alloc (.cells (evA e) 33)) := (Below.refl _ _).alloc (Nat.le_refl _) _
  have hX' := cell_on hb hX
  unfold evA at *
  by_cases h : e.kd = t
  · have h' : (e.kd == t) = true := by simpa using h
    rw [decide_eq_true h]
    clear h
    go_enter Tryd.func41, Tryd.ntmps41
    go_wp2_with fail
    go_ret
    exact ⟨rfl, hb⟩
  · have h' : (e.kd == t) = false := by simpa using h
    rw [decide_eq_false h]
    go_enter Tryd.func41, Tryd.ntmps41
    go_wp2_with fail
    go_ret
    exact ⟨rfl, hb⟩
theorem kind_any (t : Int) (w : World) : Calls Tryd.prog 32 #[.int .i64 t] w fun r w' => r = .returned (.func (.func 41) #[] #[.pointer (some ⟨w.heap.size, 0, none⟩)]) ∧ w' = w.alloc (.cells #[.int .i64 t] 3) := by
  go_enter Tryd.func32, Tryd.ntmps32
  go_wp2_with fail
  go_ret
  exact ⟨rfl, rfl⟩
set_option maxHeartbeats 1000000 in
set_option maxRecDepth 100000 in
theorem lcount_any {w : World} {X c : Nat} {a : Option Addr} {t : Int} {xs : List Ev} (hx : EV w a xs) (hX : w.cell? ⟨X, 0, none⟩ = some (.int .i64 t)) (hn : xs.length ≤ 4096) :
    Calls Tryd.prog 31 #[.slice a xs.length c, .func (.func 41) #[] #[.pointer (some ⟨X, 0, none⟩)]] w fun e w' => e = .returned (.int .i64 (kndN xs t : Nat)) ∧ Below w.heap.size w w' := by
  obtain ⟨n, hN⟩ : ∃ n, Hid (xs.length = n) := ⟨_, rfl⟩
  have hn' : n ≤ 4096 := by rw [← hN.out]; exact hn
  rw [hN.out]
  clear hn
  go_enter Tryd.func31, Tryd.ntmps31
  go_wp2_with fail
  go_loopw [10, 5, 7] (fun v s _ wr => ∃ j k : Nat, j ≤ n ∧ v = .int .i64 j ∧ s = .int .i64 k ∧ k = kndN (xs.take j) t ∧ Below w.heap.size w wr) (fun v _ _ _ => 4096 - (intOf v).toNat)
  case atStart => exact ⟨0, 0, Nat.zero_le _, rfl, rfl, rfl, Below.refl _ _⟩
  case round =>
    obtain ⟨j, k, hj, rfl, rfl, hk, hb⟩ := hrel
    have HK := Hid.mk hk
    have hkl : k ≤ 4096 := by
      have := kndN_le (xs.take j) t
      rw [List.length_take] at this
      have := hN.out
      omega
    clear hk
    by_cases hlt : j < n
    · have hjx : j < xs.length := by rw [hN.out]; exact hlt
      obtain ⟨b, o, rfl, hc⟩ := hx.below hb j hjx
      obtain ⟨c0, c1, c2, c3, c4, c5, c6, c7, c8, c9, c10, c11, c12, c13, c14⟩ := hc.cells
      have hlt' : (j : Int) < (n : Int) := by omega
      have ba : Below wr.heap.size wr (wr.alloc (.cells (evA (ev xs j)) 33)) := (Below.refl _ _).alloc (Nat.le_refl _) _
      have hn5 := (at15_new wr (ev xs j)).cells
      have CL := kcl_any (cell_on ba (cell_on hb hX)) (ev xs j)
      have hkn := kndN_next hjx t
      rw [← HK.out] at hkn
      have B1 : Below w.heap.size w (wr.alloc (.cells (evA (ev xs j)) 33)) := below2 hb hb.size ba
      clear hc ba
      have hkl' : (k : Int) ≤ 4096 := by omega
      by_cases hp : (ev xs j).kd = t
      · rw [decide_eq_true hp] at CL
        rw [if_pos hp] at hkn
        have HN := Hid.mk hkn
        clear hp hkn
        unfold evA at *
        generalize ev xs j = x at *
        obtain ⟨n0, n1, n2, n3, n4, n5, n6, n7, n8, n9, n10, n11, n12, n13, n14⟩ := hn5
        go_wp2_with (first | (go_at_call 41; (with_reducible refine CL.mono ?_); rintro e w1 ⟨rfl, b1⟩))
        go_roundw
        case rel => exact ⟨j + 1, k + 1, by omega, by simp, by simp, HN.out.symm, below2 B1 B1.size b1⟩
        case measure =>
          simp [intOf]
          omega
      · rw [decide_eq_false hp] at CL
        rw [if_neg hp] at hkn
        have HN := Hid.mk hkn
        clear hp hkn
        unfold evA at *
        generalize ev xs j = x at *
        obtain ⟨n0, n1, n2, n3, n4, n5, n6, n7, n8, n9, n10, n11, n12, n13, n14⟩ := hn5
        go_wp2_with (first | (go_at_call 41; (with_reducible refine CL.mono ?_); rintro e w1 ⟨rfl, b1⟩))
        go_roundw
        case rel => exact ⟨j + 1, k, by omega, by simp, rfl, HN.out.symm, below2 B1 B1.size b1⟩
        case measure =>
          simp [intOf]
          omega
    · obtain rfl : j = n := by omega
      have HE : Hid (k = kndN xs t) := by
        have := HK.out
        rw [List.take_of_length_le (by rw [hN.out]; exact Nat.le_refl _)] at this
        exact this
      go_wp2_with fail
      go_ret
      exact ⟨by rw [HE.out]; rfl, hb⟩

section
variable {w : World} {B N : Nat} {T : List Nat} {xs : List Ev}
set_option maxHeartbeats 1000000 in
theorem count_any (h : BQ w B T N xs) (t : Int) :
    Calls Tryd.prog 15 #[.pointer (some ⟨B, 0, none⟩), .int .i64 t] w fun e w' => e = .returned (.int .i64 (kndN xs t : Nat)) ∧ Below w.heap.size w w' := by
  have hln := h.len
  obtain ⟨v, rfl, hm, hl⟩ := h
  have MA := made_any hm
  obtain ⟨sl, c, rfl, he, -, -⟩ := hm.shape
  have KI := kind_any t w.drew
  have ba : Below w.heap.size w (w.alloc (.cells #[.int .i64 t] 3)).drew := ((Below.refl _ w).alloc (Nat.le_refl _) _).drew
  have hX : (w.alloc (.cells #[.int .i64 t] 3)).drew.cell? ⟨w.heap.size, 0, none⟩ = some (.int .i64 t) := (Cel.new w #[.int .i64 t] 3).cell (j := 0) rfl
  have LC := lcount_any (c := c) (he.below ba) hX (by omega)
  have d0 := hm.drew.c0
  have d1 := (hm.below ba).c0
  have d2 := hm.c0
  have d3 := (hm.below ((Below.refl _ w).alloc (Nat.le_refl _) (.cells #[.int .i64 t] 3))).c0
  go_enter Tryd.func15, Tryd.ntmps15
  go_upto_region 3 with (go_at_call 29; (with_reducible refine MA.mono ?_); rintro e w' ⟨rfl, hw⟩; subst w')
  go_region_with (first
    | (go_at_call 32; (with_reducible refine KI.mono ?_); rintro e w2 ⟨rfl, hw2⟩; subst w2)
    | (go_at_call 31; (with_reducible refine LC.mono ?_); rintro e w3 ⟨rfl, b3⟩))
  all_goals
    go_wp2_with fail
    go_ret
    exact ⟨rfl, below2 ba ba.size b3⟩
end
end Go.Proofs.YtcffmdimfmpheaaDoor
