/- CodeBack's walk. -/
import Derived.Test.YtdndpncbagjidaaPutV
import Derived.Test.YtdndpncbagjidaaBackC
import Derived.Test.YtdndpncbagjidaaRead
import Derived.Test.YtdndpncbagjidaaInts
namespace Go.Proofs.Ytdndpncbagjidaa
open Go.RowKit

theorem err_sq {w : World} {B : Nat} {st : Nat × List UInt8} (h : SQ w B st) : Calls Try.prog 23 #[.pointer (some ⟨B, 0, none⟩)] w fun e w' => e = .returned (.int .i64 (st.1 : Int)) ∧ w' = w := by
  obtain ⟨bs, h, _⟩ := h
  exact err_any B _ bs w h

set_option maxRecDepth 100000 in
set_option maxHeartbeats 8000000 in
theorem back_any (la : Option Addr) (lc : Nat) (xs : List Vl) (w : World) (hv : Vals w la xs) (hok : ∀ x ∈ xs, x.ok) :
    Calls Try.prog 5 #[.slice la xs.length lc] w fun e w' => e = .returned (.bool true) ∧ Below w.heap.size w w' := by
  by_cases hl : 30 < xs.length
  · have k : (30 : Int) < xs.length := by omega
    have hv := lives_any w
    go_enter Try.func5, Try.ntmps5
    go_wp2_with (go_at_call 9; refine hv.mono ?_; rintro e w2 ⟨rfl, hb2⟩)
    go_ret
    exact ⟨rfl, hb2⟩
  · have k : ¬ (30 : Int) < xs.length := by omega
    go_enter Try.func5, Try.ntmps5
    go_wp2_with fail
    go_loopw [3, 16] (fun u q wr => ∃ j : Nat, j ≤ xs.length ∧ q = .int .i64 (j : Int) ∧ Own wr w.heap.size u (putsL (xs.take j)) ∧ (∀ x ∈ xs.take j, x.fit) ∧ Below w.heap.size w wr) (fun _ q _ => 30 - (intOf q).toNat)
    case atStart => exact ⟨0, Nat.zero_le _, rfl, own_nil _ _, by simp, Below.refl _ _⟩
    case round =>
      obtain ⟨j, hj, rfl, hrow, hfit, hB⟩ := hrel
      by_cases hlt : j < xs.length
      · obtain ⟨x, hx⟩ : ∃ x, xs[j]? = some x := ⟨xs[j], by simp⟩
        obtain ⟨⟨b, o, rfl, d0, d1, d2, d3, d4⟩, d5⟩ := (hv.below hB) j x hx
        have hxok := hok x (List.mem_of_getElem? hx)
        have k1 : (j : Int) < xs.length := by omega
        have k2 : (0 : Int) ≤ j := by omega
        obtain ⟨a1, c1, rfl, hy⟩ := hrow.byts
        have hlen := putsL_len (xs.take j) hfit
        rw [List.length_take, Nat.min_eq_left (by omega)] at hlen
        by_cases hf : x.fit
        · have f1 : ¬ (200 : Int) < x.s.size := by have := hf.1; omega
          have f2 : ¬ (50 : Int) < x.l.length := by have := hf.2; omega
          have hb1 : But [] wr (wr.alloc (.cells #[.int .i64 x.k, .int .u64 x.n, .int .i64 x.i, .string x.s, .slice x.a x.l.length x.c] 26)) := (But.refl [] wr).alloc _
          have hy1 := (hy.but hb1 (by simp)).up hb1.size
          have hi1 := d5.below hb1.to_below
          have hc := put_any hy1 (by omega) x hxok hf hi1
          have HS : Hid (putsL (xs.take (j + 1)) = putsL (xs.take j) ++ putL x) := Hid.mk (putsL_snoc hx)
          have HF : Hid (∀ y ∈ xs.take (j + 1), y.fit) := Hid.mk (fun y hy => by
            rw [List.take_add_one, hx] at hy
            rcases List.mem_append.1 hy with hy | hy
            · exact hfit y hy
            · simp at hy
              rw [hy]
              exact hf)
          have Hx := Hid.mk hx
          clear hx hlen hi1 hy1 hy
          go_wp2_with (go_at_call 27; refine hc.mono ?_; rintro e w3 ⟨v3, rfl, ho3, hb3⟩)
          go_roundw
          case rel => exact ⟨j + 1, by omega, by simp, by rw [HS.out]; exact ho3.lower (by have := hB.size; simp; omega), HF.out, (hB.alloc hB.size _).trans (hb3.mono (by have := hB.size; simp; omega))⟩
          case measure =>
            simp [intOf]
            omega
        · have hlv := fun W => lives_any W
          rcases (show 200 < x.s.size ∨ (x.s.size ≤ 200 ∧ 50 < x.l.length) by
            by_cases h1 : x.s.size ≤ 200
            · by_cases h2 : x.l.length ≤ 50
              · exact absurd ⟨h1, h2⟩ hf
              · exact .inr ⟨h1, by omega⟩
            · exact .inl (by omega)) with g | ⟨g, g'⟩
          · have f1 : (200 : Int) < x.s.size := by omega
            clear hx hlen
            go_wp2_with (go_at_call 9; refine (hlv _).mono ?_; rintro e w3 ⟨rfl, hb3⟩)
            go_ret
            exact ⟨rfl, (hB.alloc hB.size _).trans (hb3.mono (by have := hB.size; simp; omega))⟩
          · have f1 : ¬ (200 : Int) < x.s.size := by omega
            have f2 : (50 : Int) < x.l.length := by omega
            clear hx hlen
            go_wp2_with (go_at_call 9; refine (hlv _).mono ?_; rintro e w3 ⟨rfl, hb3⟩)
            go_ret
            exact ⟨rfl, (hB.alloc hB.size _).trans (hb3.mono (by have := hB.size; simp; omega))⟩
      · obtain rfl : j = xs.length := by omega
        rw [List.take_length] at hrow hfit
        have hlen := putsL_len xs hfit
        obtain ⟨a1, c1, rfl, hy⟩ := hrow.byts
        have hR := read_any hy (by omega)
        clear hlt hj hrow hy
        go_wp2_with (go_at_call 20; refine hR.mono ?_; rintro e w1 ⟨S, rfl, hS, hq0, hb0⟩)
        have hSw : w.heap.size ≤ S := Nat.le_trans hB.size hS
        replace hB := hB.trans (hb0.mono hB.size)
        clear hb0 hS hR
        go_loopw [9, 39] (fun _ q wr => ∃ j : Nat, j ≤ xs.length ∧ q = .int .i64 (j : Int) ∧ SQ wr S (0, putsL (xs.drop j)) ∧ Below w.heap.size w wr) (fun _ q _ => 30 - (intOf q).toNat)
        case atStart => exact ⟨0, Nat.zero_le _, rfl, hq0, hB⟩
        case round =>
          obtain ⟨j, hj, rfl, hq, hB⟩ := hrel
          by_cases hlt : j < xs.length
          · obtain ⟨x, hx⟩ : ∃ x, xs[j]? = some x := ⟨xs[j], by simp⟩
            obtain ⟨⟨b, o, rfl, d0, d1, d2, d3, d4⟩, d5⟩ := (hv.below hB) j x hx
            have d6 := (hv j x hx).2
            have hxok := hok x (List.mem_of_getElem? hx)
            have hxf := hfit x (List.mem_of_getElem? hx)
            rw [putsL_drop hx] at hq
            obtain ⟨rest, hrest⟩ : ∃ r, putsL (xs.drop (j + 1)) = r := ⟨_, rfl⟩
            have HRL : rest.length ≤ 80000 := by
              have := putsL_len (xs.drop (j + 1)) (fun y hy => hfit y (List.mem_of_mem_drop hy))
              rw [hrest, List.length_drop] at this
              omega
            rw [hrest] at hq
            have HR := Hid.mk hrest
            have k1 : (j : Int) < xs.length := by omega
            have k2 : (0 : Int) ≤ j := by omega
            clear hx hrest hq0
            obtain ⟨k, n, i, s, p, pc, l⟩ := x
            obtain ⟨hk, hn, hii, hl⟩ := hxok
            obtain ⟨hf1, hf2⟩ := hxf
            simp only at hk hn hii hl hf1 hf2 d0 d1 d2 d3 d4 d5 d6
            obtain ⟨N, rfl⟩ : ∃ N : Nat, n = (N : Int) := ⟨n.toNat, by have := hn.1; omega⟩
            have hN2 : N < 2 ^ 64 := by have := hn.2; omega
            have hb1 : But [] wr (wr.alloc (.cells #[.int .i64 k, .int .u64 (N : Int), .int .i64 i, .string s, .slice p l.length pc] 26)) := (But.refl [] wr).alloc _
            have hq1 := hq.keep hb1
            have hi1 := d5.below hb1.to_below
            have hSl := hq.lt
            have hBX : ∀ {w'}, But [S] (wr.alloc (.cells #[.int .i64 k, .int .u64 (N : Int), .int .i64 i, .string s, .slice p l.length pc] 26)).drew w' → Below w.heap.size w w' := fun hb => (hB.alloc hB.size _).drew.trans (hb.below (by have := hB.size; simp; omega) (by simpa using hSw))
            have hi1d : ∀ {w'}, But [S] (wr.alloc (.cells #[.int .i64 k, .int .u64 (N : Int), .int .i64 i, .string s, .slice p l.length pc] 26)).drew w' → IntsAt w' p l := fun hb => d6.below (hBX hb)
            obtain ⟨c0, c1, c2, c3, c4⟩ := ValAt.new wr ⟨k, N, i, s, p, pc, l⟩
            simp only at c0 c1 c2 c3 c4
            clear hb1 hi1
            by_cases q0 : k = 0
            · skip
              subst q0
              have e : putL ⟨0, N, i, s, p, pc, l⟩ = numL N := by simp [putL]
              rw [e] at hq1
              clear e
              have hc := back0 N hN2 (hq1.keep (But.refl [] _).drew)
              go_wp2_with fail
              generalize hW1 : wr.alloc (.cells #[.int .i64 0, .int .u64 (N : Int), .int .i64 i, .string s, .slice p l.length pc] 26) = W1 at *
              clear hW1
              refine wp_region_held_drew (S := (fun w' => w'.cell? ⟨wr.heap.size, 1, none⟩ = some (.int .u64 (N : Int)))) (by kernel_rfl) c1 (fun hHeld => ?_)
              refine anyH_take (i := 0) (v := ?_) (some 53) rfl rfl (by kernel_rfl) (fun _ _ _ h => h) (Or.inl ⟨by rfl, ?_⟩) (by assumption) ?_
              rotate_left
              · (intro w hSw; go_simp; all_goals with_reducible rfl)
              try simp only [Act.put, List.setIfInBounds_toArray, List.set_cons_zero, List.set_cons_succ]
              refine anyH_take (i := 2) (v := ?_) (some 55) rfl rfl (by kernel_rfl) (fun _ _ _ h => h) (Or.inl ⟨by rfl, ?_⟩) (by assumption) ?_
              rotate_left
              · (intro w hSw; go_simp; all_goals with_reducible rfl)
              try simp only [Act.put, List.setIfInBounds_toArray, List.set_cons_zero, List.set_cons_succ]
              refine anyH_take (i := 3) (v := ?_) (some 56) rfl rfl (by kernel_rfl) (fun _ _ _ h => h) (Or.inl ⟨by rfl, ?_⟩) (by assumption) ?_
              rotate_left
              · (intro w hSw; go_simp; all_goals with_reducible rfl)
              try simp only [Act.put, List.setIfInBounds_toArray, List.set_cons_zero, List.set_cons_succ]
              refine anyH_one (i := 1) (by kernel_rfl) rfl (fun K hK => ?_)
              go_simp
              go_at_call 28
              refine hc.mono ?_
              rintro e w2 ⟨rfl, hb2, hq2⟩
              refine hK.out _ _ (hb2.cell' hHeld (by simp; omega)) (fun hHeld => ?_)
              clear hK K
              try simp only [Act.put, List.setIfInBounds_toArray, List.set_cons_zero, List.set_cons_succ]
              refine anyH_take (i := 4) (v := ?_) (some 57) rfl rfl (by kernel_rfl) (fun _ _ _ h => h) (Or.inl ⟨by rfl, ?_⟩) (by assumption) ?_
              rotate_left
              · (intro w hSw; go_simp; all_goals with_reducible rfl)
              try simp only [Act.put, List.setIfInBounds_toArray, List.set_cons_zero, List.set_cons_succ]
              refine anyH_take (i := 5) (v := ?_) (some 9) rfl rfl (by kernel_rfl) (fun _ _ _ h => h) (Or.inl ⟨by rfl, ?_⟩) (by assumption) ?_
              rotate_left
              · (intro w hSw; go_simp; all_goals with_reducible rfl)
              try simp only [Act.put, List.setIfInBounds_toArray, List.set_cons_zero, List.set_cons_succ]
              refine wpAnyH_done (by kernel_rfl) ?_ _
              have hE := err_sq hq2
              go_wp2_with (go_at_call 23; refine hE.mono ?_; rintro e w3 ⟨rfl, rfl⟩)
              go_roundw
              case rel => exact ⟨j + 1, by omega, by simp, by rw [HR.out]; exact hq2, hBX hb2⟩
              case measure =>
                simp [intOf]
                omega
            by_cases q1 : k = 1
            · skip
              subst q1
              have e : putL ⟨1, N, i, s, p, pc, l⟩ = numL (zigN i) := by simp [putL]
              rw [e] at hq1
              clear e
              have hc := back1 i hii (hq1.keep (But.refl [] _).drew)
              go_wp2_with fail
              generalize hW1 : wr.alloc (.cells #[.int .i64 1, .int .u64 (N : Int), .int .i64 i, .string s, .slice p l.length pc] 26) = W1 at *
              clear hW1
              refine wp_region_held_drew (S := (fun w' => w'.cell? ⟨wr.heap.size, 2, none⟩ = some (.int .i64 i))) (by kernel_rfl) c2 (fun hHeld => ?_)
              refine anyH_take (i := 0) (v := ?_) (some 60) rfl rfl (by kernel_rfl) (fun _ _ _ h => h) (Or.inl ⟨by rfl, ?_⟩) (by assumption) ?_
              rotate_left
              · (intro w hSw; go_simp; all_goals with_reducible rfl)
              try simp only [Act.put, List.setIfInBounds_toArray, List.set_cons_zero, List.set_cons_succ]
              refine anyH_take (i := 2) (v := ?_) (some 62) rfl rfl (by kernel_rfl) (fun _ _ _ h => h) (Or.inl ⟨by rfl, ?_⟩) (by assumption) ?_
              rotate_left
              · (intro w hSw; go_simp; all_goals with_reducible rfl)
              try simp only [Act.put, List.setIfInBounds_toArray, List.set_cons_zero, List.set_cons_succ]
              refine anyH_take (i := 3) (v := ?_) (some 63) rfl rfl (by kernel_rfl) (fun _ _ _ h => h) (Or.inl ⟨by rfl, ?_⟩) (by assumption) ?_
              rotate_left
              · (intro w hSw; go_simp; all_goals with_reducible rfl)
              try simp only [Act.put, List.setIfInBounds_toArray, List.set_cons_zero, List.set_cons_succ]
              refine anyH_one (i := 1) (by kernel_rfl) rfl (fun K hK => ?_)
              go_simp
              go_at_call 29
              refine hc.mono ?_
              rintro e w2 ⟨rfl, hb2, hq2⟩
              refine hK.out _ _ (hb2.cell' hHeld (by simp; omega)) (fun hHeld => ?_)
              clear hK K
              try simp only [Act.put, List.setIfInBounds_toArray, List.set_cons_zero, List.set_cons_succ]
              refine anyH_take (i := 4) (v := ?_) (some 64) rfl rfl (by kernel_rfl) (fun _ _ _ h => h) (Or.inl ⟨by rfl, ?_⟩) (by assumption) ?_
              rotate_left
              · (intro w hSw; go_simp; all_goals with_reducible rfl)
              try simp only [Act.put, List.setIfInBounds_toArray, List.set_cons_zero, List.set_cons_succ]
              refine anyH_take (i := 5) (v := ?_) (some 9) rfl rfl (by kernel_rfl) (fun _ _ _ h => h) (Or.inl ⟨by rfl, ?_⟩) (by assumption) ?_
              rotate_left
              · (intro w hSw; go_simp; all_goals with_reducible rfl)
              try simp only [Act.put, List.setIfInBounds_toArray, List.set_cons_zero, List.set_cons_succ]
              refine wpAnyH_done (by kernel_rfl) ?_ _
              have hE := err_sq hq2
              go_wp2_with (go_at_call 23; refine hE.mono ?_; rintro e w3 ⟨rfl, rfl⟩)
              go_roundw
              case rel => exact ⟨j + 1, by omega, by simp, by rw [HR.out]; exact hq2, hBX hb2⟩
              case measure =>
                simp [intOf]
                omega
            by_cases q2 : k = 2
            · skip
              subst q2
              have e : putL ⟨2, N, i, s, p, pc, l⟩ = numL s.size ++ s.data.toList := by simp [putL]
              rw [e] at hq1
              clear e
              have hc := back2 s hf1 (hq1.keep (But.refl [] _).drew)
              go_wp2_with fail
              generalize hW1 : wr.alloc (.cells #[.int .i64 2, .int .u64 (N : Int), .int .i64 i, .string s, .slice p l.length pc] 26) = W1 at *
              clear hW1
              refine wp_region_held_drew (S := (fun w' => w'.cell? ⟨wr.heap.size, 3, none⟩ = some (.string s))) (by kernel_rfl) c3 (fun hHeld => ?_)
              refine anyH_take (i := 0) (v := ?_) (some 67) rfl rfl (by kernel_rfl) (fun _ _ _ h => h) (Or.inl ⟨by rfl, ?_⟩) (by assumption) ?_
              rotate_left
              · (intro w hSw; go_simp; all_goals with_reducible rfl)
              try simp only [Act.put, List.setIfInBounds_toArray, List.set_cons_zero, List.set_cons_succ]
              refine anyH_take (i := 2) (v := ?_) (some 69) rfl rfl (by kernel_rfl) (fun _ _ _ h => h) (Or.inl ⟨by rfl, ?_⟩) (by assumption) ?_
              rotate_left
              · (intro w hSw; go_simp; all_goals with_reducible rfl)
              try simp only [Act.put, List.setIfInBounds_toArray, List.set_cons_zero, List.set_cons_succ]
              refine anyH_take (i := 3) (v := ?_) (some 70) rfl rfl (by kernel_rfl) (fun _ _ _ h => h) (Or.inl ⟨by rfl, ?_⟩) (by assumption) ?_
              rotate_left
              · (intro w hSw; go_simp; all_goals with_reducible rfl)
              try simp only [Act.put, List.setIfInBounds_toArray, List.set_cons_zero, List.set_cons_succ]
              refine anyH_one (i := 1) (by kernel_rfl) rfl (fun K hK => ?_)
              go_simp
              go_at_call 30
              refine hc.mono ?_
              rintro e w2 ⟨rfl, hb2, hq2⟩
              refine hK.out _ _ (hb2.cell' hHeld (by simp; omega)) (fun hHeld => ?_)
              clear hK K
              try simp only [Act.put, List.setIfInBounds_toArray, List.set_cons_zero, List.set_cons_succ]
              refine anyH_take (i := 4) (v := ?_) (some 71) rfl rfl (by kernel_rfl) (fun _ _ _ h => h) (Or.inl ⟨by rfl, ?_⟩) (by assumption) ?_
              rotate_left
              · (intro w hSw; go_simp; all_goals with_reducible rfl)
              try simp only [Act.put, List.setIfInBounds_toArray, List.set_cons_zero, List.set_cons_succ]
              refine anyH_take (i := 5) (v := ?_) (some 9) rfl rfl (by kernel_rfl) (fun _ _ _ h => h) (Or.inl ⟨by rfl, ?_⟩) (by assumption) ?_
              rotate_left
              · (intro w hSw; go_simp; all_goals with_reducible rfl)
              try simp only [Act.put, List.setIfInBounds_toArray, List.set_cons_zero, List.set_cons_succ]
              refine wpAnyH_done (by kernel_rfl) ?_ _
              have hE := err_sq hq2
              go_wp2_with (go_at_call 23; refine hE.mono ?_; rintro e w3 ⟨rfl, rfl⟩)
              go_roundw
              case rel => exact ⟨j + 1, by omega, by simp, by rw [HR.out]; exact hq2, hBX hb2⟩
              case measure =>
                simp [intOf]
                omega
            by_cases q3 : k = 3
            · skip
              subst q3
              have e : putL ⟨3, N, i, s, p, pc, l⟩ = [if decide (0 < i) then 1 else 0] := by simp [putL]
              rw [e] at hq1
              clear e
              have hc := back3 (decide (0 < i)) (hq1.keep (But.refl [] _).drew)
              go_wp2_with fail
              generalize hW1 : wr.alloc (.cells #[.int .i64 3, .int .u64 (N : Int), .int .i64 i, .string s, .slice p l.length pc] 26) = W1 at *
              clear hW1
              refine wp_region_held_drew (S := (fun w' => w'.cell? ⟨wr.heap.size, 2, none⟩ = some (.int .i64 i))) (by kernel_rfl) c2 (fun hHeld => ?_)
              refine anyH_take (i := 0) (v := ?_) (some 74) rfl rfl (by kernel_rfl) (fun _ _ _ h => h) (Or.inl ⟨by rfl, ?_⟩) (by assumption) ?_
              rotate_left
              · (intro w hSw; go_simp; all_goals with_reducible rfl)
              try simp only [Act.put, List.setIfInBounds_toArray, List.set_cons_zero, List.set_cons_succ]
              refine anyH_take (i := 2) (v := ?_) (some 76) rfl rfl (by kernel_rfl) (fun _ _ _ h => h) (Or.inl ⟨by rfl, ?_⟩) (by assumption) ?_
              rotate_left
              · (intro w hSw; go_simp; all_goals with_reducible rfl)
              try simp only [Act.put, List.setIfInBounds_toArray, List.set_cons_zero, List.set_cons_succ]
              refine anyH_take (i := 3) (v := ?_) (some 77) rfl rfl (by kernel_rfl) (fun _ _ _ h => h) (Or.inl ⟨by rfl, ?_⟩) (by assumption) ?_
              rotate_left
              · (intro w hSw; go_simp; all_goals with_reducible rfl)
              try simp only [Act.put, List.setIfInBounds_toArray, List.set_cons_zero, List.set_cons_succ]
              refine anyH_take (i := 4) (v := ?_) (some 78) rfl rfl (by kernel_rfl) (fun _ _ _ h => h) (Or.inl ⟨by rfl, ?_⟩) (by assumption) ?_
              rotate_left
              · (intro w hSw; go_simp; all_goals with_reducible rfl)
              try simp only [Act.put, List.setIfInBounds_toArray, List.set_cons_zero, List.set_cons_succ]
              refine anyH_one (i := 1) (by kernel_rfl) rfl (fun K hK => ?_)
              go_simp
              go_at_call 31
              refine hc.mono ?_
              rintro e w2 ⟨rfl, hb2, hq2⟩
              refine hK.out _ _ (hb2.cell' hHeld (by simp; omega)) (fun hHeld => ?_)
              clear hK K
              try simp only [Act.put, List.setIfInBounds_toArray, List.set_cons_zero, List.set_cons_succ]
              refine anyH_take (i := 5) (v := ?_) (some 79) rfl rfl (by kernel_rfl) (fun _ _ _ h => h) (Or.inl ⟨by rfl, ?_⟩) (by assumption) ?_
              rotate_left
              · (intro w hSw; go_simp; all_goals with_reducible rfl)
              try simp only [Act.put, List.setIfInBounds_toArray, List.set_cons_zero, List.set_cons_succ]
              refine anyH_take (i := 6) (v := ?_) (some 9) rfl rfl (by kernel_rfl) (fun _ _ _ h => h) (Or.inl ⟨by rfl, ?_⟩) (by assumption) ?_
              rotate_left
              · (intro w hSw; go_simp; all_goals with_reducible rfl)
              try simp only [Act.put, List.setIfInBounds_toArray, List.set_cons_zero, List.set_cons_succ]
              refine wpAnyH_done (by kernel_rfl) ?_ _
              have hE := err_sq hq2
              go_wp2_with (go_at_call 23; refine hE.mono ?_; rintro e w3 ⟨rfl, rfl⟩)
              go_roundw
              case rel => exact ⟨j + 1, by omega, by simp, by rw [HR.out]; exact hq2, hBX hb2⟩
              case measure =>
                simp [intOf]
                omega
            by_cases q4 : k = 4
            · skip
              subst q4
              have e : putL ⟨4, N, i, s, p, pc, l⟩ = intsL l := by simp [putL]
              rw [e] at hq1
              clear e
              have hc := back4 l hf2 hl HRL (hq1.keep (But.refl [] _).drew)
              go_wp2_with fail
              generalize hW1 : wr.alloc (.cells #[.int .i64 4, .int .u64 (N : Int), .int .i64 i, .string s, .slice p l.length pc] 26) = W1 at *
              clear hW1
              refine wp_region_held_drew (S := (fun w' => w'.cell? ⟨wr.heap.size, 4, none⟩ = some (.slice p l.length pc))) (by kernel_rfl) c4 (fun hHeld => ?_)
              refine anyH_take (i := 0) (v := ?_) (some 82) rfl rfl (by kernel_rfl) (fun _ _ _ h => h) (Or.inl ⟨by rfl, ?_⟩) (by assumption) ?_
              rotate_left
              · (intro w hSw; go_simp; all_goals with_reducible rfl)
              try simp only [Act.put, List.setIfInBounds_toArray, List.set_cons_zero, List.set_cons_succ]
              refine anyH_take (i := 2) (v := ?_) (some 84) rfl rfl (by kernel_rfl) (fun _ _ _ h => h) (Or.inl ⟨by rfl, ?_⟩) (by assumption) ?_
              rotate_left
              · (intro w hSw; go_simp; all_goals with_reducible rfl)
              try simp only [Act.put, List.setIfInBounds_toArray, List.set_cons_zero, List.set_cons_succ]
              refine anyH_take (i := 3) (v := ?_) (some 85) rfl rfl (by kernel_rfl) (fun _ _ _ h => h) (Or.inl ⟨by rfl, ?_⟩) (by assumption) ?_
              rotate_left
              · (intro w hSw; go_simp; all_goals with_reducible rfl)
              try simp only [Act.put, List.setIfInBounds_toArray, List.set_cons_zero, List.set_cons_succ]
              refine anyH_one (i := 1) (by kernel_rfl) rfl (fun K hK => ?_)
              go_simp
              go_at_call 33
              refine hc.mono ?_
              rintro e w2 ⟨⟨v2, rfl, hrow2⟩, hb2, hq2⟩
              refine hK.out _ _ (hb2.cell' hHeld (by simp; omega)) (fun hHeld => ?_)
              clear hK K
              try simp only [Act.put, List.setIfInBounds_toArray, List.set_cons_zero, List.set_cons_succ]
              obtain ⟨pa, pcc, rfl, hpa⟩ := hrow2.at
              have hpb := hi1d hb2
              refine anyH_one (i := 4) (by kernel_rfl) rfl (fun K hK => ?_)
              go_simp
              go_at_call 32
              refine (ints_any _ _ _ _ l w2 (by omega) hpa hpb).mono ?_
              rintro e w4 ⟨rfl, hb4⟩
              refine hK.out _ _ (hb4.cell hHeld) (fun hHeld => ?_)
              clear hK K
              try simp only [Act.put, List.setIfInBounds_toArray, List.set_cons_zero, List.set_cons_succ]
              refine anyH_take (i := 5) (v := ?_) (some 9) rfl rfl (by kernel_rfl) (fun _ _ _ h => h) (Or.inl ⟨by rfl, ?_⟩) (by assumption) ?_
              rotate_left
              · (intro w hSw; go_simp; all_goals with_reducible rfl)
              try simp only [Act.put, List.setIfInBounds_toArray, List.set_cons_zero, List.set_cons_succ]
              replace hq2 := hq2.keep hb4
              replace hb2 := hb2.trans hb4.wide
              refine wpAnyH_done (by kernel_rfl) ?_ _
              have hE := err_sq hq2
              go_wp2_with (go_at_call 23; refine hE.mono ?_; rintro e w3 ⟨rfl, rfl⟩)
              go_roundw
              case rel => exact ⟨j + 1, by omega, by simp, by rw [HR.out]; exact hq2, hBX hb2⟩
              case measure =>
                simp [intOf]
                omega
            · skip
              have e : putL ⟨k, N, i, s, p, pc, l⟩ = [UInt8.ofNat (N % 256)] := by simp [putL, q0, q1, q2, q3, q4]
              rw [e] at hq1
              clear e
              have hc := back5 (UInt8.ofNat (N % 256)) (hq1.keep (But.refl [] _).drew)
              have HX : Hid ((N : Int) % 256 = ((UInt8.ofNat (N % 256)).toNat : Int)) := Hid.mk (by rw [u8_small (by omega)]; omega)
              generalize UInt8.ofNat (N % 256) = b at *
              have hcv : ∀ W, (convert 23 5 (.int .u64 (N : Int))).run Try.prog W = .ok (.int .u8 (b.toNat : Int)) W := fun W => by
                rw [← HX.out]
                simp [convert, run_underlying Try.underlying23, run_underlying Try.underlying5, go_sem, IntKind.wrap_u8]
              clear HX
              go_wp2_with fail
              generalize hW1 : wr.alloc (.cells #[.int .i64 k, .int .u64 (N : Int), .int .i64 i, .string s, .slice p l.length pc] 26) = W1 at *
              clear hW1
              refine wp_region_held_drew (S := (fun w' => w'.cell? ⟨wr.heap.size, 1, none⟩ = some (.int .u64 (N : Int)))) (by kernel_rfl) c1 (fun hHeld => ?_)
              refine anyH_take (i := 0) (v := ?_) (some 45) rfl rfl (by kernel_rfl) (fun _ _ _ h => h) (Or.inl ⟨by rfl, ?_⟩) (by assumption) ?_
              rotate_left
              · (intro w hSw; go_simp; all_goals with_reducible rfl)
              try simp only [Act.put, List.setIfInBounds_toArray, List.set_cons_zero, List.set_cons_succ]
              refine anyH_take (i := 2) (v := ?_) (some 47) rfl rfl (by kernel_rfl) (fun _ _ _ h => h) (Or.inl ⟨by rfl, ?_⟩) (by assumption) ?_
              rotate_left
              · (intro w hSw; go_simp; all_goals with_reducible rfl)
              try simp only [Act.put, List.setIfInBounds_toArray, List.set_cons_zero, List.set_cons_succ]
              refine anyH_take (i := 3) (v := ?_) (some 48) rfl rfl (by kernel_rfl) (fun _ _ _ h => h) (Or.inl ⟨by rfl, ?_⟩) (by assumption) ?_
              rotate_left
              · (intro w hSw; go_simp; all_goals with_reducible rfl)
              try simp only [Act.put, List.setIfInBounds_toArray, List.set_cons_zero, List.set_cons_succ]
              refine anyH_take (i := 4) (v := ?_) (some 49) rfl rfl (by kernel_rfl) (fun _ _ _ h => h) (Or.inl ⟨by rfl, ?_⟩) (by assumption) ?_
              rotate_left
              · (intro w hSw; go_simp; all_goals with_reducible rfl)
              try simp only [Act.put, List.setIfInBounds_toArray, List.set_cons_zero, List.set_cons_succ]
              refine anyH_one (i := 1) (by kernel_rfl) rfl (fun K hK => ?_)
              go_simp
              go_at_call 34
              refine hc.mono ?_
              rintro e w2 ⟨rfl, hb2, hq2⟩
              refine hK.out _ _ (hb2.cell' hHeld (by simp; omega)) (fun hHeld => ?_)
              clear hK K
              try simp only [Act.put, List.setIfInBounds_toArray, List.set_cons_zero, List.set_cons_succ]
              refine anyH_take (i := 5) (v := ?_) (some 50) rfl rfl (by kernel_rfl) (fun _ _ _ h => h) (Or.inl ⟨by rfl, ?_⟩) (by assumption) ?_
              rotate_left
              · (intro w hSw; go_simp; all_goals with_reducible rfl)
              try simp only [Act.put, List.setIfInBounds_toArray, List.set_cons_zero, List.set_cons_succ]
              refine anyH_take (i := 6) (v := ?_) (some 9) rfl rfl (by kernel_rfl) (fun _ _ _ h => h) (Or.inl ⟨by rfl, ?_⟩) (by assumption) ?_
              rotate_left
              · (intro w hSw; go_simp; all_goals with_reducible rfl)
              try simp only [Act.put, List.setIfInBounds_toArray, List.set_cons_zero, List.set_cons_succ]
              refine wpAnyH_done (by kernel_rfl) ?_ _
              have hE := err_sq hq2
              go_wp2_with (go_at_call 23; refine hE.mono ?_; rintro e w3 ⟨rfl, rfl⟩)
              go_roundw
              case rel => exact ⟨j + 1, by omega, by simp, by rw [HR.out]; exact hq2, hBX hb2⟩
              case measure =>
                simp [intOf]
                omega
          · obtain rfl : j = xs.length := by omega
            have e0 : putsL (xs.drop xs.length) = [] := by simp [putsL]
            rw [e0] at hq
            have hE := end_any S _ _ hq
            have hL := left_any S _ _ hq
            have hlv := lives_any wr
            have e1 : endN (0, []) = 0 := rfl
            rw [e1] at hE
            clear e0 e1
            go_wp2_with (first
              | (go_at_call 25; refine hE.mono ?_; rintro e w3 ⟨rfl, rfl⟩)
              | (go_at_call 24; refine hL.mono ?_; rintro e w3 ⟨rfl, rfl⟩)
              | (go_at_call 9; refine hlv.mono ?_; rintro e w3 ⟨rfl, hb3⟩))
            go_ret
            exact ⟨rfl, hB.trans (hb3.mono hB.size)⟩

end Go.Proofs.Ytdndpncbagjidaa
