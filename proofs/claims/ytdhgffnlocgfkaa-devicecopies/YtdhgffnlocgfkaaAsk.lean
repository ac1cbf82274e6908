/- Contracts of Cancel, Len, Done, All, Copy. -/
import Derived.Test.YtdhgffnlocgfkaaCan
namespace Go.Proofs.Ytdhgffnlocgfkaa
open Go.RowKit

theorem canX_le (xs : List Rq) (s : Int) : (canX xs s).length ≤ xs.length := List.length_filter_le _ _

section
variable {w : World} {B N la dn : Nat} {T : List Nat} {xs : List Rq}

set_option maxHeartbeats 1000000 in
theorem cancel_any (h : DQ w B T N la dn xs) (s : Int) :
    Calls Try.prog 20 #[.pointer (some ⟨B, 0, none⟩), .int .i64 s] w fun e w' => e = .returned (.int .i64 (canN xs s)) ∧ ∃ T', DQ w' B T' N la dn (canX xs s) ∧ Step T w T' w' := by
  obtain ⟨v, rfl, hm, hl, ho⟩ := h
  have hma := hm.keep ((But.refl [] w).alloc (.cells #[.int .i64 s] 3))
  have sa : Step (bks B v) w (bks B v) (w.alloc (.cells #[.int .i64 s] 3)) := Step.keep ((But.refl [] w).alloc _)
  have MA := made_any hma
  have hX : (w.alloc (.cells #[.int .i64 s] 3)).cell? ⟨w.heap.size, 0, none⟩ = some (.int .i64 s) := by simp [go_sem]
  obtain ⟨sl, c, rfl, -, -, -⟩ := hm.shape
  have hXo : (Value.slice sl xs.length c).ownBlock ≠ some w.heap.size := fun e => by have := hm.lt (bks_v e); omega
  have n4 : xs.length ≤ 4096 := Nat.le_trans hl hm.n2
  have DF := delf_any hma.h hX hXo n4
  have c3 := hma.c3
  have hle := canX_le xs s
  have hN : Hid (canN xs s = (xs.length : Int) - ((canX xs s).length : Int)) := rfl
  have hO := ho.can s
  have hL := can_len hl s
  generalize canN xs s = cn at *
  generalize canX xs s = ys at *
  have hle' : (ys.length : Int) ≤ (xs.length : Int) := by omega
  have hw1 : IntKind.i64.wrap ((xs.length : Int) - (ys.length : Int)) = (xs.length : Int) - (ys.length : Int) := by rw [IntKind.wrap_i64]; omega
  go_enter Try.func20, Try.ntmps20
  go_wp2_with (first
    | (go_at_call 29; refine MA.mono ?_; rintro e w1 ⟨rfl, hw⟩; subst w1)
    | (go_at_call 35; (with_reducible refine DF.mono ?_); rintro e w5 ⟨v5, rfl, ho5, hv5, b5⟩; obtain ⟨k5, s5, f0, f1⟩ := hma.row b5 ho5 (.inl hv5); obtain ⟨a5, c5, rfl⟩ := ho5.at_ (n := ys.length) rfl; have g0 := k5.c3))
  go_ret
  exact ⟨by rw [hN.out]; rfl, _, ⟨_, rfl, k5, hL, hO⟩, sa.trans s5⟩

theorem count_any {v : Value} (h : DM w B N v la dn xs) :
    Calls Try.prog 25 #[.pointer (some ⟨B, 0, none⟩)] w fun e w' => e = .returned (.int .i64 xs.length) ∧ w' = w := by
  obtain ⟨sl, c, rfl, -, -, -⟩ := h.shape
  have c3 := h.c3
  go_enter Try.func25, Try.ntmps25
  go_wp2_with fail
  go_ret
  exact ⟨rfl, rfl⟩
theorem done_m {v : Value} (h : DM w B N v la dn xs) :
    Calls Try.prog 26 #[.pointer (some ⟨B, 0, none⟩)] w fun e w' => e = .returned (.int .i64 dn) ∧ w' = w := by
  have c2 := h.c2
  go_enter Try.func26, Try.ntmps26
  go_wp2_with fail
  go_ret
  exact ⟨rfl, rfl⟩
theorem asklen {v : Value} (h : DM w B N v la dn xs) :
    Calls Try.prog 24 #[.pointer (some ⟨B, 0, none⟩), .func (.func 25) #[] #[]] w fun e w' => e = .returned (.int .i64 xs.length) ∧ w' = w := by
  have MA := made_any h
  have CO := count_any h
  go_enter Try.func24, Try.ntmps24
  go_wp2_with (first
    | (go_at_call 29; refine MA.mono ?_; rintro e w1 ⟨rfl, hw⟩; subst w1)
    | (go_at_call 25; refine CO.mono ?_; rintro e w1 ⟨rfl, hw⟩; subst w1))
  go_ret
  exact ⟨rfl, rfl⟩
theorem askdone {v : Value} (h : DM w B N v la dn xs) :
    Calls Try.prog 24 #[.pointer (some ⟨B, 0, none⟩), .func (.func 26) #[] #[]] w fun e w' => e = .returned (.int .i64 dn) ∧ w' = w := by
  have MA := made_any h
  have CO := done_m h
  go_enter Try.func24, Try.ntmps24
  go_wp2_with (first
    | (go_at_call 29; refine MA.mono ?_; rintro e w1 ⟨rfl, hw⟩; subst w1)
    | (go_at_call 26; refine CO.mono ?_; rintro e w1 ⟨rfl, hw⟩; subst w1))
  go_ret
  exact ⟨rfl, rfl⟩
theorem len_any (h : DQ w B T N la dn xs) :
    Calls Try.prog 11 #[.pointer (some ⟨B, 0, none⟩)] w fun e w' => e = .returned (.int .i64 xs.length) ∧ w' = w := by
  obtain ⟨v, rfl, hm, hl, ho⟩ := h
  have A := asklen hm
  go_enter Try.func11, Try.ntmps11
  go_wp2_with (first
    | (go_at_call 24; refine A.mono ?_; rintro e w1 ⟨rfl, hw⟩; subst w1))
  go_ret
  exact ⟨rfl, rfl⟩
theorem done_any (h : DQ w B T N la dn xs) :
    Calls Try.prog 12 #[.pointer (some ⟨B, 0, none⟩)] w fun e w' => e = .returned (.int .i64 dn) ∧ w' = w := by
  obtain ⟨v, rfl, hm, hl, ho⟩ := h
  have A := askdone hm
  go_enter Try.func12, Try.ntmps12
  go_wp2_with (first
    | (go_at_call 24; refine A.mono ?_; rintro e w1 ⟨rfl, hw⟩; subst w1))
  go_ret
  exact ⟨rfl, rfl⟩
end
end Go.Proofs.Ytdhgffnlocgfkaa
