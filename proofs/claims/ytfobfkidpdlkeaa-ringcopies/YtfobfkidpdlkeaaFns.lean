/- Contracts of a made queue's made, slot, Len, Room, grow. -/
import Derived.Test.YtfobfkidpdlkeaaMem
namespace Go.Proofs.Ytfobfkidpdlkeaa
open Go.RowKit

section
variable {w : World} {B G n f c : Nat} {xs : List Int}

theorem made_any (h : RM w B G n f c xs) :
    Calls Try.prog 30 #[.pointer (some ⟨B, 0, none⟩)] w fun e w' => e = .returned (.bool true) ∧ w' = w := by
  have c0 := h.c0
  have hp : 0 < n := h.pos
  go_enter Try.func30, Try.ntmps30
  go_wp2_with fail
  go_ret
  exact ⟨rfl, rfl⟩

theorem len_any (h : RM w B G n f c xs) :
    Calls Try.prog 11 #[.pointer (some ⟨B, 0, none⟩)] w fun e w' => e = .returned (.int .i64 c) ∧ w' = w := by
  have c2 := h.c2
  go_enter Try.func11, Try.ntmps11
  go_wp2_with (go_at_call 30; refine (made_any h).mono ?_; rintro e w' ⟨rfl, rfl⟩)
  go_ret
  exact ⟨rfl, rfl⟩

theorem room_any (h : RM w B G n f c xs) :
    Calls Try.prog 12 #[.pointer (some ⟨B, 0, none⟩)] w fun e w' => e = .returned (.int .i64 ((n : Int) - c)) ∧ ∃ k, w' = w.drewN k := by
  have c0 := h.c0
  have c2 := h.c2
  have h1 := h.le
  have h2 := h.cn
  go_enter Try.func12, Try.ntmps12
  go_wp2_with (go_at_call 30; refine (made_any h).mono ?_; rintro e w' ⟨rfl, rfl⟩)
  go_quiet (fail)
  go_wp2_with fail
  go_ret
  exact ⟨rfl, _, rfl⟩

theorem slot_any (h : RM w B G n f c xs) (i : Nat) (hi : i ≤ 4096) :
    Calls Try.prog 32 #[.pointer (some ⟨B, 0, none⟩), .int .i64 i] w fun e w' => e = .returned (.int .i64 (((f + i) % n : Nat) : Int)) ∧ ∃ k, w' = w.drewN k := by
  have c0 := h.c0
  have c1 := h.c1
  have h1 := h.le
  have h2 := h.fn
  have h3 : (n : Int) ≠ 0 := by have := h.pos; omega
  have e : (((f + i) % n : Nat) : Int) = ((f : Int) + (i : Int)) % (n : Int) := by simp
  rw [e]
  go_enter Try.func32, Try.ntmps32
  go_wp2_with fail
  go_quiet (fail)
  go_wp2_with fail
  go_ret
  exact ⟨rfl, _, rfl⟩

theorem grow_room (h : RM w B G n f c xs) (hc : c < n) :
    Calls Try.prog 33 #[.pointer (some ⟨B, 0, none⟩)] w fun e w' => e = .returned (.int .i64 0) ∧ RM w' B G n f (c + 1) xs ∧ But [B, G] w w' := by
  have h1 := h.le
  have e1 : ¬ ((n : Int) - (c : Int) = 0) := by omega
  go_enter Try.func33, Try.ntmps33
  go_wp2_with (first
    | (go_at_call 30; refine (made_any h).mono ?_; rintro e w' ⟨rfl, rfl⟩)
    | (go_at_call 12; refine (room_any h).mono ?_; rintro e w' ⟨rfl, k, rfl⟩; have c2 := (h.drewN k).c2; have hf := (h.drewN k).fB 2))
  go_ret
  exact ⟨rfl, (h.drewN k).setC (c' := c + 1) (by omega), ((But.refl _ _).drewN k).setB _ _⟩

theorem grow_full (h : RM w B G n f n xs) :
    Calls Try.prog 33 #[.pointer (some ⟨B, 0, none⟩)] w fun e w' => e = .returned (.int .i64 3) ∧ ∃ k, w' = w.drewN k := by
  have h1 := h.le
  go_enter Try.func33, Try.ntmps33
  go_wp2_with (first
    | (go_at_call 30; refine (made_any h).mono ?_; rintro e w' ⟨rfl, rfl⟩)
    | (go_at_call 12; refine (room_any h).mono ?_; rintro e w' ⟨rfl, k, rfl⟩))
  go_ret
  exact ⟨rfl, k, rfl⟩
end

end Go.Proofs.Ytfobfkidpdlkeaa
