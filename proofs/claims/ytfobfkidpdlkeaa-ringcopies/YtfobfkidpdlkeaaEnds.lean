/- Contracts of a made queue's Front, Pop, Back. -/
import Derived.Test.YtfobfkidpdlkeaaPush
namespace Go.Proofs.Ytfobfkidpdlkeaa
open Go.RowKit

section
variable {w : World} {B G n f c : Nat} {xs : List Int}

theorem front_full (h : RM w B G n f n xs) (x : Int) :
    Calls Try.prog 22 #[.pointer (some ⟨B, 0, none⟩), .int .i64 x] w fun e w' => e = .returned (.int .i64 3) ∧ Drawn w w' := by
  go_enter Try.func22, Try.ntmps22
  go_wp2_with (first
    | (go_at_call 33; refine (grow_full h).mono ?_; rintro e w' ⟨rfl, hk⟩))
  go_ret
  exact ⟨rfl, hk⟩

set_option maxHeartbeats 1000000 in
theorem front_room (h : RM w B G n f c xs) (hc : c < n) (x : Int) :
    Calls Try.prog 22 #[.pointer (some ⟨B, 0, none⟩), .int .i64 x] w fun e w' => e = .returned (.int .i64 0) ∧ RM w' B G n ((f + (n - 1)) % n) (c + 1) (xs.set ((f + (n - 1)) % n) x) ∧ But [B, G] w w' := by
  have h1 := h.le
  have hp := h.pos
  have hlt : (f + (n - 1)) % n < n := Nat.mod_lt _ h.pos
  have hlt' : (((f + (n - 1)) % n : Nat) : Int) < (n : Int) := by omega
  have h0 : (0 : Int) ≤ (((f + (n - 1)) % n : Nat) : Int) := by omega
  have H : ∀ W, RM W B G n f (c + 1) xs → Calls Try.prog 32 #[.pointer (some ⟨B, 0, none⟩), .int .i64 ((n : Int) - 1)] W fun e w' => e = .returned (.int .i64 (((f + (n - 1)) % n : Nat) : Int)) ∧ ∃ k, w' = W.drewN k := fun W h => by
    have := slot_any h (n - 1) (by omega)
    rwa [show ((n - 1 : Nat) : Int) = (n : Int) - 1 by omega] at this
  generalize (f + (n - 1)) % n = j at hlt hlt' h0 H ⊢
  have GR := grow_room h hc
  clear h
  go_enter Try.func22, Try.ntmps22
  go_wp2_with (first
    | (go_at_call 33; refine GR.mono ?_; rintro e w1 ⟨rfl, h, hb⟩; have c0 := h.c0)
    | (go_at_call 32; refine (H _ h).mono ?_; rintro e w2 ⟨rfl, hk⟩; have h2 := h.drawn hk; have hb2 := hb.trans (Drawn.but hk); have c1 := h2.c1; have f1 := h2.fB 1; clear c0))
  have h3 := h2.setF hlt
  have hb3 := hb2.setB 1 (.int .i64 j)
  clear H GR h h2 hb hb2 hk c1 f1
  generalize w2.setCell ⟨B, 1, none⟩ (.int .i64 j) = w3 at h3 hb3 ⊢
  have c0 := h3.c0
  have c1 := h3.c1
  obtain ⟨y, hy⟩ : ∃ y, xs[j]? = some y := ⟨_, List.getElem?_eq_getElem (by rw [h3.len]; exact hlt)⟩
  have cx := h3.x hy
  have fx := h3.fG j
  go_region
  all_goals
    go_wp2_with fail
    go_ret
    exact ⟨rfl, RM.drawn (h3.setX j x) ⟨1, rfl⟩, (hb3.setG _ _).drewN 1⟩

theorem pop_some (h : RM w B G n f c xs) (hc : 0 < c) {x : Int} (hx : xs[f]? = some x) :
    Calls Try.prog 20 #[.pointer (some ⟨B, 0, none⟩)] w fun e w' => e = .returned (.tuple #[.int .i64 x, .bool true]) ∧ RM w' B G n ((f + 1) % n) (c - 1) xs ∧ But [B, G] w w' := by
  have h1 := h.cn
  have h2 := h.le
  have hlt : (f + 1) % n < n := Nat.mod_lt _ h.pos
  have hA := at_in h 0 hc (x := x) (by rw [Nat.add_zero, Nat.mod_eq_of_lt h.fn]; exact hx)
  have H : ∀ W, RM W B G n f c xs → Calls Try.prog 32 #[.pointer (some ⟨B, 0, none⟩), .int .i64 1] W fun e w' => e = .returned (.int .i64 (((f + 1) % n : Nat) : Int)) ∧ ∃ k, w' = W.drewN k := fun W h => slot_any h 1 (by omega)
  generalize (f + 1) % n = j at hlt H ⊢
  go_enter Try.func20, Try.ntmps20
  go_wp2_with (first
    | (go_at_call 14; refine hA.mono ?_; rintro e w1 ⟨rfl, hk⟩; have h3 := h.drawn hk)
    | (go_at_call 32; refine (H _ h3).mono ?_; rintro e w2 ⟨rfl, hk2⟩; have h4 := h3.drawn hk2; have c1 := h4.c1; have f1 := h4.fB 1; have c2 := h4.c2; have f2 := h4.fB 2))
  go_ret2
  have e1 : ((c : Int) - 1) = ((c - 1 : Nat) : Int) := by omega
  rw [e1]
  exact ⟨rfl, (h4.setF hlt).setC (by omega), (((Drawn.but hk).trans (Drawn.but hk2)).setB _ _).setB _ _⟩

theorem pop_none (h : RM w B G n f 0 xs) :
    Calls Try.prog 20 #[.pointer (some ⟨B, 0, none⟩)] w fun e w' => e = .returned (.tuple #[.int .i64 0, .bool false]) ∧ w' = w := by
  go_enter Try.func20, Try.ntmps20
  go_wp2_with (first
    | (go_at_call 14; refine (at_out h 0 (by omega)).mono ?_; rintro e w1 ⟨rfl, hw⟩; subst w1))
  go_ret2
  exact ⟨rfl, rfl⟩

theorem back_some (h : RM w B G n f c xs) (hc : 0 < c) {x : Int} (hx : xs[(f + (c - 1)) % n]? = some x) :
    Calls Try.prog 21 #[.pointer (some ⟨B, 0, none⟩)] w fun e w' => e = .returned (.tuple #[.int .i64 x, .bool true]) ∧ RM w' B G n f (c - 1) xs ∧ But [B, G] w w' := by
  have h1 := h.cn
  have h2 := h.le
  have hA := at_in h (c - 1) (by omega) hx
  have e1 : ((c : Int) - 1) = ((c - 1 : Nat) : Int) := by omega
  rw [← e1] at hA
  clear e1
  go_enter Try.func21, Try.ntmps21
  go_wp2_with (first
    | (go_at_call 11; refine (len_any h).mono ?_; rintro e w1 ⟨rfl, hw⟩; subst w1)
    | (go_at_call 14; refine hA.mono ?_; rintro e w1 ⟨rfl, hk⟩; have h3 := h.drawn hk; have c2 := h3.c2; have f2 := h3.fB 2))
  go_ret2
  have e1 : ((c : Int) - 1) = ((c - 1 : Nat) : Int) := by omega
  rw [e1]
  exact ⟨rfl, h3.setC (by omega), (Drawn.but hk).setB _ _⟩

theorem back_none (h : RM w B G n f 0 xs) :
    Calls Try.prog 21 #[.pointer (some ⟨B, 0, none⟩)] w fun e w' => e = .returned (.tuple #[.int .i64 0, .bool false]) ∧ w' = w := by
  go_enter Try.func21, Try.ntmps21
  go_wp2_with (first
    | (go_at_call 11; refine (len_any h).mono ?_; rintro e w1 ⟨rfl, hw⟩; subst w1)
    | (go_at_call 14; refine (at_out h _ (by omega)).mono ?_; rintro e w1 ⟨rfl, hw⟩; subst w1))
  go_ret2
  exact ⟨rfl, rfl⟩
end

end Go.Proofs.Ytfobfkidpdlkeaa
