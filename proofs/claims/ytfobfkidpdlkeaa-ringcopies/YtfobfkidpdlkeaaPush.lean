/- Contracts of a made queue's Push, Front, At, Pop, Back. -/
import Derived.Test.YtfobfkidpdlkeaaFns
import Derived.Deep.RegionHeld3
namespace Go.Proofs.Ytfobfkidpdlkeaa
open Go.RowKit

/-- A queue one of whose slots may have been written. -/
def RS (w : World) (B G n f c : Nat) (xs : List Int) (j : Nat) (x : Int) (w' : World) : Prop := (RM w' B G n f c xs ∨ RM w' B G n f c (xs.set j x)) ∧ But [B, G] w w'
section
variable {w W w1 : World} {B G n f c : Nat} {xs : List Int} {j : Nat} {x a : Int} {u : Value} {o : Nat}
theorem RS.drew (h : RS w B G n f c xs j x W) : RS w B G n f c xs j x W.drew := ⟨h.1.imp RM.drew RM.drew, h.2.drew⟩
theorem RS.step (h : RS w B G n f c xs j x W) (k : ∃ k, w1 = W.drewN k) : RS w B G n f c xs j x w1 := by
  obtain ⟨k, rfl⟩ := k
  exact ⟨h.1.imp (fun h => h.drewN k) (fun h => h.drewN k), h.2.drewN k⟩
theorem RS.get (h : RS w B G n f c xs j x W) : ∃ ys, RM W B G n f c ys := h.1.elim (fun h => ⟨_, h⟩) (fun h => ⟨_, h⟩)
theorem RS.set (h : RS w B G n f c xs j x W) : RM (W.setCell ⟨G, j, none⟩ (.int .i64 x)) B G n f c (xs.set j x) := by
  rcases h.1 with h | h
  · exact h.setX j x
  · have := h.setX j x
    rwa [List.set_set] at this
theorem s2_drew (h : W.cell? ⟨B, 0, none⟩ = some u ∧ W.cell? ⟨B, o, none⟩ = some (.int .i64 a) ∧ RS w B G n f c xs j x W) : W.drew.cell? ⟨B, 0, none⟩ = some u ∧ W.drew.cell? ⟨B, o, none⟩ = some (.int .i64 a) ∧ RS w B G n f c xs j x W.drew := ⟨h.1, h.2.1, h.2.2.drew⟩
theorem s2_step (h : W.cell? ⟨B, 0, none⟩ = some u ∧ W.cell? ⟨B, o, none⟩ = some (.int .i64 a) ∧ RS w B G n f c xs j x W) (k : ∃ k, w1 = W.drewN k) : w1.cell? ⟨B, 0, none⟩ = some u ∧ w1.cell? ⟨B, o, none⟩ = some (.int .i64 a) ∧ RS w B G n f c xs j x w1 :=
  ⟨by obtain ⟨k, rfl⟩ := k; exact h.1, by obtain ⟨k, rfl⟩ := k; exact h.2.1, h.2.2.step k⟩
theorem s2_set (h : W.cell? ⟨B, 0, none⟩ = some u ∧ W.cell? ⟨B, o, none⟩ = some (.int .i64 a) ∧ RS w B G n f c xs j x W) : (W.setCell ⟨G, j, none⟩ (.int .i64 x)).cell? ⟨B, 0, none⟩ = some u ∧ (W.setCell ⟨G, j, none⟩ (.int .i64 x)).cell? ⟨B, o, none⟩ = some (.int .i64 a) ∧ RS w B G n f c xs j x (W.setCell ⟨G, j, none⟩ (.int .i64 x)) := by
  obtain ⟨h0, h1, h2⟩ := h
  have ne : B ≠ G := by obtain ⟨ys, hr⟩ := h2.get; exact hr.ne
  exact ⟨(World.cell?_of_block (Below.heap_setCell W ⟨G, j, none⟩ _ B ne)).trans h0, (World.cell?_of_block (Below.heap_setCell W ⟨G, j, none⟩ _ B ne)).trans h1, .inr h2.set, h2.2.setG _ _⟩
theorem s2_cell (h : W.cell? ⟨B, 0, none⟩ = some u ∧ W.cell? ⟨B, o, none⟩ = some (.int .i64 a) ∧ RS w B G n f c xs j x W) (hj : j < n) : (∃ y, W.cell? ⟨G, j, none⟩ = some (.int .i64 y)) ∧ W.frozen? ⟨G, j, none⟩ = false := by
  obtain ⟨ys, hr⟩ := h.2.2.get
  exact ⟨⟨_, hr.x (List.getElem?_eq_getElem (by rw [hr.len]; exact hj))⟩, hr.fG j⟩
end

section
variable {w : World} {B G n f c : Nat} {xs : List Int}

/-- As it was, but for draws. -/
def Drawn (w w' : World) : Prop := ∃ k, w' = w.drewN k
theorem Drawn.trans {a b c : World} (h : Drawn a b) (k : ∃ k, c = b.drewN k) : Drawn a c := by
  obtain ⟨i, rfl⟩ := h
  obtain ⟨j, rfl⟩ := k
  exact ⟨i + j, by simp [World.drewN, Nat.add_assoc]⟩
theorem Drawn.refl (w : World) : Drawn w w := ⟨0, rfl⟩
theorem Drawn.drew {a b : World} (h : Drawn a b) : Drawn a b.drew := h.trans ⟨1, rfl⟩
theorem Drawn.but {S : List Nat} {a b : World} (h : Drawn a b) : But S a b := by
  obtain ⟨k, rfl⟩ := h
  exact (But.refl _ _).drewN k
theorem RM.drawn {w w' : World} {B G n f c : Nat} {xs : List Int} (h : RM w B G n f c xs) (k : Drawn w w') : RM w' B G n f c xs := by
  obtain ⟨k, rfl⟩ := k
  exact h.drewN k
theorem d2_drew {w W : World} {p q : Addr} {u v : Value} (h : W.cell? p = some u ∧ W.cell? q = some v ∧ Drawn w W) : W.drew.cell? p = some u ∧ W.drew.cell? q = some v ∧ Drawn w W.drew := ⟨h.1, h.2.1, h.2.2.drew⟩
theorem d2_step {w W w1 : World} {p q : Addr} {u v : Value} (h : W.cell? p = some u ∧ W.cell? q = some v ∧ Drawn w W) (k : ∃ k, w1 = W.drewN k) : w1.cell? p = some u ∧ w1.cell? q = some v ∧ Drawn w w1 :=
  ⟨by obtain ⟨k, rfl⟩ := k; exact h.1, by obtain ⟨k, rfl⟩ := k; exact h.2.1, h.2.2.trans k⟩
theorem d2_rm {w W : World} {p q : Addr} {u v : Value} {B G n f c : Nat} {xs : List Int} (h : RM w B G n f c xs) (k : W.cell? p = some u ∧ W.cell? q = some v ∧ Drawn w W) : RM W B G n f c xs := h.drawn k.2.2
theorem RM.at {w : World} {B G n f c : Nat} {xs : List Int} (h : RM w B G n f c xs) (i : Nat) : ∃ x, xs[(f + i) % n]? = some x := by
  have h1 : (f + i) % n < xs.length := by rw [h.len]; exact Nat.mod_lt _ h.pos
  exact ⟨_, List.getElem?_eq_getElem h1⟩

theorem at_in (h : RM w B G n f c xs) (i : Nat) (hi : i < c) {x : Int} (hx : xs[(f + i) % n]? = some x) :
    Calls Try.prog 14 #[.pointer (some ⟨B, 0, none⟩), .int .i64 i] w fun e w' => e = .returned (.tuple #[.int .i64 x, .bool true]) ∧ ∃ k, w' = w.drewN k := by
  have h1 := h.cn
  have h2 := h.le
  have c0 := h.c0
  have cx := h.x hx
  have hlt : (f + i) % n < n := Nat.mod_lt _ h.pos
  have hlt' : (((f + i) % n : Nat) : Int) < (n : Int) := by omega
  have h0 : (0 : Int) ≤ (((f + i) % n : Nat) : Int) := by omega
  have H : ∀ W, RM W B G n f c xs → Calls Try.prog 32 #[.pointer (some ⟨B, 0, none⟩), .int .i64 i] W fun e w' => e = .returned (.int .i64 (((f + i) % n : Nat) : Int)) ∧ ∃ k, w' = W.drewN k := fun W h => slot_any h i (by omega)
  generalize (f + i) % n = j at hlt hlt' h0 H cx hx
  go_enter Try.func14, Try.ntmps14
  go_wp2_with (first
    | (go_at_call 11; refine (len_any h).mono ?_; rintro e w' ⟨rfl, hw⟩; subst w'))
  have hS : w.cell? ⟨B, 0, none⟩ = some (.slice (some ⟨G, 0, none⟩) n n) ∧ w.cell? ⟨G, j, none⟩ = some (.int .i64 x) ∧ Drawn w w := ⟨c0, cx, 0, rfl⟩
  go_region_held3 (fun w' => w'.cell? ⟨B, 0, none⟩ = some (.slice (some ⟨G, 0, none⟩) n n) ∧ w'.cell? ⟨G, j, none⟩ = some (.int .i64 x) ∧ Drawn w w') (first | assumption | exact d2_drew (by assumption)) (first | (go_at_call 32; refine (H _ (d2_rm h (by assumption))).mono ?_; rintro r w1 ⟨rfl, hk⟩; have key := d2_step (by assumption) hk; clear hk))
  all_goals
    go_wp2_with fail
    go_ret2
    exact ⟨rfl, key.2.2⟩

theorem at_out (h : RM w B G n f c xs) (i : Int) (hi : i < 0 ∨ (c : Int) ≤ i) :
    Calls Try.prog 14 #[.pointer (some ⟨B, 0, none⟩), .int .i64 i] w fun e w' => e = .returned (.tuple #[.int .i64 0, .bool false]) ∧ w' = w := by
  by_cases h0 : i < 0
  · go_enter Try.func14, Try.ntmps14
    go_wp2_with fail
    go_ret2
    exact ⟨rfl, rfl⟩
  · have h1 : (c : Int) ≤ i := by omega
    go_enter Try.func14, Try.ntmps14
    go_wp2_with (first
      | (go_at_call 11; refine (len_any h).mono ?_; rintro e w' ⟨rfl, hw⟩; subst w'))
    go_ret2
    exact ⟨rfl, rfl⟩

theorem push_full (h : RM w B G n f n xs) (x : Int) :
    Calls Try.prog 19 #[.pointer (some ⟨B, 0, none⟩), .int .i64 x] w fun e w' => e = .returned (.int .i64 3) ∧ Drawn w w' := by
  go_enter Try.func19, Try.ntmps19
  go_wp2_with (first
    | (go_at_call 33; refine (grow_full h).mono ?_; rintro e w' ⟨rfl, hk⟩))
  go_ret
  exact ⟨rfl, hk⟩

set_option maxHeartbeats 1000000 in
theorem push_room (h : RM w B G n f c xs) (hc : c < n) (x : Int) :
    Calls Try.prog 19 #[.pointer (some ⟨B, 0, none⟩), .int .i64 x] w fun e w' => e = .returned (.int .i64 0) ∧ RM w' B G n f (c + 1) (xs.set ((f + c) % n) x) ∧ But [B, G] w w' := by
  have h1 := h.le
  have hlt : (f + c) % n < n := Nat.mod_lt _ h.pos
  have hlt' : (((f + c) % n : Nat) : Int) < (n : Int) := by omega
  have h0 : (0 : Int) ≤ (((f + c) % n : Nat) : Int) := by omega
  have H : ∀ W, (∃ ys, RM W B G n f (c + 1) ys) → Calls Try.prog 32 #[.pointer (some ⟨B, 0, none⟩), .int .i64 c] W fun e w' => e = .returned (.int .i64 (((f + c) % n : Nat) : Int)) ∧ ∃ k, w' = W.drewN k := fun W ⟨ys, h⟩ => slot_any h c (by omega)
  generalize (f + c) % n = j at hlt hlt' h0 H ⊢
  obtain ⟨d, hd⟩ : ∃ d : Int, d = (c : Int) + 1 := ⟨_, rfl⟩
  have hwr : IntKind.i64.wrap (d - 1) = (c : Int) := by rw [IntKind.wrap_i64]; omega
  have hd2 : ∀ {W f ys}, RM W B G n f (c + 1) ys → W.cell? ⟨B, 2, none⟩ = some (.int .i64 d) := fun h => by have := h.c2; rw [hd]; simpa using this
  clear hd
  have GR := grow_room h hc
  clear h
  go_enter Try.func19, Try.ntmps19
  go_wp2_with (first
    | (go_at_call 33; refine GR.mono ?_; rintro e w1 ⟨rfl, h, hb⟩))
  clear GR
  have hS : w1.cell? ⟨B, 0, none⟩ = some (.slice (some ⟨G, 0, none⟩) n n) ∧ w1.cell? ⟨B, 2, none⟩ = some (.int .i64 d) ∧ RS w B G n f (c + 1) xs j x w1 := ⟨h.c0, hd2 h, .inl h, hb⟩
  clear hd2
  clear h hb
  go_region_held3 (fun w' => w'.cell? ⟨B, 0, none⟩ = some (.slice (some ⟨G, 0, none⟩) n n) ∧ w'.cell? ⟨B, 2, none⟩ = some (.int .i64 d) ∧ RS w B G n f (c + 1) xs j x w') (first | with_reducible assumption | (with_reducible refine s2_drew ?_; with_reducible assumption) | (with_reducible refine s2_set ?_; with_reducible assumption)) (first | (go_at_call 32; refine (H _ (RS.get (And.right (And.right (by assumption))))).mono ?_; rintro r w2 ⟨rfl, hk⟩; have key := s2_step (by assumption) hk; obtain ⟨⟨y, cx⟩, fx⟩ := s2_cell key hlt; clear hk))
  all_goals
    go_wp2_with fail
    go_ret
    exact ⟨rfl, key.2.2.set, key.2.2.2.setG _ _⟩
end

end Go.Proofs.Ytfobfkidpdlkeaa
