/- Contracts of a made queue's Find and Remove. -/
import Derived.Test.YtfobfkidpdlkeaaTake
namespace Go.Proofs.Ytfobfkidpdlkeaa
open Go.RowKit

section
variable {w W w1 : World} {B G n f c : Nat} {xs : List Int} {j s : Nat} {x y : Int} {u : Value}
theorem s3_drew (h : W.cell? ⟨B, 0, none⟩ = some u ∧ W.cell? ⟨G, s, none⟩ = some (.int .i64 y) ∧ RS w B G n f c xs j x W) : W.drew.cell? ⟨B, 0, none⟩ = some u ∧ W.drew.cell? ⟨G, s, none⟩ = some (.int .i64 y) ∧ RS w B G n f c xs j x W.drew := ⟨h.1, h.2.1, h.2.2.drew⟩
theorem s3_step (h : W.cell? ⟨B, 0, none⟩ = some u ∧ W.cell? ⟨G, s, none⟩ = some (.int .i64 y) ∧ RS w B G n f c xs j x W) (k : ∃ k, w1 = W.drewN k) : w1.cell? ⟨B, 0, none⟩ = some u ∧ w1.cell? ⟨G, s, none⟩ = some (.int .i64 y) ∧ RS w B G n f c xs j x w1 :=
  ⟨by obtain ⟨k, rfl⟩ := k; exact h.1, by obtain ⟨k, rfl⟩ := k; exact h.2.1, h.2.2.step k⟩
theorem s3_set (h : W.cell? ⟨B, 0, none⟩ = some u ∧ W.cell? ⟨G, s, none⟩ = some (.int .i64 y) ∧ RS w B G n f c xs j x W) (hs : s ≠ j) : (W.setCell ⟨G, j, none⟩ (.int .i64 x)).cell? ⟨B, 0, none⟩ = some u ∧ (W.setCell ⟨G, j, none⟩ (.int .i64 x)).cell? ⟨G, s, none⟩ = some (.int .i64 y) ∧ RS w B G n f c xs j x (W.setCell ⟨G, j, none⟩ (.int .i64 x)) := by
  obtain ⟨h0, h1, h2⟩ := h
  have ne : B ≠ G := by obtain ⟨ys, hr⟩ := h2.get; exact hr.ne
  refine ⟨(World.cell?_of_block (Below.heap_setCell W ⟨G, j, none⟩ _ B ne)).trans h0, ?_, .inr h2.set, h2.2.setG _ _⟩
  rw [World.cell?_setCell_other _ _ _ _ (by intro e; cases e; exact hs rfl)]
  exact h1
theorem s3_get (h : W.cell? ⟨B, 0, none⟩ = some u ∧ W.cell? ⟨G, s, none⟩ = some (.int .i64 y) ∧ RS w B G n f c xs j x W) : ∃ zs, RM W B G n f c zs := h.2.2.get
theorem s3_cell (h : W.cell? ⟨B, 0, none⟩ = some u ∧ W.cell? ⟨G, s, none⟩ = some (.int .i64 y) ∧ RS w B G n f c xs j x W) (hj : j < n) : (∃ y, W.cell? ⟨G, j, none⟩ = some (.int .i64 y)) ∧ W.frozen? ⟨G, j, none⟩ = false := by
  obtain ⟨ys, hr⟩ := h.2.2.get
  exact ⟨⟨_, hr.x (List.getElem?_eq_getElem (by rw [hr.len]; exact hj))⟩, hr.fG j⟩
end

theorem holds_set {xs q : List Int} {n f j : Nat} (h : Holds xs n f q) (hl : xs.length = n) (hf : f < n) (hq : q.length ≤ n) (hjn : j < q.length) (x : Int) : Holds (xs.set ((f + j) % n) x) n f (q.set j x) := by
  intro i y hy
  have hi : i < q.length := by have := (List.getElem?_eq_some_iff.1 hy).1; simpa using this
  have m2 := mod_cases (i := i) hf (by omega)
  by_cases e : i = j
  · subst e
    rw [List.getElem?_set_self hi] at hy
    rw [List.getElem?_set_self (by rw [hl]; exact Nat.mod_lt _ (by omega))]
    exact hy
  · rw [List.getElem?_set_ne (by omega)] at hy
    have m1 := mod_cases (i := j) hf (by omega)
    rw [List.getElem?_set_ne (by omega)]
    exact h i y hy
theorem find_cases (q : List Int) (x : Int) : findI q x 0 = -1 ∨ ∃ p : Nat, p < q.length ∧ findI q x 0 = p := by
  suffices h : ∀ (l : List Int) (k : Nat), findI l x k = -1 ∨ ∃ p : Nat, p < k + l.length ∧ findI l x k = p by
    simpa using h q 0
  intro l
  induction l with
  | nil => intro k; exact .inl rfl
  | cons y t ih =>
    intro k
    unfold findI
    by_cases hy : y = x
    · rw [if_pos hy]
      exact .inr ⟨k, by simp, rfl⟩
    · rw [if_neg hy]
      rcases ih (k + 1) with h | ⟨p, hp, h⟩
      · exact .inl (by simpa using h)
      · exact .inr ⟨p, by simp at hp ⊢; omega, by simpa using h⟩
/-- What is left while those behind move up. -/
def mvQ (q : List Int) (p j : Nat) : List Int := (q.eraseIdx p).take j ++ q.drop j
theorem mvQ_start {q : List Int} {p : Nat} (hp : p < q.length) : mvQ q p p = q := by
  unfold mvQ
  rw [List.eraseIdx_eq_take_drop_succ, List.take_append_of_le_length (by rw [List.length_take]; omega), List.take_take, Nat.min_self, List.take_append_drop]
theorem mvQ_length {q : List Int} {p j : Nat} (hp : p < q.length) (hj : j < q.length) : (mvQ q p j).length = q.length := by
  unfold mvQ
  rw [List.length_append, List.length_take, List.length_drop, List.length_eraseIdx, if_pos hp]
  omega
theorem mvQ_next {q : List Int} {p j : Nat} (hp : p ≤ j) (hj : j + 1 < q.length) : (mvQ q p j)[j + 1]? = some q[j + 1] ∧ (mvQ q p j).set j q[j + 1] = mvQ q p (j + 1) := by
  have l1 : ((q.eraseIdx p).take j).length = j := by rw [List.length_take, List.length_eraseIdx, if_pos (by omega)]; omega
  unfold mvQ
  constructor
  · rw [List.getElem?_append_right (by omega), l1, List.getElem?_drop, show j + (j + 1 - j) = j + 1 by omega]
    simp [hj]
  · rw [List.set_append_right _ _ (by omega), l1, Nat.sub_self, List.drop_eq_getElem_cons (show j < q.length by omega), List.set_cons_zero, List.take_add_one, List.getElem?_eraseIdx, if_neg (by omega), List.getElem?_eq_getElem hj]
    simp
theorem mvQ_end {q : List Int} {p j : Nat} (hp : p < q.length) (hj : j + 1 = q.length) : mvQ q p j = q.eraseIdx p ++ [q[j]] := by
  unfold mvQ
  rw [List.take_of_length_le (by rw [List.length_eraseIdx, if_pos hp]; omega), List.drop_eq_getElem_cons (show j < q.length by omega), List.drop_eq_nil_of_le (by omega)]

section
variable {w : World} {B G n : Nat} {q : List Int}

set_option maxHeartbeats 1000000 in
theorem find_q (h : RQ w B G n q) (x : Int) :
    Calls Try.prog 17 #[.pointer (some ⟨B, 0, none⟩), .int .i64 x] w fun e w' => e = .returned (.int .i64 (findI q x 0)) ∧ Drawn w w' := by
  have hlen := len_q h
  obtain ⟨f, xs, h, hk⟩ := h
  have h1 := h.cn
  have h2 := h.le
  go_enter Try.func17, Try.ntmps17
  go_wp2_with (first
    | (go_at_call 11; refine hlen.mono ?_; rintro e w' ⟨rfl, hw⟩; subst w'))
  clear hlen
  go_loopw [8] (fun v wr => ∃ j : Nat, j ≤ q.length ∧ v = .int .i64 j ∧ Drawn w wr ∧ Hid (findI q x 0 = findI (q.drop j) x j)) (fun v _ => 4096 - (intOf v).toNat)
  case atStart => exact ⟨0, by omega, rfl, Drawn.refl _, rfl⟩
  case round =>
    obtain ⟨j, hj, rfl, hd, hf⟩ := hrel
    by_cases hlt : j < q.length
    · have hq := hk j q[j] (by simp)
      have hs := find_step hlt x
      rw [← hf.out] at hs
      clear hf
      have h5 : (j : Int) < (q.length : Int) := by omega
      generalize q[j] = y at hq hs
      have hr := h.drawn hd
      have c0 := hr.c0
      have cx := hr.x hq
      have hltn : (f + j) % n < n := Nat.mod_lt _ h.pos
      have hlt' : (((f + j) % n : Nat) : Int) < (n : Int) := by omega
      have h0 : (0 : Int) ≤ (((f + j) % n : Nat) : Int) := by omega
      have H : ∀ W, RM W B G n f q.length xs → Calls Try.prog 32 #[.pointer (some ⟨B, 0, none⟩), .int .i64 j] W fun e w' => e = .returned (.int .i64 (((f + j) % n : Nat) : Int)) ∧ ∃ k, w' = W.drewN k := fun W h => slot_any h j (by omega)
      generalize (f + j) % n = s at hltn hlt' h0 H cx hq
      have hS : wr.cell? ⟨B, 0, none⟩ = some (.slice (some ⟨G, 0, none⟩) n n) ∧ wr.cell? ⟨G, s, none⟩ = some (.int .i64 y) ∧ Drawn w wr := ⟨c0, cx, hd⟩
      clear hr c0 cx hd hq
      by_cases hyx : y = x
      · subst hyx
        rw [if_pos rfl] at hs
        have HS : Hid (findI q y 0 = (j : Int)) := hs
        clear hs
        go_wp2_with fail
        go_region_held3 (fun w' => w'.cell? ⟨B, 0, none⟩ = some (.slice (some ⟨G, 0, none⟩) n n) ∧ w'.cell? ⟨G, s, none⟩ = some (.int .i64 y) ∧ Drawn w w') (first | with_reducible assumption | (with_reducible refine d2_drew ?_; with_reducible assumption)) (first | (go_at_call 32; refine (H _ (d2_rm h (by assumption))).mono ?_; rintro r w1 ⟨rfl, hk1⟩; have key := d2_step (by assumption) hk1; clear hk1))
        all_goals
          go_wp2_with fail
          go_ret
          exact ⟨by rw [HS.out]; rfl, key.2.2⟩
      · rw [if_neg hyx] at hs
        have HS : Hid (findI q x 0 = findI (q.drop (j + 1)) x ((j + 1 : Nat) : Int)) := hs
        clear hs
        have hyx' : (y == x) = false := by simpa using hyx
        go_wp2_with fail
        go_region_held3 (fun w' => w'.cell? ⟨B, 0, none⟩ = some (.slice (some ⟨G, 0, none⟩) n n) ∧ w'.cell? ⟨G, s, none⟩ = some (.int .i64 y) ∧ Drawn w w') (first | with_reducible assumption | (with_reducible refine d2_drew ?_; with_reducible assumption)) (first | (go_at_call 32; refine (H _ (d2_rm h (by assumption))).mono ?_; rintro r w1 ⟨rfl, hk1⟩; have key := d2_step (by assumption) hk1; clear hk1))
        all_goals
          go_wp2_with fail
          go_roundw
          case rel => exact ⟨j + 1, by omega, by simp, key.2.2, HS⟩
          case measure =>
            simp [intOf]
            omega
    · obtain rfl : j = q.length := by omega
      have e := hf.out
      rw [List.drop_length, findI] at e
      have HS : Hid (findI q x 0 = -1) := e
      clear e hf
      go_wp2_with fail
      go_ret
      exact ⟨by rw [HS.out]; rfl, hd⟩

set_option maxHeartbeats 2000000 in
theorem remove_q (h : RQ w B G n q) (x : Int) :
    Calls Try.prog 24 #[.pointer (some ⟨B, 0, none⟩), .int .i64 x] w fun e w' => e = .returned (.bool (isQ q (findI q x 0))) ∧ RQ w' B G n (takeQ q (findI q x 0)) ∧ But [B, G] w w' := by
  have hF := find_q h x
  rcases find_cases q x with hm | ⟨p, hp, hm⟩
  · rw [hm] at hF ⊢
    have e2 : isQ q (-1) = false := by simp [isQ]
    have e3 : takeQ q (-1) = q := by unfold takeQ; rw [e2]; rfl
    rw [e2, e3]
    clear hm e2 e3
    go_enter Try.func24, Try.ntmps24
    go_wp2_with (first
      | (go_at_call 17; refine hF.mono ?_; rintro e w' ⟨rfl, hd⟩))
    go_ret
    exact ⟨rfl, h.drawn hd, hd.but⟩
  · rw [hm] at hF ⊢
    have e2 : isQ q (p : Int) = true := by unfold isQ; simp; omega
    have e3 : takeQ q (p : Int) = q.eraseIdx p := by unfold takeQ; rw [e2]; rfl
    rw [e2, e3]
    clear hm e2 e3
    obtain ⟨f, xs, h, k⟩ := h
    have h1 := h.cn
    have h2 := h.le
    have h3 := h.fn
    have hpos := h.pos
    go_enter Try.func24, Try.ntmps24
    go_wp2_with (first
      | (go_at_call 17; refine hF.mono ?_; rintro e w' ⟨rfl, hd⟩))
    clear hF
    have h0 : RM w' B G n f q.length xs := h.drawn hd
    have hb0 : But [B, G] w w' := hd.but
    have k0 : Holds xs n f (mvQ q p p) := by rw [mvQ_start hp]; exact k
    clear h k hd
    go_loopw [6] (fun v wr => ∃ (j : Nat) (ys : List Int), p ≤ j ∧ j < q.length ∧ v = .int .i64 ((j : Int) + 1) ∧ RM wr B G n f q.length ys ∧ Holds ys n f (mvQ q p j) ∧ But [B, G] w wr) (fun v _ => 4097 - (intOf v).toNat)
    case atStart => exact ⟨p, xs, Nat.le_refl _, hp, rfl, h0, k0, hb0⟩
    case round =>
      clear h0 hb0 k0
      obtain ⟨j, ys, hpj, hj, rfl, hr, hk, hb⟩ := hrel
      have c2 := hr.c2
      by_cases hlt : j + 1 < q.length
      · obtain ⟨n1, n2⟩ := mvQ_next hpj hlt
        have hsrc := hk (j + 1) _ n1
        have hlen := mvQ_length (j := j) hp (by omega)
        have hhs := holds_set hk hr.len hr.fn (by omega) (by omega : j < (mvQ q p j).length) q[j + 1]
        rw [n2] at hhs
        generalize q[j + 1] = y at hsrc hhs
        have m1 := mod_cases (i := j) h3 (by omega)
        have m2 := mod_cases (i := j + 1) h3 (by omega)
        have t1 : (f + j) % n < n := Nat.mod_lt _ hpos
        have t2 : (f + (j + 1)) % n < n := Nat.mod_lt _ hpos
        have hne : (f + (j + 1)) % n ≠ (f + j) % n := by omega
        have c0 := hr.c0
        have cx := hr.x hsrc
        have H1 : ∀ W, (∃ zs, RM W B G n f q.length zs) → Calls Try.prog 32 #[.pointer (some ⟨B, 0, none⟩), .int .i64 j] W fun e w' => e = .returned (.int .i64 (((f + j) % n : Nat) : Int)) ∧ ∃ k, w' = W.drewN k := fun W ⟨zs, h⟩ => slot_any h j (by omega)
        have H2 : ∀ W, (∃ zs, RM W B G n f q.length zs) → Calls Try.prog 32 #[.pointer (some ⟨B, 0, none⟩), .int .i64 ((j : Int) + 1)] W fun e w' => e = .returned (.int .i64 (((f + (j + 1)) % n : Nat) : Int)) ∧ ∃ k, w' = W.drewN k := fun W ⟨zs, h⟩ => slot_any h (j + 1) (by omega)
        generalize (f + j) % n = t at *
        generalize (f + (j + 1)) % n = s at *
        have t1' : (t : Int) < (n : Int) := by omega
        have t2' : (s : Int) < (n : Int) := by omega
        have t3' : (0 : Int) ≤ (t : Int) := by omega
        have t4' : (0 : Int) ≤ (s : Int) := by omega
        obtain ⟨d, hd⟩ : ∃ d : Int, d = (j : Int) + 1 := ⟨_, rfl⟩
        rw [← hd] at H2 ⊢
        have hwd : IntKind.i64.wrap (d - 1) = (j : Int) := by rw [IntKind.wrap_i64]; omega
        have hdc : d < (q.length : Int) := by omega
        have hwd2 : d - 1 = (j : Int) := by omega
        have hwj : IntKind.i64.wrap (j : Int) = (j : Int) := by rw [IntKind.wrap_i64]; omega
        have HD : Hid (d = (j : Int) + 1) := hd
        have hd0 : d + 1 ≤ 9223372036854775807 := by omega
        have hd1 : 0 ≤ d := by omega
        have hS : wr.cell? ⟨B, 0, none⟩ = some (.slice (some ⟨G, 0, none⟩) n n) ∧ wr.cell? ⟨G, s, none⟩ = some (.int .i64 y) ∧ RS w B G n f q.length ys t y wr := ⟨c0, cx, .inl hr, hb⟩
        clear hd m1 m2 hsrc hlen n1 n2 hk c0 cx hr hb
        go_wp2_with fail
        go_region_held3 (fun w' => w'.cell? ⟨B, 0, none⟩ = some (.slice (some ⟨G, 0, none⟩) n n) ∧ w'.cell? ⟨G, s, none⟩ = some (.int .i64 y) ∧ RS w B G n f q.length ys t y w') (first | with_reducible assumption | (with_reducible refine s3_drew ?_; with_reducible assumption) | (with_reducible refine s3_set ?_ ?_; (with_reducible assumption); (with_reducible assumption)))
          (first
            | (go_at_call 32; with_reducible refine (H1 _ (s3_get (w := w) (s := s) (y := y) (xs := ys) (j := t) (x := y) (u := .slice (some ⟨G, 0, none⟩) n n) (by with_reducible assumption))).mono ?_; rintro r w2 ⟨rfl, hk⟩; have key := s3_step (w := w) (s := s) (y := y) (xs := ys) (j := t) (x := y) (u := .slice (some ⟨G, 0, none⟩) n n) (by with_reducible assumption) hk; clear hk)
            | (go_at_call 32; with_reducible refine (H2 _ (s3_get (w := w) (s := s) (y := y) (xs := ys) (j := t) (x := y) (u := .slice (some ⟨G, 0, none⟩) n n) (by with_reducible assumption))).mono ?_; rintro r w3 ⟨rfl, hk⟩; have key2 := s3_step (w := w) (s := s) (y := y) (xs := ys) (j := t) (x := y) (u := .slice (some ⟨G, 0, none⟩) n n) (by with_reducible assumption) hk; obtain ⟨⟨z, cz⟩, fz⟩ := s3_cell key2 t1; clear hk))
        all_goals
          have k5 : RM (w3.setCell ⟨G, t, none⟩ (.int .i64 y)) B G n f q.length (ys.set t y) := key2.2.2.set
          have b5 : But [B, G] w (w3.setCell ⟨G, t, none⟩ (.int .i64 y)) := key2.2.2.2.setG _ _
          clear key key2 cz fz hS H1 H2
          generalize w3.setCell ⟨G, t, none⟩ (.int .i64 y) = w5 at k5 b5 ⊢
          go_wp2_with fail
          go_roundw
          case rel => exact ⟨j + 1, _, by omega, hlt, by have := HD.out; simp; omega, k5, hhs, b5⟩
          case measure =>
            have := HD.out
            simp [intOf]
            omega
      · have hje : j + 1 = q.length := by omega
        have he := mvQ_end hp hje
        rw [he] at hk
        have hlen : (q.eraseIdx p).length = q.length - 1 := by rw [List.length_eraseIdx, if_pos hp]
        have hke : Holds ys n f (q.eraseIdx p) := fun i z hz => hk i z (by
          have hi := (List.getElem?_eq_some_iff.1 hz).1
          rw [List.getElem?_append_left hi]
          exact hz)
        have f2 := hr.fB 2
        have hnl : ¬ ((j : Int) + 1 < (q.length : Int)) := by omega
        have hse := hr.setC (c' := q.length - 1) (by omega)
        have e1 : ((q.length : Int) - 1) = ((q.length - 1 : Nat) : Int) := by omega
        rw [← e1] at hse
        clear hlt hje he hk e1
        go_wp2_with fail
        go_ret
        refine ⟨rfl, ⟨f, ys, ?_, hke⟩, hb.setB _ _⟩
        rw [hlen]
        exact hse
end

end Go.Proofs.Ytfobfkidpdlkeaa
