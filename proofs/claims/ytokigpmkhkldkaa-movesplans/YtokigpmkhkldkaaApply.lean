/- Contracts of Apply, and of the reference's. -/
import Derived.Test.YtokigpmkhkldkaaNeed
namespace Go.Proofs.Ytokigpmkhkldkaa
open Go.RowKit

theorem take_next {ms : List (Int × Int × Int)} {j : Nat} (hj : j < ms.length) (os : List Int) : apL os (ms.take (j + 1)) = apS (apL os (ms.take j)) (mc ms j) := by
  rw [List.take_add_one, mc_get hj]
  simp [apL]
theorem apS_no {os : List Int} {p q r : Int} (h : p < 0 ∨ (os.length : Int) ≤ p ∨ (∃ k : Nat, p = (k : Int) ∧ ix os k ≠ q)) : apS os (p, q, r) = os := by
  unfold apS
  rw [if_neg]
  rintro ⟨h1, h2, h3⟩
  rcases h with h | h | ⟨k, rfl, h⟩
  · exact absurd h1 (by show ¬ 0 ≤ p; omega)
  · exact absurd h2 (by show ¬ p < (os.length : Int); omega)
  · exact h h3
/-- A new row out of old ones. -/
theorem grown0_any {w : World} {xa : Option Addr} {xc : Nat} {os : List Int} (hx : IX w xa os) (hl : os.length ≤ 99999) :
    Calls Try.prog 30 #[.slice none 0 0, .slice xa os.length xc] w fun e w' => ∃ a c, e = .returned (.slice a os.length c) ∧ Wr w w' a c os ∧ Below w.heap.size w w' := by
  have G := grown_any (xs := []) (xc := 0) (yc := xc) (IX.nil w none) (Nat.le_refl _) hx (by simp; omega)
  refine G.mono (fun e w' ⟨a, c, h1, h2, h3, h4, h5⟩ => ?_)
  rw [List.nil_append] at *
  refine ⟨a, c, h1, ⟨h2, h3, ?_⟩, h5⟩
  rcases h4 with h4 | ⟨v, rfl, h4⟩
  · exact .inl h4
  · obtain ⟨a', c', e', _, h6⟩ := h4.wb
    rcases h6 with h6 | ⟨g, h7, h8, h9, h10⟩
    · exact .inl h6
    · cases e'
      exact .inr ⟨g, h7, h8, h9, h10⟩
theorem Wr.alloc {w0 w : World} {a : Option Addr} {c : Nat} {xs : List Int} (h : Wr w0 w a c xs) (o : Obj) : Wr w0 (w.alloc o) a c xs := by
  obtain ⟨h1, h2, h3⟩ := h
  refine ⟨h1.alloc o, h2, h3.imp id (fun ⟨g, e, h4, h5, h6⟩ => ⟨g, e, h4, by simp; omega, h6.below ((Below.refl _ _).alloc (Nat.le_refl _) _)⟩)⟩
theorem Wr.below {w0 w w' : World} {a : Option Addr} {c : Nat} {xs : List Int} (h : Wr w0 w a c xs) (hb : Below w.heap.size w w') : Wr w0 w' a c xs := by
  obtain ⟨h1, h2, h3⟩ := h
  refine ⟨h1.below hb, h2, h3.imp id (fun ⟨g, e, h4, h5, h6⟩ => ⟨g, e, h4, Nat.lt_of_lt_of_le h5 hb.size, h6.below hb⟩)⟩

theorem OI.wr {w0 w : World} {v : Value} {xs : List Int} (h : OI w w0.heap.size v xs) : ∃ a c, v = .slice a xs.length c ∧ Wr w0 w a c xs := by
  obtain ⟨a, c, e, h1, h2⟩ := h.wb
  obtain ⟨a', c', e', _, h3⟩ := h.ix_
  rw [e] at e'
  cases e'
  exact ⟨a, c, e, h3, h1, h2⟩

section
variable {w : World} {xa ma : Option Addr} {xc kc : Nat} {os : List Int} {ms : List (Int × Int × Int)}

set_option maxRecDepth 100000 in
set_option maxHeartbeats 2000000 in
theorem apply_any (hx : IX w xa os) (hl : os.length ≤ 1000) (hm : MV w ma ms) (hml : ms.length ≤ 50000) :
    Calls Try.prog 14 #[.slice xa os.length xc, .slice ma ms.length kc] w fun e w' => ∃ a c, e = .returned (.slice a os.length c) ∧ Wr w w' a c (apL os ms) ∧ Below w.heap.size w w' := by
  have G := grown0_any (xc := xc) hx (by omega)
  go_enter Try.func14, Try.ntmps14
  go_wp2_with (first | (go_at_call 30; (with_reducible refine G.mono ?_); rintro e w3 ⟨a, c, rfl, x3, b3⟩))
  clear G
  have hb3 : Hid (Below w.heap.size w w3) := b3
  have hw3 : Hid (Wr w w3 a c (apL os (ms.take 0))) := x3
  clear b3 x3 hx
  go_loopw [12, 7] (fun v _ wr => ∃ j : Nat, j ≤ ms.length ∧ v = .int .i64 j ∧ Wr w wr a c (apL os (ms.take j)) ∧ Below w.heap.size w wr) (fun v _ _ => 50000 - (intOf v).toNat)
  case atStart => exact ⟨0, Nat.zero_le _, rfl, hw3.out, hb3.out⟩
  case round =>
    obtain ⟨j, hj, rfl, hW, hb⟩ := hrel
    by_cases hlt : j < ms.length
    · obtain ⟨b, o, rfl, c0, c1, c2⟩ := (hm.below hb) j hlt
      have hlt' : (j : Int) < (ms.length : Int) := by omega
      have hnx : Hid (apL os (ms.take (j + 1)) = apS (apL os (ms.take j)) (mc ms j)) := take_next hlt os
      have hcl : (apL os (ms.take j)).length = os.length := apL_len _ _
      clear hw3 hb3
      obtain ⟨p, q, r, hpq⟩ : ∃ p q r, Hid (mc ms j = (p, q, r)) := ⟨_, _, _, rfl⟩
      rw [hpq.out] at c0 c1 c2
      have hnx2 : Hid (apL os (ms.take (j + 1)) = apS (apL os (ms.take j)) (p, q, r)) := by unfold Hid; rw [hnx.out, hpq.out]
      clear hnx hpq
      generalize apL os (ms.take j) = cur at *
      go_wp2_with fail
      have d0 : (wr.alloc (.cells #[.int .i64 p, .int .i64 q, .int .i64 r] 40)).cell? ⟨wr.heap.size, 0, none⟩ = some (.int .i64 p) := by simp [go_sem]
      have d1 : (wr.alloc (.cells #[.int .i64 p, .int .i64 q, .int .i64 r] 40)).cell? ⟨wr.heap.size, 1, none⟩ = some (.int .i64 q) := by simp [go_sem]
      have d2 : (wr.alloc (.cells #[.int .i64 p, .int .i64 q, .int .i64 r] 40)).cell? ⟨wr.heap.size, 2, none⟩ = some (.int .i64 r) := by simp [go_sem]
      have hW2 := hW.alloc (.cells #[.int .i64 p, .int .i64 q, .int .i64 r] 40)
      have hb2 := hb.alloc hb.size (.cells #[.int .i64 p, .int .i64 q, .int .i64 r] 40)
      clear hW hb c0 c1 c2
      generalize wr.alloc (.cells #[.int .i64 p, .int .i64 q, .int .i64 r] 40) = W1 at *
      generalize wr.heap.size = h at *
      by_cases p0 : p < 0
      · have hno : Hid (apL os (ms.take (j + 1)) = cur) := by unfold Hid; rw [hnx2.out]; exact apS_no (.inl p0)
        have p0' : decide (0 ≤ p) = false := by simp; omega
        clear hnx2
        go_quiet (fail)
        go_wp2_with fail
        go_roundw
        case rel => exact ⟨j + 1, by omega, by simp, by rw [hno.out]; exact hW2.below ⟨rfl, rfl, rfl, Nat.le_refl _, fun _ _ => rfl⟩, below_drewN hb2 _⟩
        case measure =>
          simp [intOf]
          omega
      have p0' : 0 ≤ p := by omega
      by_cases p1 : (os.length : Int) ≤ p
      · have hno : Hid (apL os (ms.take (j + 1)) = cur) := by unfold Hid; rw [hnx2.out]; exact apS_no (.inr (.inl (by rw [hcl]; exact p1)))
        have p1' : decide (p < (os.length : Int)) = false := by simp; omega
        clear hnx2 p0 p1 hcl
        go_quiet (fail)
        go_wp2_with fail
        go_roundw
        case rel => exact ⟨j + 1, by omega, by simp, by rw [hno.out]; exact hW2.below ⟨rfl, rfl, rfl, Nat.le_refl _, fun _ _ => rfl⟩, below_drewN hb2 _⟩
        case measure =>
          simp [intOf]
          omega
      obtain ⟨k, rfl⟩ := Int.eq_ofNat_of_zero_le p0'
      have hk : k < os.length := by omega
      have hk' : (k : Int) < (os.length : Int) := by omega
      obtain ⟨h1, h2, h3⟩ := hW2
      rcases h3 with h3 | ⟨g, rfl, h4, h5, h6⟩
      · rw [h3] at hcl; simp at hcl; omega
      rw [hcl] at h6
      have x1 := h6.2.1 k hk
      have f1 := h6.2.2 k hk
      have hcl2 : Hid (cur.length = os.length) := hcl
      clear p0 p1 p0' hcl h1
      by_cases he : ix cur k = q
      · have hset : Hid (apL os (ms.take (j + 1)) = cur.set k r) := by unfold Hid; rw [hnx2.out]; exact apS_mv (by rw [hcl2.out]; exact hk) he
        rw [he] at x1
        clear hnx2 he
        go_quiet (fail)
        go_wp2_with fail
        go_roundw
        case rel =>
          refine ⟨j + 1, by omega, by simp, ?_, (below_drewN hb2 _).setCell h4 _⟩
          have hS : WB (W1.setCell ⟨g, k, none⟩ (.int .i64 r)) g os.length (cur.set k r) := h6.set hk
          rw [hset.out]
          exact ⟨hS.ix, by rw [List.length_set]; exact h2, .inr ⟨g, rfl, h4, by simpa using h5, by rw [List.length_set, hcl2.out]; exact hS⟩⟩
        case measure =>
          simp [intOf]
          omega
      · have hno : Hid (apL os (ms.take (j + 1)) = cur) := by unfold Hid; rw [hnx2.out]; exact apS_no (.inr (.inr ⟨k, rfl, he⟩))
        have he' : (ix cur k == q) = false := by simpa using he
        clear hnx2 he
        generalize ix cur k = y at *
        go_quiet (fail)
        go_wp2_with fail
        go_roundw
        case rel =>
          refine ⟨j + 1, by omega, by simp, ?_, below_drewN hb2 _⟩
          rw [hno.out]
          exact ⟨h6.ix, h2, .inr ⟨g, rfl, h4, h5, by rw [hcl2.out]; exact h6⟩⟩
        case measure =>
          simp [intOf]
          omega
    · obtain rfl : j = ms.length := by omega
      rw [List.take_length] at hW
      have hcl : Hid ((apL os ms).length = os.length) := apL_len _ _
      clear hw3 hb3
      go_wp2_with fail
      go_ret
      exact ⟨a, c, rfl, hW, hb⟩

set_option maxRecDepth 100000 in
set_option maxHeartbeats 2000000 in
theorem rapply_any (hx : IX w xa os) (hl : os.length ≤ 1000) (hm : MV w ma ms) (hml : ms.length ≤ 50000) :
    Calls Try.prog 15 #[.slice xa os.length xc, .slice ma ms.length kc] w fun e w' => ∃ a c, e = .returned (.slice a os.length c) ∧ Wr w w' a c (apL os ms) ∧ Below w.heap.size w w' := by
  have hH : OI (w.alloc (.cells #[] 3)) w.heap.size (.slice (some ⟨w.heap.size, 0, none⟩) 0 0) [] := World.ownsRow_lit (base := w.heap.size) (e := 3) (size := 1) w #[] 0 (Nat.le_refl _) (Nat.zero_le _) rfl
  go_enter Try.func15, Try.ntmps15
  go_wp2_with (first
    | (at_builtin; refine wpList_appI rfl _ _ rfl w.heap.size _ [] rfl hH _ _ _ os rfl rfl (hx.alloc _) (by simp; omega) (by simp) ?_; intro v3 w3 ho3 hg3 _; rw [List.nil_append] at ho3; obtain ⟨a, c, rfl, x3⟩ := ho3.wr))
  have b3 : Below w.heap.size w w3 := below_grown ((Below.refl _ _).alloc (Nat.le_refl _) _) hg3 hH (by simp)
  clear ho3 hg3 hH
  have hb3 : Hid (Below w.heap.size w w3) := b3
  have hw3 : Hid (Wr w w3 a c (apL os (ms.take 0))) := x3
  clear b3 x3 hx
  go_loopw [13, 7] (fun v _ wr => ∃ j : Nat, j ≤ ms.length ∧ v = .int .i64 j ∧ Wr w wr a c (apL os (ms.take j)) ∧ Below w.heap.size w wr) (fun v _ _ => 50000 - (intOf v).toNat)
  case atStart => exact ⟨0, Nat.zero_le _, rfl, hw3.out, hb3.out⟩
  case round =>
    obtain ⟨j, hj, rfl, hW, hb⟩ := hrel
    by_cases hlt : j < ms.length
    · obtain ⟨b, o, rfl, c0, c1, c2⟩ := (hm.below hb) j hlt
      have hlt' : (j : Int) < (ms.length : Int) := by omega
      have hnx : Hid (apL os (ms.take (j + 1)) = apS (apL os (ms.take j)) (mc ms j)) := take_next hlt os
      have hcl : (apL os (ms.take j)).length = os.length := apL_len _ _
      clear hw3 hb3
      obtain ⟨p, q, r, hpq⟩ : ∃ p q r, Hid (mc ms j = (p, q, r)) := ⟨_, _, _, rfl⟩
      rw [hpq.out] at c0 c1 c2
      have hnx2 : Hid (apL os (ms.take (j + 1)) = apS (apL os (ms.take j)) (p, q, r)) := by unfold Hid; rw [hnx.out, hpq.out]
      clear hnx hpq
      generalize apL os (ms.take j) = cur at *
      go_wp2_with fail
      have d0 : (wr.alloc (.cells #[.int .i64 p, .int .i64 q, .int .i64 r] 44)).cell? ⟨wr.heap.size, 0, none⟩ = some (.int .i64 p) := by simp [go_sem]
      have d1 : (wr.alloc (.cells #[.int .i64 p, .int .i64 q, .int .i64 r] 44)).cell? ⟨wr.heap.size, 1, none⟩ = some (.int .i64 q) := by simp [go_sem]
      have d2 : (wr.alloc (.cells #[.int .i64 p, .int .i64 q, .int .i64 r] 44)).cell? ⟨wr.heap.size, 2, none⟩ = some (.int .i64 r) := by simp [go_sem]
      have hW2 := hW.alloc (.cells #[.int .i64 p, .int .i64 q, .int .i64 r] 44)
      have hb2 := hb.alloc hb.size (.cells #[.int .i64 p, .int .i64 q, .int .i64 r] 44)
      clear hW hb c0 c1 c2
      generalize wr.alloc (.cells #[.int .i64 p, .int .i64 q, .int .i64 r] 44) = W1 at *
      generalize wr.heap.size = h at *
      by_cases p0 : p < 0
      · have hno : Hid (apL os (ms.take (j + 1)) = cur) := by unfold Hid; rw [hnx2.out]; exact apS_no (.inl p0)
        have p0' : decide (0 ≤ p) = false := by simp; omega
        clear hnx2
        go_quiet (fail)
        go_wp2_with fail
        go_roundw
        case rel => exact ⟨j + 1, by omega, by simp, by rw [hno.out]; exact hW2.below ⟨rfl, rfl, rfl, Nat.le_refl _, fun _ _ => rfl⟩, below_drewN hb2 _⟩
        case measure =>
          simp [intOf]
          omega
      have p0' : 0 ≤ p := by omega
      by_cases p1 : (os.length : Int) ≤ p
      · have hno : Hid (apL os (ms.take (j + 1)) = cur) := by unfold Hid; rw [hnx2.out]; exact apS_no (.inr (.inl (by rw [hcl]; exact p1)))
        have p1' : decide (p < (os.length : Int)) = false := by simp; omega
        clear hnx2 p0 p1 hcl
        go_quiet (fail)
        go_wp2_with fail
        go_roundw
        case rel => exact ⟨j + 1, by omega, by simp, by rw [hno.out]; exact hW2.below ⟨rfl, rfl, rfl, Nat.le_refl _, fun _ _ => rfl⟩, below_drewN hb2 _⟩
        case measure =>
          simp [intOf]
          omega
      obtain ⟨k, rfl⟩ := Int.eq_ofNat_of_zero_le p0'
      have hk : k < os.length := by omega
      have hk' : (k : Int) < (os.length : Int) := by omega
      obtain ⟨h1, h2, h3⟩ := hW2
      rcases h3 with h3 | ⟨g, rfl, h4, h5, h6⟩
      · rw [h3] at hcl; simp at hcl; omega
      rw [hcl] at h6
      have x1 := h6.2.1 k hk
      have f1 := h6.2.2 k hk
      have hcl2 : Hid (cur.length = os.length) := hcl
      clear p0 p1 p0' hcl h1
      by_cases he : ix cur k = q
      · have hset : Hid (apL os (ms.take (j + 1)) = cur.set k r) := by unfold Hid; rw [hnx2.out]; exact apS_mv (by rw [hcl2.out]; exact hk) he
        rw [he] at x1
        clear hnx2 he
        go_quiet (fail)
        go_wp2_with fail
        go_roundw
        case rel =>
          refine ⟨j + 1, by omega, by simp, ?_, (below_drewN hb2 _).setCell h4 _⟩
          have hS : WB (W1.setCell ⟨g, k, none⟩ (.int .i64 r)) g os.length (cur.set k r) := h6.set hk
          rw [hset.out]
          exact ⟨hS.ix, by rw [List.length_set]; exact h2, .inr ⟨g, rfl, h4, by simpa using h5, by rw [List.length_set, hcl2.out]; exact hS⟩⟩
        case measure =>
          simp [intOf]
          omega
      · have hno : Hid (apL os (ms.take (j + 1)) = cur) := by unfold Hid; rw [hnx2.out]; exact apS_no (.inr (.inr ⟨k, rfl, he⟩))
        have he' : (ix cur k == q) = false := by simpa using he
        clear hnx2 he
        generalize ix cur k = y at *
        go_quiet (fail)
        go_wp2_with fail
        go_roundw
        case rel =>
          refine ⟨j + 1, by omega, by simp, ?_, below_drewN hb2 _⟩
          rw [hno.out]
          exact ⟨h6.ix, h2, .inr ⟨g, rfl, h4, h5, by rw [hcl2.out]; exact h6⟩⟩
        case measure =>
          simp [intOf]
          omega
    · obtain rfl : j = ms.length := by omega
      rw [List.take_length] at hW
      have hcl : Hid ((apL os ms).length = os.length) := apL_len _ _
      clear hw3 hb3
      go_wp2_with fail
      go_ret
      exact ⟨a, c, rfl, hW, hb⟩
end
end Go.Proofs.Ytokigpmkhkldkaa
