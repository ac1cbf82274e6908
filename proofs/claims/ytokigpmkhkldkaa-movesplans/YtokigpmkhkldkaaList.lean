/- Contracts of greatest, going and places. -/
import Derived.Test.YtokigpmkhkldkaaGrow
import Derived.Test.YtokigpmkhkldkaaFol
namespace Go.Proofs.Ytokigpmkhkldkaa
open Go.RowKit

/-- Cores, as ints. -/
def cz (cs : List Nat) : List Int := cs.map (fun (c : Nat) => (c : Int))
theorem cz_len (cs : List Nat) : (cz cs).length = cs.length := by simp [cz]
theorem cz_app (cs ds : List Nat) : cz (cs ++ ds) = cz cs ++ cz ds := by simp [cz]
theorem cz_one (c : Nat) : cz [c] = [(c : Int)] := rfl
theorem dn_len_le (os : List Int) (s : Int) (k : Nat) : (dn os s k).length ≤ k := by rw [dn_len]; exact ct_le os s k
theorem up_len_le (os : List Int) (s : Int) (k : Nat) : (up os s k).length ≤ k := by rw [up_len]; exact ct_le os s k
theorem grL_len_le (os : List Int) (s : Int) (n : Nat) : (grL os s n).length ≤ os.length := by
  have := dn_len_le os s os.length
  rw [grL, List.length_take]
  omega
theorem goC_len_le {os : List Int} (ex : List Int) (h : os.length ≤ 64) : ∀ j, (goC os ex j).length ≤ 64 + 64 * j
  | 0 => by
    have := up_len_le os 0 os.length
    rw [goC, fl, List.append_nil]
    omega
  | j + 1 => by
    have := goC_len_le ex h j
    have := grL_len_le os ((j : Int) + 1) (ix ex j).toNat
    rw [goC_next, List.length_append]
    omega

section
variable {w : World} {xa ya : Option Addr} {xc yc : Nat} {os ex : List Int}

/-- One more. -/
theorem grown1_any {xs : List Int} (hx : IX w xa xs) (hc : xs.length ≤ xc) (hn : xs.length ≤ 99999) (x : Int) :
    Calls Try.prog 30 #[.slice xa xs.length xc, .slice (some ⟨w.heap.size, 0, none⟩) 1 1] (w.alloc (.cells #[.int .i64 x] 3)) fun e w' => ∃ a c, e = .returned (.slice a (xs ++ [x]).length c) ∧ IX w' a (xs ++ [x]) ∧ (xs ++ [x]).length ≤ c ∧ Below w.heap.size w w' := by
  have G := grown_any (ys := [x]) (yc := 1) (hx.alloc (.cells #[.int .i64 x] 3)) hc (ix_one w x) (by simp; omega)
  exact G.mono (fun e w' ⟨a, c, h1, h2, h3, _, h4⟩ => ⟨a, c, h1, h2, h3, ((Below.refl _ _).alloc (Nat.le_refl _) _).trans (h4.mono (by simp))⟩)

set_option maxHeartbeats 1000000 in
theorem greatest_any (hx : IX w xa os) (hl : os.length ≤ 64) (s : Int) (N : Nat) :
    Calls Try.prog 32 #[.slice xa os.length xc, .int .i64 s, .int .i64 (N : Int)] w fun e w' => ∃ a c, e = .returned (.slice a (cz (grL os s N)).length c) ∧ IX w' a (cz (grL os s N)) ∧ (cz (grL os s N)).length ≤ c ∧ Below w.heap.size w w' := by
  go_enter Try.func32, Try.ntmps32
  go_wp2_with fail
  go_loopw [8, 7] (fun v u wr => ∃ (k : Nat) (z : Int), k ≤ os.length ∧ v = .int .i64 z ∧ z = (k : Int) - 1 ∧ (∃ (xs : List Nat) (a : Option Addr) (c : Nat), u = .slice a (cz xs).length c ∧ IX wr a (cz xs) ∧ (cz xs).length ≤ c ∧ xs.length + k ≤ os.length ∧ xs ++ (dn os s k).take (N - xs.length) = grL os s N) ∧ Below w.heap.size w wr) (fun v _ _ => (intOf v + 1).toNat)
  case atStart => exact ⟨os.length, (os.length : Int) - 1, Nat.le_refl _, rfl, rfl, ⟨[], none, 0, rfl, IX.nil _ _, Nat.le_refl _, by simp, by simp [grL]⟩, Below.refl _ _⟩
  case round =>
    obtain ⟨k, z, hk, rfl, hz, ⟨xs, a, c, rfl, hxs, hcc, hln, heq⟩, hb⟩ := hrel
    by_cases h0 : k = 0
    · subst h0
      have hz' : decide (0 ≤ z) = false := by simp; omega
      have heq' : Hid (xs = grL os s N) := Hid.mk (by simpa [dn] using heq)
      clear heq hz
      go_wp2_with fail
      go_ret
      exact ⟨a, c, by rw [← heq'.out]; rfl, by rw [← heq'.out]; exact hxs, by rw [← heq'.out]; exact hcc, hb⟩
    · obtain ⟨k, rfl⟩ : ∃ k', k = k' + 1 := ⟨k - 1, by omega⟩
      obtain rfl : z = (k : Int) := by omega
      have hkl : k < os.length := by omega
      have hkl' : (k : Int) < (os.length : Int) := by omega
      obtain ⟨b, o, rfl, c0⟩ := hx.below hb k hkl
      by_cases hN : (cz xs).length < N
      · have hN' : ((cz xs).length : Int) < (N : Int) := by omega
        have hN2 : xs.length < N := by rw [cz_len] at hN; exact hN
        by_cases he : ix os k = s
        · have heq2 : Hid ((xs ++ [k]) ++ (dn os s k).take (N - (xs ++ [k]).length) = grL os s N) := by
            show (xs ++ [k]) ++ (dn os s k).take (N - (xs ++ [k]).length) = grL os s N
            rw [← heq, dn, if_pos he, show N - xs.length = (N - (xs ++ [k]).length) + 1 by simp; omega, List.take_succ_cons]
            simp
          have G := grown1_any (xc := c) hxs hcc (by rw [cz_len]; omega) (k : Int)
          rw [← cz_one, ← cz_app] at G
          rw [he] at c0
          have hl2 : Hid ((xs ++ [k]).length + k ≤ os.length) := Hid.mk (by simp; omega)
          clear heq hz he hN hN2 h0
          go_wp2_with (first | (go_at_call 30; (with_reducible refine G.mono ?_); rintro e w2 ⟨a2, c2, rfl, x2, l2, b2⟩))
          go_roundw
          case rel => exact ⟨k, (k : Int) - 1, by omega, by simp, rfl, ⟨xs ++ [k], a2, c2, rfl, x2, l2, hl2.out, heq2.out⟩, below2 hb hb.size b2⟩
          case measure =>
            simp [intOf]
        · have heq2 : Hid (xs ++ (dn os s k).take (N - xs.length) = grL os s N) := by
            rw [dn, if_neg he] at heq
            exact heq
          have he' : (ix os k == s) = false := by simpa using he
          have hl2 : Hid (xs.length + k ≤ os.length) := Hid.mk (by omega)
          clear heq hz he hN hN2 h0
          generalize ix os k = q at *
          go_wp2_with fail
          go_roundw
          case rel => exact ⟨k, (k : Int) - 1, by omega, by simp, rfl, ⟨xs, a, c, rfl, hxs, hcc, hl2.out, heq2.out⟩, hb⟩
          case measure =>
            simp [intOf]
      · have hN' : decide ((cz xs).length < N) = false := by simpa using hN
        have heq' : Hid (xs = grL os s N) := Hid.mk (by
          rw [cz_len] at hN
          rw [show N - xs.length = 0 by omega] at heq
          simpa using heq)
        clear heq hz hN
        go_wp2_with fail
        go_ret
        exact ⟨a, c, by rw [← heq'.out]; rfl, by rw [← heq'.out]; exact hxs, by rw [← heq'.out]; exact hcc, hb⟩

set_option maxHeartbeats 1000000 in
theorem going_any (hx : IX w xa os) (hl : os.length ≤ 64) (hy : IX w ya ex) (hle : ex.length ≤ 64) (h0 : ∀ i, i < ex.length → 0 ≤ ix ex i) :
    Calls Try.prog 26 #[.slice xa os.length xc, .slice ya ex.length yc] w fun e w' => ∃ a c, e = .returned (.slice a (cz (goC os ex ex.length)).length c) ∧ IX w' a (cz (goC os ex ex.length)) ∧ (cz (goC os ex ex.length)).length ≤ c ∧ Below w.heap.size w w' := by
  go_enter Try.func26, Try.ntmps26
  go_wp2_with fail
  go_loopw [12, 5] (fun v u wr => ∃ j : Nat, j ≤ os.length ∧ v = .int .i64 j ∧ (∃ a c, u = .slice a (cz (up os 0 j)).length c ∧ IX wr a (cz (up os 0 j)) ∧ (cz (up os 0 j)).length ≤ c) ∧ Below w.heap.size w wr) (fun v _ _ => 100 - (intOf v).toNat)
  case atStart => exact ⟨0, Nat.zero_le _, rfl, ⟨none, 0, rfl, IX.nil _ _, Nat.le_refl _⟩, Below.refl _ _⟩
  case round =>
    obtain ⟨j, hj, rfl, ⟨a, c, rfl, hxs, hcc⟩, hb⟩ := hrel
    by_cases hlt : j < os.length
    · obtain ⟨b, o, rfl, c0⟩ := hx.below hb j hlt
      have hlt' : (j : Int) < (os.length : Int) := by omega
      by_cases he : ix os j = 0
      · have G := grown1_any (xc := c) hxs hcc (by have := up_len_le os 0 j; rw [cz_len]; omega) (j : Int)
        have hnx : up os 0 (j + 1) = up os 0 j ++ [j] := by rw [up, if_pos he]
        rw [← cz_one, ← cz_app, ← hnx] at G
        rw [he] at c0
        clear he hnx hxs
        go_wp2_with (first | (go_at_call 30; (with_reducible refine G.mono ?_); rintro e w2 ⟨a2, c2, rfl, x2, l2, b2⟩))
        go_roundw
        case rel => exact ⟨j + 1, by omega, by simp, ⟨a2, c2, rfl, x2, l2⟩, below2 hb hb.size b2⟩
        case measure =>
          simp [intOf]
          omega
      · have hnx : Hid (up os 0 (j + 1) = up os 0 j) := by show up os 0 (j + 1) = up os 0 j; rw [up, if_neg he]
        have he' : (ix os j == 0) = false := by simpa using he
        clear he
        generalize ix os j = q at *
        go_wp2_with fail
        go_roundw
        case rel => exact ⟨j + 1, by omega, by simp, ⟨a, c, by rw [hnx.out], by rw [hnx.out]; exact hxs, by rw [hnx.out]; exact hcc⟩, hb⟩
        case measure =>
          simp [intOf]
          omega
    · obtain rfl : j = os.length := by omega
      have e0 : up os 0 os.length = goC os ex 0 := by rw [goC, fl, List.append_nil]
      rw [e0] at hxs hcc ⊢
      clear e0
      go_wp2_with fail
      go_loopw [26, 5] (fun v u wr => ∃ j : Nat, j ≤ ex.length ∧ v = .int .i64 j ∧ (∃ a c, u = .slice a (cz (goC os ex j)).length c ∧ IX wr a (cz (goC os ex j)) ∧ (cz (goC os ex j)).length ≤ c) ∧ Below w.heap.size w wr) (fun v _ _ => 100 - (intOf v).toNat)
      case atStart => exact ⟨0, Nat.zero_le _, rfl, ⟨a, c, rfl, hxs, hcc⟩, hb⟩
      case round =>
        clear hxs hcc hb
        obtain ⟨j, hj, rfl, ⟨a, c, rfl, hxs, hcc⟩, hb⟩ := hrel
        by_cases hlt : j < ex.length
        · obtain ⟨b, o, rfl, c0⟩ := hy.below hb j hlt
          have hlt' : (j : Int) < (ex.length : Int) := by omega
          obtain ⟨N, hN⟩ := Int.eq_ofNat_of_zero_le (h0 j hlt)
          have hnx : Hid (goC os ex (j + 1) = goC os ex j ++ grL os ((j : Int) + 1) N) := Hid.mk (by
            have hnx := goC_next os ex j
            rw [hN, show ((N : Nat) : Int).toNat = N from Int.toNat_natCast N] at hnx
            exact hnx)
          have GR := greatest_any (xc := xc) (hx.below hb) hl ((j : Int) + 1) N
          have hlen := goC_len_le ex hl j
          have hlen2 := grL_len_le os ((j : Int) + 1) N
          have G := fun W (h : Below wr.heap.size wr W) ya yc (hy : IX W ya (cz (grL os ((j : Int) + 1) N))) => grown_any (xc := c) (yc := yc) (hxs.below h) hcc hy (by rw [cz_len, cz_len]; omega)
          rw [hN] at c0
          clear hN hlen hlen2
          go_wp2_with (first
            | (go_at_call 32; (with_reducible refine GR.mono ?_); rintro e w2 ⟨a2, c2, rfl, x2, l2, b2⟩)
            | (go_at_call 30; (with_reducible refine (G _ b2 _ _ x2).mono ?_); rintro e w3 ⟨a3, c3, rfl, x3⟩))
          obtain ⟨x3, l3, _, b3⟩ := x3
          rw [← cz_app, ← hnx.out] at x3 l3
          go_roundw
          case rel => exact ⟨j + 1, by omega, by simp, ⟨a3, c3, by rw [hnx.out, cz_app, List.length_append], x3, l3⟩, below2 (below2 hb hb.size b2) (Nat.le_trans hb.size b2.size) b3⟩
          case measure =>
            simp [intOf]
            omega
        · obtain rfl : j = ex.length := by omega
          go_wp2_with fail
          go_ret
          exact ⟨a, c, rfl, hxs, hcc, hb⟩

theorem plC_len_le {lk : List Int} (h : ∀ i, i < lk.length → 0 ≤ ix lk i ∧ ix lk i ≤ 64) : ∀ j, j ≤ lk.length → (plC lk j).length ≤ 64 * j
  | 0, _ => Nat.zero_le _
  | j + 1, hj => by
    have := plC_len_le h j (by omega)
    have := h j (by omega)
    rw [plC_next, List.length_append, List.length_replicate]
    omega

set_option maxHeartbeats 1000000 in
theorem places_any {lk : List Int} (hx : IX w xa lk) (hl : lk.length ≤ 64) (h0 : ∀ i, i < lk.length → 0 ≤ ix lk i ∧ ix lk i ≤ 64) :
    Calls Try.prog 27 #[.slice xa lk.length xc] w fun e w' => ∃ a c, e = .returned (.slice a (plC lk lk.length).length c) ∧ IX w' a (plC lk lk.length) ∧ (plC lk lk.length).length ≤ c ∧ Below w.heap.size w w' := by
  go_enter Try.func27, Try.ntmps27
  go_wp2_with fail
  go_loopw [8, 3] (fun v u wr => ∃ j : Nat, j ≤ lk.length ∧ v = .int .i64 j ∧ (∃ a c, u = .slice a (plC lk j).length c ∧ IX wr a (plC lk j) ∧ (plC lk j).length ≤ c) ∧ Below w.heap.size w wr) (fun v _ _ => 100 - (intOf v).toNat)
  case atStart => exact ⟨0, Nat.zero_le _, rfl, ⟨none, 0, rfl, IX.nil _ _, Nat.le_refl _⟩, Below.refl _ _⟩
  case round =>
    obtain ⟨j, hj, rfl, ⟨a, c, rfl, hxs, hcc⟩, hb⟩ := hrel
    by_cases hlt : j < lk.length
    · obtain ⟨b, o, rfl, c0⟩ := hx.below hb j hlt
      have hlt' : (j : Int) < (lk.length : Int) := by omega
      obtain ⟨N, hN⟩ := Int.eq_ofNat_of_zero_le (h0 j hlt).1
      have hN64 : N ≤ 64 := by have := (h0 j hlt).2; omega
      have hnx : Hid (plC lk (j + 1) = plC lk j ++ List.replicate N ((j : Int) + 1)) := Hid.mk (by rw [plC_next, hN]; rfl)
      have hlen := plC_len_le h0 j (by omega)
      rw [hN] at c0
      clear hN
      go_wp2_with fail
      go_loopw [14, 3] (fun v u wr => ∃ m : Nat, m ≤ N ∧ v = .int .i64 m ∧ (∃ a c, u = .slice a (plC lk j ++ List.replicate m ((j : Int) + 1)).length c ∧ IX wr a (plC lk j ++ List.replicate m ((j : Int) + 1)) ∧ (plC lk j ++ List.replicate m ((j : Int) + 1)).length ≤ c) ∧ Below w.heap.size w wr) (fun v _ _ => 100 - (intOf v).toNat)
      case atStart => exact ⟨0, Nat.zero_le _, rfl, ⟨a, c, by simp, by simpa using hxs, by simpa using hcc⟩, hb⟩
      case round =>
        clear hxs hcc hb c0
        obtain ⟨m, hm, rfl, ⟨a, c, rfl, hxs, hcc⟩, hb⟩ := hrel
        by_cases hmt : m < N
        · have hmt' : (m : Int) < (N : Int) := by omega
          have G := grown1_any (xc := c) hxs hcc (by rw [List.length_append, List.length_replicate]; omega) ((j : Int) + 1)
          have e1 : (plC lk j ++ List.replicate m ((j : Int) + 1)) ++ [(j : Int) + 1] = plC lk j ++ List.replicate (m + 1) ((j : Int) + 1) := by
            rw [List.append_assoc, ← List.replicate_succ']
          rw [e1] at G
          clear e1 hlen hxs
          generalize hL : plC lk j ++ List.replicate m ((j : Int) + 1) = L at *
          generalize hL2 : plC lk j ++ List.replicate (m + 1) ((j : Int) + 1) = L2 at *
          go_wp2_with (first | (go_at_call 30; (with_reducible refine G.mono ?_); rintro e w2 ⟨a2, c2, rfl, x2, l2, b2⟩))
          go_roundw
          case rel => exact ⟨m + 1, by omega, by simp, ⟨a2, c2, by rw [hL2], by rw [hL2]; exact x2, by rw [hL2]; exact l2⟩, below2 hb hb.size b2⟩
          case measure =>
            simp [intOf]
            omega
        · obtain rfl : m = N := by omega
          rw [← hnx.out] at hxs hcc ⊢
          clear hnx hlen
          go_wp2_with fail
          go_roundw
          case rel => exact ⟨j + 1, by omega, by simp, ⟨a, c, rfl, hxs, hcc⟩, hb⟩
          case measure =>
            simp [intOf]
            omega
    · obtain rfl : j = lk.length := by omega
      go_wp2_with fail
      go_ret
      exact ⟨a, c, rfl, hxs, hcc, hb⟩
end
end Go.Proofs.Ytokigpmkhkldkaa
