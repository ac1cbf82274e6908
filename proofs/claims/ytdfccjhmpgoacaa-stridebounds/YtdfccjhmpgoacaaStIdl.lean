/- The program's Ideal; the document's Bound. -/
import Derived.Test.YtdfccjhmpgoacaaStSum
import Derived.Test.YtdfccjhmpgoacaaNPartN
namespace Go.Proofs.Ytdfccjhmpgoacaa.Str
open Go.RowKit Go.Proofs.Ytdfccjhmpgoacaa.Big

/-- All tickets; a thread's share of quanta, and the rest. -/
def totI (xs : List Int) : Int := sumG id xs xs.length
def posI (q : Int) : Int := if q < 0 then 0 else q
def idlQ (xs : List Int) (i q : Int) : Int := if oneB xs i = true then posI q * ix xs i.toNat / totI xs else 0
def idlR (xs : List Int) (i q : Int) : Int := if oneB xs i = true then posI q * ix xs i.toNat % totI xs else 0

theorem sum_ge {xs : List Int} (h : ∀ j, j < xs.length → 1 ≤ ix xs j) : ∀ (m k : Nat), m ≤ xs.length → k < m → ix xs k ≤ sumG id xs m
  | 0, _, _, hk => by omega
  | m + 1, k, hm, hk => by
    have p : ∀ m, m ≤ xs.length → 0 ≤ sumG id xs m := fun m hm => by
      induction m with
      | zero => simp [sumG]
      | succ m ih =>
        have := ih (by omega)
        have := h m (by omega)
        show 0 ≤ sumG id xs m + ix xs m
        omega
    show ix xs k ≤ sumG id xs m + ix xs m
    by_cases e : k = m
    · subst e
      have := p k (by omega)
      omega
    · have := sum_ge h m k (by omega) (by omega)
      have := h m (by omega)
      omega
theorem tot_bd {xs : List Int} (hg : allB xs = true) (hn : xs.length ≤ 32) {k : Nat} (hk : k < xs.length) : 1 ≤ ix xs k ∧ ix xs k ≤ 65536 ∧ ix xs k ≤ totI xs ∧ totI xs ≤ 2097152 := by
  have h1 := good_iff.1 (all_ix hg hk)
  have h2 := sum_ge (xs := xs) (fun j hj => (good_iff.1 (all_ix hg hj)).1) xs.length k (Nat.le_refl _) hk
  have h3 := (sum_bd (g := id) (xs := xs) (K := 65536) (fun j hj => by have := good_iff.1 (all_ix hg hj); simp only [id]; omega) xs.length (Nat.le_refl _)).2
  have h4 : (xs.length : Int) * 65536 ≤ 32 * 65536 := by omega
  unfold totI
  omega
/-- The share of what is left behind whole rounds. -/
theorem parts {p o S : Int} (hp : 0 ≤ p) (ho : 0 ≤ o) (hS : 0 < S) (hoS : o ≤ S) :
    (p / S) * o + (p % S * o) / S = p * o / S ∧ (p % S * o) % S = p * o % S ∧ 0 ≤ (p / S) * o ∧ 0 ≤ (p % S * o) / S ∧ (p / S) * o + (p % S * o) / S ≤ p ∧ 0 ≤ p % S * o ∧ p % S * o ≤ S * S := by
  have e : p * o = (p % S * o) + S * ((p / S) * o) := by
    have := Int.emod_add_mul_ediv p S
    rw [← Int.mul_assoc, ← Int.add_mul, this]
  have m0 := Int.emod_nonneg p (show S ≠ 0 by omega)
  have m1 := Int.emod_lt_of_pos p hS
  have d0 := Int.ediv_nonneg hp (show 0 ≤ S by omega)
  have a0 : 0 ≤ p % S * o := Int.mul_nonneg m0 ho
  have a1 : p % S * o ≤ S * S := Int.mul_le_mul (by omega) hoS ho (by omega)
  have q1 : p * o / S = (p % S * o) / S + (p / S) * o := by
    rw [e, Int.add_mul_ediv_left _ _ (by omega)]
  have q2 : p * o % S = (p % S * o) % S := by
    rw [e, Int.add_mul_emod_self_left]
  have q3 : p * o / S ≤ p := by
    have : p * o ≤ p * S := Int.mul_le_mul_of_nonneg_left hoS hp
    have h := Int.ediv_le_ediv hS this
    rwa [Int.mul_ediv_cancel _ (by omega)] at h
  refine ⟨by omega, q2.symm, Int.mul_nonneg d0 ho, Int.ediv_nonneg a0 (by omega), by omega, a0, a1⟩

section
variable {w : World} {xa : Option Addr} {xc : Nat} {xs : List Int}
set_option maxHeartbeats 1000000 in
theorem ideal_any (hx : IX w xa xs) (i q : Int) (hq0 : -9223372036854775808 ≤ q) (hq1 : q ≤ 9223372036854775807) :
    Calls Try.prog 19 #[.slice xa xs.length xc, .int .i64 i, .int .i64 q] w fun e w' => e = .returned (.tuple #[.int .i64 (idlQ xs i q), .int .i64 (idlR xs i q)]) ∧ Below w.heap.size w w' := by
  have O := isone_any (w := w) (xc := xc) hx i
  cases h : oneB xs i
  · rw [h] at O
    rw [show idlQ xs i q = 0 by unfold idlQ; rw [h]; rfl, show idlR xs i q = 0 by unfold idlR; rw [h]; rfl]
    go_enter Try.func19, Try.ntmps19
    go_wp2_with (first | (go_at_call 34; (with_reducible refine O.mono ?_); rintro e w1 ⟨rfl, rfl⟩))
    go_ret2
    exact ⟨rfl, Below.refl _ _⟩
  · rw [h] at O
    rw [show idlQ xs i q = posI q * ix xs i.toNat / totI xs from if_pos h, show idlR xs i q = posI q * ix xs i.toNat % totI xs from if_pos h]
    obtain ⟨⟨hn, hi0, hi1⟩, hg⟩ := one_iff.1 h
    obtain ⟨k, rfl⟩ := Int.eq_ofNat_of_zero_le hi0
    have hk : k < xs.length := by omega
    rw [show (k : Int).toNat = k by omega]
    have SM := sums_any (w := w) (xc := xc) hx hg hn
    change Calls _ _ _ _ (fun e w' => e = .returned (.int .i64 (totI xs)) ∧ w' = w) at SM
    obtain ⟨b, o, rfl, c0⟩ := hx k hk
    obtain ⟨t0, t1, t2, t3⟩ := tot_bd hg hn hk
    generalize totI xs = S at *
    generalize ix xs k = x at *
    by_cases hq : q < 0
    · rw [show posI q = 0 from if_pos hq, Int.zero_mul, Int.zero_ediv, Int.zero_emod]
      have D0 : ∀ W, Calls Try.prog 37 #[.int .i64 0, .int .i64 S] W fun e w' => e = .returned (.tuple #[.int .i64 0, .int .i64 0, .bool true]) ∧ Below W.heap.size W w' := fun W =>
        (div_yes 0 S W (by omega) (by omega) (by omega) (by omega) (by omega) (by omega)).mono (fun e w' ⟨q1, r1, he, hd, hb⟩ => by
          obtain ⟨rfl, rfl⟩ := divof_pos (by omega) hd
          rw [Int.zero_ediv, Int.zero_emod] at he
          exact ⟨he, hb⟩)
      clear h hg hn
      go_enter Try.func19, Try.ntmps19
      go_wp2_with (first
        | (go_at_call 34; (with_reducible refine O.mono ?_); rintro e w1 ⟨rfl, hw⟩; subst w1)
        | (go_at_call 35; (with_reducible refine SM.mono ?_); rintro e w1 ⟨rfl, hw⟩; subst w1)
        | (go_at_call 37; (with_reducible refine (D0 w).mono ?_); rintro e w2 ⟨rfl, b2⟩)
        | (go_at_call 37; (with_reducible refine (D0 _).mono ?_); rintro e w3 ⟨rfl, b3⟩))
      all_goals
        go_ret2
        exact ⟨rfl, below2 b2 b2.size b3⟩
    · rw [show posI q = q from if_neg hq]
      have hq0' : 0 ≤ q := by omega
      obtain ⟨e1, e2, e3, e4, e5, e6, e7⟩ := parts hq0' (show 0 ≤ x by omega) (show 0 < S by omega) t2
      have hSS : S * S ≤ 2097152 * 2097152 := Int.mul_le_mul t3 t3 (by omega) (by omega)
      have hS0 : 0 < S := by omega
      have D1 : ∀ W, Calls Try.prog 37 #[.int .i64 q, .int .i64 S] W fun e w' => e = .returned (.tuple #[.int .i64 (q / S), .int .i64 (q % S), .bool true]) ∧ Below W.heap.size W w' := fun W =>
        (div_yes q S W (by omega) (by omega) (by omega) (by omega) (by omega) (by omega)).mono (fun e w' ⟨q1, r1, he, hd, hb⟩ => by
          obtain ⟨rfl, rfl⟩ := divof_pos hS0 hd
          exact ⟨he, hb⟩)
      have D2 : ∀ W, Calls Try.prog 37 #[.int .i64 (q % S * x), .int .i64 S] W fun e w' => e = .returned (.tuple #[.int .i64 (q % S * x / S), .int .i64 (q % S * x % S), .bool true]) ∧ Below W.heap.size W w' := fun W =>
        (div_yes (q % S * x) S W (by omega) (by omega) (by omega) (by omega) (by omega) (by omega)).mono (fun e w' ⟨q1, r1, he, hd, hb⟩ => by
          obtain ⟨rfl, rfl⟩ := divof_pos hS0 hd
          exact ⟨he, hb⟩)
      have E1 := Hid.mk e1
      have E2 := Hid.mk e2
      have hy1 : q % S * x ≤ 4398046511104 := by omega
      clear h hg hn hSS e1 e2 e7 t0 t1 t2 t3 hS0
      generalize q % S * x % S = v4 at *
      generalize q % S * x / S = v3 at *
      generalize q / S = v1 at *
      generalize q % S = v2 at *
      obtain ⟨v5, hv5⟩ : ∃ v5, v2 * x = v5 := ⟨_, rfl⟩
      obtain ⟨v6, hv6⟩ : ∃ v6, v1 * x = v6 := ⟨_, rfl⟩
      rw [hv5] at D2 e6 hy1
      rw [hv6] at e3 e5
      have w5 : IntKind.i64.wrap (v2 * x) = v5 := by rw [hv5]; simp only [IntKind.wrap, IntKind.bits, IntKind.signed]; simp; omega
      have w6 : IntKind.i64.wrap (v1 * x) = v6 := by rw [hv6]; simp only [IntKind.wrap, IntKind.bits, IntKind.signed]; simp; omega
      have w7 : IntKind.i64.wrap (v6 + v3) = v6 + v3 := by simp only [IntKind.wrap, IntKind.bits, IntKind.signed]; simp; omega
      have hq' : ¬ q < 0 := hq
      replace hv5 := Hid.mk hv5
      replace hv6 := Hid.mk hv6
      go_enter Try.func19, Try.ntmps19
      go_wp2_with (first
        | (go_at_call 34; (with_reducible refine O.mono ?_); rintro e w1 ⟨rfl, hw⟩; subst w1)
        | (go_at_call 35; (with_reducible refine SM.mono ?_); rintro e w1 ⟨rfl, hw⟩; subst w1)
        | (go_at_call 37; (with_reducible refine (D1 _).mono ?_); rintro e w2 ⟨rfl, b2⟩)
        | (go_at_call 37; (with_reducible refine (D2 _).mono ?_); rintro e w3 ⟨rfl, b3⟩))
      go_ret2
      exact ⟨by rw [E2.out, ← E1.out, hv6.out]; rfl, below2 b2 b2.size b3⟩
end
end Go.Proofs.Ytdfccjhmpgoacaa.Str
