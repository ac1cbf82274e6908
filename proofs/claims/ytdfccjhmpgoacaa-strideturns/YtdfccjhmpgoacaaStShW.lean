/- The walk of StrideShares. -/
import Derived.Test.YtdfccjhmpgoacaaStIdl
import Derived.Test.YtdfccjhmpgoacaaStOpen
namespace Go.Proofs.Ytdfccjhmpgoacaa.Str
open Go.RowKit Go.Proofs.Ytdfccjhmpgoacaa.Big

/-- The tickets that are made of them. -/
def tkL (xs : List Int) : List Int := xs.map (fun x => 1 + x)
theorem tk_len (xs : List Int) : (tkL xs).length = xs.length := by simp [tkL]
theorem ix_tk {xs : List Int} {j : Nat} (h : j < xs.length) : ix (tkL xs) j = 1 + ix xs j := by
  have e := ix_get (xs := tkL xs) (i := j) (by rw [tk_len]; exact h)
  unfold tkL at e ⊢
  rw [List.getElem?_map, ix_get h] at e
  simp at e
  exact e.symm
theorem tk_take {xs : List Int} {j : Nat} (h : j < xs.length) : (tkL xs).take (j + 1) = (tkL xs).take j ++ [1 + ix xs j] := by
  rw [List.take_add_one, ix_get (by rw [tk_len]; exact h), ix_tk h]
  rfl
theorem tk_all {xs : List Int} (h : ∀ j, j < xs.length → 0 ≤ ix xs j ∧ ix xs j ≤ 65535) : allB (tkL xs) = true := all_of (fun j hj => by
  rw [tk_len] at hj
  rw [ix_tk hj]
  have := h j hj
  exact good_iff.2 (by omega))
theorem RowI.ix_ {w : World} {base : Nat} {v : Value} {q : List Int} (h : RowI w base v q) : ∃ a c, v = .slice a q.length c ∧ IX w a q := by
  obtain ⟨a, c, e, _, _, _, hx⟩ := h.shape
  refine ⟨a, c, e, fun j hj => ?_⟩
  obtain ⟨g, e1, h1⟩ := hx j _ (ix_get hj)
  exact ⟨g, 0, e1, by rw [Nat.zero_add]; exact h1⟩
theorem RowI.low {w : World} {base : Nat} {v : Value} {q : List Int} (h : RowI w base v q) : ∀ k, v.ownBlock = some k → base ≤ k := fun k e => (World.ownsRow.lt h k e).1
/-- A thread's share, and the rest. -/
theorem share_of {T : List Int} {j : Nat} {Q : Int} (hg : allB T = true) (hn : T.length ≤ 32) (hj : j < T.length) (hQ : 0 ≤ Q) :
    idlQ T j Q * totI T + idlR T j Q = Q * ix T j ∧ 0 ≤ idlR T j Q ∧ idlR T j Q < totI T ∧ 0 ≤ idlQ T j Q ∧ idlQ T j Q ≤ Q := by
  have h : oneB T j = true := one_iff.2 ⟨⟨hn, by omega, by omega⟩, hg⟩
  obtain ⟨t0, t1, t2, t3⟩ := tot_bd hg hn hj
  rw [show idlQ T j Q = posI Q * ix T (j : Int).toNat / totI T from if_pos h, show idlR T j Q = posI Q * ix T (j : Int).toNat % totI T from if_pos h, show (j : Int).toNat = j by omega, show posI Q = Q from if_neg (by omega)]
  obtain ⟨_, _, _, _, e5, _, _⟩ := parts hQ (show 0 ≤ ix T j by omega) (show 0 < totI T by omega) t2
  have a0 : 0 ≤ Q * ix T j := Int.mul_nonneg hQ (by omega)
  have a1 := Int.emod_add_ediv_mul (Q * ix T j) (totI T)
  have a2 := Int.emod_nonneg (Q * ix T j) (show totI T ≠ 0 by omega)
  have a3 := Int.emod_lt_of_pos (Q * ix T j) (show 0 < totI T by omega)
  have a4 := Int.ediv_nonneg a0 (show 0 ≤ totI T by omega)
  have e1 := (parts hQ (show 0 ≤ ix T j by omega) (show 0 < totI T by omega) t2).1
  omega

section
variable {w : World} {xa : Option Addr} {xc : Nat} {xs : List Int}
set_option maxHeartbeats 2000000 in
theorem shares_any {Q : Int} (w : World) (hx : IU w xa xs) (hr : ∀ j, j < xs.length → 0 ≤ ix xs j ∧ ix xs j ≤ 65535) (hQ0 : 0 ≤ Q) (hQ1 : Q ≤ 65535) :
    Calls Try.prog 5 #[.slice xa xs.length xc, .int .u16 Q] w fun e w' => e = .returned (.bool true) ∧ Below w.heap.size w w' := by
  by_cases h0 : xs.length = 0
  · rw [h0]
    go_enter Try.func5, Try.ntmps5
    go_wp2_with (first | (go_at_call 18; (with_reducible refine (lives_any _).mono ?_); rintro e w1 ⟨rfl, rfl⟩))
    go_ret
    exact ⟨rfl, Below.refl _ _⟩
  have h0' : ((xs.length : Int) == 0) = false := by simp; intro h; exact h0 (by rw [h]; rfl)
  have h0'' : (xs.length == 0) = false := by simpa using h0
  by_cases h1 : 32 < xs.length
  · have h1' : (32 : Int) < (xs.length : Int) := by omega
    go_enter Try.func5, Try.ntmps5
    go_wp2_with (first | (go_at_call 18; (with_reducible refine (lives_any _).mono ?_); rintro e w1 ⟨rfl, rfl⟩))
    go_ret
    exact ⟨rfl, Below.refl _ _⟩
  have h1' : decide ((32 : Int) < (xs.length : Int)) = false := by simp; omega
  have hn : xs.length ≤ 32 := by omega
  have hg := tk_all hr
  have hbd := sum_bd (g := id) (xs := tkL xs) (K := 65536) (fun j hj => by have := good_iff.1 (all_ix hg hj); simp only [id]; omega)
  have hlen : (tkL xs).length = xs.length := tk_len xs
  have hpos : 0 < xs.length := by omega
  rw [hlen] at hbd
  have R0 : RowI w w.heap.size (.slice none 0 0) ((tkL xs).take 0) := ⟨rfl, .inl ⟨rfl, rfl⟩⟩
  clear h0 h1
  go_enter Try.func5, Try.ntmps5
  go_wp2_with fail
  go_loopw [25, 5, 6, 8] (fun v tv s _ wr => ∃ j : Nat, j ≤ xs.length ∧ v = .int .i64 j ∧ s = .int .i64 (sumG id (tkL xs) j) ∧ RowI wr w.heap.size tv ((tkL xs).take j) ∧ Below w.heap.size w wr) (fun v _ _ _ _ => 40 - (intOf v).toNat)
  case atStart => exact ⟨0, Nat.zero_le _, rfl, rfl, R0, Below.refl _ _⟩
  case round =>
    obtain ⟨j, hj, rfl, rfl, hR, hb⟩ := hrel
    by_cases hlt : j < xs.length
    · obtain ⟨b, o, rfl, c0⟩ := hx j hlt
      replace c0 := cell_on hb c0
      have hlt' : (j : Int) < (xs.length : Int) := by omega
      have h2 := hr j hlt
      have h3 := hbd j hj
      have h4 : (j : Int) * 65536 ≤ 32 * 65536 := by omega
      have HN : Hid (sumG id (tkL xs) (j + 1) = sumG id (tkL xs) j + (1 + ix xs j)) := by
        show sumG id (tkL xs) j + ix (tkL xs) j = _
        rw [ix_tk hlt]
      have HT : Hid ((tkL xs).take (j + 1) = (tkL xs).take j ++ [1 + ix xs j]) := tk_take hlt
      have hTl : ((tkL xs).take j).length ≤ 10000 := by rw [List.length_take, hlen]; omega
      generalize ix xs j = x at *
      generalize sumG id (tkL xs) j = t at *
      generalize (tkL xs).take j = TJ at *
      obtain ⟨h2a, h2b⟩ := h2
      obtain ⟨h3a, h3b⟩ := h3
      have hR1 := hR.below ((Below.refl _ wr).alloc (Nat.le_refl _) (.cells #[.int .i64 (1 + x)] 3))
      have hlow := hR.low
      have hsz : w.heap.size ≤ (wr.alloc (.cells #[.int .i64 (1 + x)] 3)).heap.size := by have := hb.size; simp; omega
      have hb1 : Below w.heap.size w (wr.alloc (.cells #[.int .i64 (1 + x)] 3)) := hb.alloc hb.size _
      clear hbd
      go_wp2_with (first
        | (at_builtin; refine wpList_app1 rfl (.tmp 29) (.tmp 33) rfl w.heap.size _ TJ rfl hR1 _ _ (1 + x) rfl (reads_one _ _) hTl hsz ?_; intro v3 w3 hr3 hg3 ha3; have hb3 := hb1.trans (grown_below hg3 hsz hlow); clear hR1 hg3 ha3 hb1 hsz hR))
      go_roundw
      case rel => exact ⟨j + 1, by omega, by simp, by rw [HN.out], by rw [HT.out]; exact hr3, hb3⟩
      case measure =>
        simp [intOf]
        omega
    · obtain rfl : j = xs.length := by omega
      rw [show (tkL xs).take xs.length = tkL xs by rw [List.take_of_length_le (by omega)]] at hR
      obtain ⟨ta, tc, rfl, hI⟩ := hR.ix_
      clear hR
      have hS : Hid (sumG id (tkL xs) xs.length = totI (tkL xs)) := by unfold Hid totI; rw [hlen]
      have SH := fun j hj => share_of (T := tkL xs) (j := j) (Q := Q) hg (by omega) hj hQ0
      have TB := tot_bd hg (by omega) (k := 0) (by omega)
      rw [hS.out]
      have hlt' : ¬ (xs.length : Int) < (xs.length : Int) := by omega
      generalize hT : tkL xs = T at *
      clear hT hr hg R0
      obtain ⟨TB0, TB1, TB2, TB3⟩ := TB
      generalize hn' : xs.length = n at *
      clear hn'
      subst hlen
      have ID := fun W (h : Below wr.heap.size wr W) i => ideal_any (w := W) (xc := tc) (hI.below h) i Q (by omega) (by omega)
      obtain ⟨S, hSS⟩ : ∃ S, Hid (totI T = S) := ⟨_, rfl⟩
      rw [hSS.out] at SH TB2 TB3 ⊢
      have sS : 0 < S := by omega
      have hQS : Q * S ≤ 65535 * 2097152 := Int.mul_le_mul hQ1 TB3 (by omega) (by omega)
      clear TB0 TB1 TB2 hbd
      obtain ⟨wA, hwA⟩ : ∃ x, x = wr := ⟨_, rfl⟩
      subst hwA
      go_wp2_with fail
      go_loopw [43, 9, 10, 11, 12, 13] (fun v nn rr _ _ _ wq => ∃ j : Nat, j ≤ T.length ∧ v = .int .i64 j ∧ (∃ N R : Int, nn = .int .i64 N ∧ rr = .int .i64 R ∧ N * S + R = Q * sumG id T j ∧ 0 ≤ N ∧ N ≤ (j : Int) * 65535 ∧ 0 ≤ R ∧ R ≤ (j : Int) * 2097152) ∧ Below wA.heap.size wA wq) (fun v _ _ _ _ _ _ => 40 - (intOf v).toNat)
      case atStart => exact ⟨0, Nat.zero_le _, rfl, ⟨0, 0, rfl, rfl, by simp [sumG], by omega, by omega, by omega, by omega⟩, Below.refl _ _⟩
      case round =>
        obtain ⟨j, hj2, rfl, ⟨N, R, rfl, rfl, e1, n0, n1, r0, r1⟩, hb2⟩ := hrel
        have E1 := Hid.mk e1
        clear e1
        by_cases hlt2 : j < T.length
        · have hlt2' : (j : Int) < (T.length : Int) := by omega
          obtain ⟨s1, s2, s3, s4, s5⟩ := SH j hlt2
          have CL := ID wr hb2 (j : Int)
          have HN : Hid (sumG id T (j + 1) = sumG id T j + ix T j) := rfl
          generalize idlQ T j Q = q at *
          generalize idlR T j Q = r at *
          generalize ix T j = t at *
          generalize sumG id T j = sj at *
          have HE : Hid ((N + q) * S + (R + r) = Q * (sj + t)) := by
            have e1 := E1.out
            unfold Hid
            rw [Int.add_mul, Int.mul_add]
            omega
          have n2 : (j : Int) * 65535 ≤ 32 * 65535 := by omega
          have r2 : (j : Int) * 2097152 ≤ 32 * 2097152 := by omega
          clear SH ID s1 E1
          go_wp2_with (first | (go_at_call 19; (with_reducible refine CL.mono ?_); rintro e w1 ⟨rfl, b1⟩))
          go_roundw
          case rel => exact ⟨j + 1, by omega, by simp, ⟨_, _, rfl, rfl, by rw [HN.out]; exact HE.out, by omega, by omega, by omega, by omega⟩, below2 hb2 hb2.size b1⟩
          case measure =>
            simp [intOf]
            omega
        · obtain rfl : j = T.length := by omega
          have e1 := E1.out
          rw [hS.out, hSS.out] at e1
          have hNS : 0 ≤ N * S := Int.mul_nonneg n0 (by omega)
          have hb3 := below2 hb hb.size hb2
          generalize hA : N * S = A at *
          generalize hQ : Q * S = C at *
          have w1 : IntKind.i64.wrap (N * S) = A := by rw [hA]; simp only [IntKind.wrap, IntKind.bits, IntKind.signed]; simp; omega
          have w2 : IntKind.i64.wrap (Q * S) = C := by rw [hQ]; simp only [IntKind.wrap, IntKind.bits, IntKind.signed]; simp; omega
          have w3 : (A + R == C) = true := by rw [e1]; simp
          have w4 : IntKind.i64.wrap (A + R) = A + R := by simp only [IntKind.wrap, IntKind.bits, IntKind.signed]; simp; omega
          clear hA hQ SH ID E1 e1 hS hSS
          go_wp2_with (first | (go_at_call 18; (with_reducible refine (lives_any _).mono ?_); rintro e w1 ⟨rfl, rfl⟩))
          go_ret
          exact ⟨rfl, hb3⟩
end
end Go.Proofs.Ytdfccjhmpgoacaa.Str
