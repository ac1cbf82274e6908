/- The walk of HeapChanges. -/
import Derived.Test.YtmogedfjhbfglaaTwo
import Derived.Test.YtmogedfjhbfglaaLowersWalk
namespace Go.Proofs.Ytmogedfjhbfglaa
open Go.RowKit

/-- An id that is there may be changed, and taken out. -/
theorem ask_there {N : Nat} {q : List Th} {a : Nat} {k : Int} (ha : a < N) (h : (a, k) ∈ q) : askE N q (a : Int) true 4 = 0 := by
  have hb : hasB q (a : Int) = true := hasB_iff.2 ⟨_, h, rfl⟩
  unfold askE
  rw [inN_of ha, if_pos rfl, if_pos hb]

set_option maxRecDepth 100000 in
set_option maxHeartbeats 4000000 in
theorem changes_any (a : Option Addr) (c : Nat) (ks : List Int) (x0 x1 key : Int) (w : World) (hk : Ints .i64 w a ks) (h00 : 0 ≤ x0) (h01 : x0 ≤ 18446744073709551615) (h10 : 0 ≤ x1) (h11 : x1 ≤ 18446744073709551615) :
    Calls Try.prog 5 #[.slice a ks.length c, .agg #[.int .u64 x0, .int .u64 x1], .int .i64 key] w fun e w' => e = .returned (.bool true) ∧ Below w.heap.size w w' := by
  have hB0 : Below w.heap.size w (w.alloc (.cells #[.int .u64 x0, .int .u64 x1] 46)) := (Below.refl _ w).alloc (Nat.le_refl _) _
  have hbx : (w.alloc (.cells #[.int .u64 x0, .int .u64 x1] 46)).cell? ⟨w.heap.size, 0, none⟩ = some (.int .u64 x0) ∧ (w.alloc (.cells #[.int .u64 x0, .int .u64 x1] 46)).cell? ⟨w.heap.size, 1, none⟩ = some (.int .u64 x1) := ⟨by simp [go_sem], by simp [go_sem]⟩
  by_cases hlen1 : ks.length < 2
  · have hlen' : (ks.length : Int) < 2 := by omega
    go_enter Try.func5, Try.ntmps5
    go_wp2_with (first
      | (go_at_call 8; refine (lives_any _).mono ?_; rintro e w2 ⟨rfl, b2⟩))
    go_ret
    exact ⟨rfl, hB0.trans (b2.mono hB0.size)⟩
  · by_cases hlen : 100 < ks.length
    · have hlen' : (100 : Int) < (ks.length : Int) := by omega
      have hlen2 : ¬ (ks.length : Int) < 2 := by omega
      go_enter Try.func5, Try.ntmps5
      go_wp2_with (first
        | (go_at_call 8; refine (lives_any _).mono ?_; rintro e w2 ⟨rfl, b2⟩))
      go_ret
      exact ⟨rfl, hB0.trans (b2.mono hB0.size)⟩
    · have hlen' : (ks.length : Int) ≤ 100 := by omega
      have hlen2 : 2 ≤ (ks.length : Int) := by omega
      have hk0 := hk.below hB0
      clear hk
      have N1 : Calls Try.prog 9 #[.int .i64 100] (w.alloc (.cells #[.int .u64 x0, .int .u64 x1] 46)) _ := new_some 100 (by decide) (by decide) _
      go_enter Try.func5, Try.ntmps5
      go_wp2_with (first
        | (go_at_call 9; (with_reducible refine N1.mono ?_); rintro e w1 ⟨B1, T1, rfl, h1, s1⟩)
        | (go_at_call 9; refine (new_some 100 (by decide) (by decide) _).mono ?_; rintro e w2 ⟨B2, T2, rfl, h2, s2⟩; have tw := Two.new h1 s1 h2 s2; obtain ⟨bx0, bx1⟩ := two_on tw.s.below hbx))
      clear N1
      generalize w.alloc (.cells #[.int .u64 x0, .int .u64 x1] 46) = W0 at *
      go_quiet (fail)
      obtain ⟨A, hA, hAn⟩ : ∃ A : Nat, wrap64 (x0 % (ks.length : Int)) = A ∧ A < ks.length := by
        have h1 := Int.emod_nonneg x0 (b := (ks.length : Int)) (by omega)
        have h2 := Int.emod_lt_of_pos x0 (b := (ks.length : Int)) (by omega)
        refine ⟨(x0 % (ks.length : Int)).toNat, ?_, by omega⟩
        rw [wrap64]
        omega
      obtain ⟨D, hD, hDn⟩ : ∃ D : Nat, wrap64 (x1 % (ks.length : Int)) = D ∧ D < ks.length := by
        have h1 := Int.emod_nonneg x1 (b := (ks.length : Int)) (by omega)
        have h2 := Int.emod_lt_of_pos x1 (b := (ks.length : Int)) (by omega)
        refine ⟨(x1 % (ks.length : Int)).toNat, ?_, by omega⟩
        rw [wrap64]
        omega
      rw [hA, hD]
      generalize x0 % (ks.length : Int) = r0 at *
      generalize x1 % (ks.length : Int) = r1 at *
      have tw1 := tw.keep ((But.refl [] w2).drewN nq)
      generalize w2.drewN nq = w3 at *
      clear hA hD bx0 bx1 tw h1 h2 s1 s2 hbx
      go_wp2_with fail
      go_loopw [48, 11, 12] (fun v _ _ wr => ∃ (j : Nat) (T1 T2 : List Nat) (q1 q2 : List Th), j ≤ ks.length ∧ v = .int .i64 j ∧ Two W0 wr B1 T1 B2 T2 100 q1 q2 ∧ q1.Perm (prs (ks.take j)) ∧ q2.Perm (chL A D key (prs (ks.take j)))) (fun v _ _ _ => 200 - (intOf v).toNat)
      case atStart => exact ⟨0, T1, T2, [], [], by omega, rfl, tw1, List.Perm.refl _, List.Perm.refl _⟩
      case round =>
        clear tw1 T1 T2
        obtain ⟨j, T1, T2, q1, q2, hj, rfl, tw, hq1, hq2⟩ := hrel
        by_cases hlt : j < ks.length
        · obtain ⟨b, o, rfl, hc⟩ := hk0.below tw.s.below j ks[j] (by simp)
          have hx : ks[j]? = some ks[j] := List.getElem?_eq_getElem hlt
          obtain ⟨e0, hq1'⟩ := put_next (N := 100) hq1 hx (by omega)
          have hch := chL_snoc A D key (prs (ks.take j)) j ks[j]
          rw [← prs_snoc hx] at hch
          have hn2 : ∀ p ∈ q2, p.1 ≠ j := fun p hp e => by
            obtain ⟨r, hr, e2⟩ := chL_ids (hq2.subset hp)
            have := (List.getElem?_eq_some_iff.1 (prs_mem.1 hr)).1
            rw [List.length_take] at this
            omega
          generalize ks[j] = x at *
          have PU := put_any tw.a (j : Int) x
          rw [e0] at PU
          generalize putS 100 q1 (j : Int) x = q1' at *
          have hlt' : (j : Int) < (ks.length : Int) := by omega
          clear hx e0
          by_cases eD : j = D
          · rw [if_pos eD, List.append_nil] at hch
            rw [← hch] at hq2
            subst eD
            clear hch hq1 hn2
            by_cases eA : j = A
            · subst eA
              go_wp2_with (first
                | (go_at_call 20; (with_reducible refine PU.mono ?_); rintro e w4 ⟨rfl, T3, h3, s3⟩; have tw3 := tw.left h3 s3))
              go_roundw
              case rel => exact ⟨j + 1, T3, T2, q1', q2, by omega, by simp, tw3, hq1', hq2⟩
              case measure =>
                simp [intOf]
                omega
            · have eA' : ((j : Int) == (A : Int)) = false := by simp; omega
              go_wp2_with (first
                | (go_at_call 20; (with_reducible refine PU.mono ?_); rintro e w4 ⟨rfl, T3, h3, s3⟩; have tw3 := tw.left h3 s3))
              go_roundw
              case rel => exact ⟨j + 1, T3, T2, q1', q2, by omega, by simp, tw3, hq1', hq2⟩
              case measure =>
                simp [intOf]
                omega
          · rw [if_neg eD] at hch
            have eD' : ((j : Int) == (D : Int)) = false := by simp; omega
            by_cases eA : j = A
            · rw [if_pos eA] at hch
              subst eA
              obtain ⟨e2, hp2⟩ := put_new (N := 100) (q := q2) (j := j) key (by omega) hn2
              have hq2' : (insq (j, key) q2).Perm (chL j D key (prs (ks.take (j + 1)))) := by
                rw [hch]
                exact (insq_perm _ _).trans ((hq2.cons _).trans (List.perm_append_comm (l₁ := [(j, key)])))
              have PG : ∀ W, HQ W B2 T2 100 q2 → _ := fun W h => put_any (w := W) h (j : Int) key
              rw [e2, hp2] at PG
              generalize insq (j, key) q2 = q2' at *
              clear hch hq2 hq1 hp2 e2 hn2
              go_wp2_with (first
                | (go_at_call 20; (with_reducible refine PU.mono ?_); rintro e w4 ⟨rfl, T3, h3, s3⟩; have tw3 := tw.left h3 s3)
                | (go_at_call 20; (with_reducible refine (PG _ tw3.b).mono ?_); rintro e w5 ⟨rfl, T4, h4, s4⟩; have tw4 := tw3.right h4 s4))
              go_roundw
              case rel => exact ⟨j + 1, T3, T4, q1', q2', by omega, by simp, tw4, hq1', hq2'⟩
              case measure =>
                simp [intOf]
                omega
            · rw [if_neg eA] at hch
              have eA' : ((j : Int) == (A : Int)) = false := by simp; omega
              obtain ⟨e2, hp2⟩ := put_new (N := 100) (q := q2) (j := j) x (by omega) hn2
              have hq2' : (insq (j, x) q2).Perm (chL A D key (prs (ks.take (j + 1)))) := by
                rw [hch]
                exact (insq_perm _ _).trans ((hq2.cons _).trans (List.perm_append_comm (l₁ := [(j, x)])))
              have PG : ∀ W, HQ W B2 T2 100 q2 → _ := fun W h => put_any (w := W) h (j : Int) x
              rw [e2, hp2] at PG
              generalize insq (j, x) q2 = q2' at *
              clear hch hq2 hq1 hp2 e2 hn2
              go_wp2_with (first
                | (go_at_call 20; (with_reducible refine PU.mono ?_); rintro e w4 ⟨rfl, T3, h3, s3⟩; have tw3 := tw.left h3 s3)
                | (go_at_call 20; (with_reducible refine (PG _ tw3.b).mono ?_); rintro e w5 ⟨rfl, T4, h4, s4⟩; have tw4 := tw3.right h4 s4))
              go_roundw
              case rel => exact ⟨j + 1, T3, T4, q1', q2', by omega, by simp, tw4, hq1', hq2'⟩
              case measure =>
                simp [intOf]
                omega
        · obtain rfl : j = ks.length := by omega
          rw [List.take_length] at hq1 hq2
          obtain ⟨kA, hkA⟩ : ∃ k, (A, k) ∈ q1 := ⟨ks[A], hq1.symm.subset (prs_mem.2 (List.getElem?_eq_getElem hAn))⟩
          obtain ⟨kD, hkD⟩ : ∃ k, (D, k) ∈ q1 := ⟨ks[D], hq1.symm.subset (prs_mem.2 (List.getElem?_eq_getElem hDn))⟩
          have hq2' : q2.Perm (chL A D key q1) := hq2.trans ((hq1.symm.map _).filter _)
          have CH := changed tw.a.srt tw.b.srt tw.a.nd hkA hq2'
          have e1 := ask_there (N := 100) (a := A) (by omega) hkA
          have e2 : chgS 100 q1 (A : Int) key = insq (A, key) (remq q1 (A : Int)) := by
            unfold chgS
            rw [if_pos e1, Int.toNat_natCast]
          obtain ⟨k3, hk3⟩ : ∃ k, (D, k) ∈ insq (A, key) (remq q1 (A : Int)) := by
            by_cases e : D = A
            · exact ⟨key, (insq_perm _ _).symm.subset (by rw [e]; simp)⟩
            · refine ⟨kD, (insq_perm _ _).symm.subset (List.mem_cons_of_mem _ ?_)⟩
              unfold remq
              rw [List.mem_filter]
              exact ⟨hkD, by simp; omega⟩
          have e3 := ask_there (N := 100) (a := D) (by omega) hk3
          have e4 : remS 100 (insq (A, key) (remq q1 (A : Int))) (D : Int) = q2 := by
            unfold remS
            rw [if_pos e3, CH]
          have e5 : hasB q2 (D : Int) = false := hasB_not.2 (fun p hp => by rw [← CH] at hp; exact (remq_not hp).2)
          have e6 := keyV_none e5
          have C1 := change_any tw.a (A : Int) key
          rw [e1, e2] at C1
          have hq4 : q2.length ≤ 4096 := by have := tw.b.sizes; omega
          have R1 : ∀ W T, HQ W B1 T 100 (insq (A, key) (remq q1 (A : Int))) → _ := fun W T h => remove_any (w := W) (T := T) h (D : Int)
          rw [e3, e4] at R1
          have K1 : ∀ W T, HQ W B1 T 100 q2 → _ := fun W T h => key_any (w := W) (T := T) h (D : Int)
          rw [e5, e6] at K1
          clear CH e1 e2 e3 e4 e5 e6 hq1 hq2 hq2' hk3 hkD hkA
          generalize insq (A, key) (remq q1 (A : Int)) = q3 at *
          go_wp2_with (first
            | (go_at_call 22; refine C1.mono ?_; rintro e w4 ⟨rfl, T3, h3, s3⟩; have tw3 := tw.left h3 s3)
            | (go_at_call 23; refine (R1 _ _ tw3.a).mono ?_; rintro e w5 ⟨rfl, T4, h4, s4⟩; have tw4 := tw3.left h4 s4)
            | (go_at_call 16; refine (K1 _ _ tw4.a).mono ?_; rintro e w6 ⟨rfl, d6⟩; have tw5 := tw4.keep d6.but)
            | (go_at_call 19; (with_reducible refine (all_any tw5.a).mono ?_); rintro e w7 ⟨sa, rfl, r7, b7⟩; have tw6 := tw5.keep (.of_below b7))
            | (go_at_call 19; (with_reducible refine (all_any tw6.b).mono ?_); rintro e w8 ⟨sb, rfl, r8, b8⟩; have tw7 := tw6.keep (.of_below b8); have r7b := r7.below b8)
            | (go_at_call 18; refine (ints_q _ _ _ _ hq4 r7b.at r8.at).mono ?_; rintro e w9 ⟨rfl, b9⟩; have tw8 := tw7.keep (.of_below b9))
            | (go_at_call 12; refine (sound_any tw8.a).mono ?_; rintro e w10 ⟨rfl, b10⟩; have tw9 := tw8.keep (.of_below b10))
            | (go_at_call 8; refine (lives_any _).mono ?_; rintro e w11 ⟨rfl, b11⟩))
          go_ret
          have z1 := hB0.trans (tw9.s.below.mono hB0.size)
          exact ⟨rfl, z1.trans (b11.mono z1.size)⟩
end Go.Proofs.Ytmogedfjhbfglaa
