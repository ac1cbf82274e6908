/- The contract of the statements' act: a device and the reference's, alike. -/
import Derived.Test.YtdhgffnlocgfkaaRefY
import Derived.Test.YtdhgffnlocgfkaaLives
import Derived.Test.YtdhgffnlocgfkaaOpens
namespace Go.Proofs.Ytdhgffnlocgfkaa
open Go.RowKit

/-- A device of the program's and one of the reference's, alike, laid apart. -/
structure Pr (W0 w : World) (B : Nat) (T : List Nat) (M : Nat) (R : List Nat) (N la dn la' dn' : Nat) (xs xs' : List Rq) : Prop where
  a : DQ w B T N la dn xs
  r : RQ w M R N la' dn' xs'
  d : Disj T R
  s : Step [] W0 (T ++ R) w
section
variable {W0 w w' : World} {B M N la dn la' dn' l2 d2 : Nat} {T R T' R' : List Nat} {xs xs' ys : List Rq}
theorem Pr.keep (h : Pr W0 w B T M R N la dn la' dn' xs xs') (hb : But [] w w') : Pr W0 w' B T M R N la dn la' dn' xs xs' := ⟨h.a.keep hb, h.r.keep hb, h.d, h.s.trans (Step.keep hb)⟩
theorem Pr.below (h : Pr W0 w B T M R N la dn la' dn' xs xs') (hb : Below w.heap.size w w') : Pr W0 w' B T M R N la dn la' dn' xs xs' := h.keep (.of_below hb)
theorem Pr.left (h : Pr W0 w B T M R N la dn la' dn' xs xs') (h' : DQ w' B T' N l2 d2 ys) (st : Step T w T' w') : Pr W0 w' B T' M R N l2 d2 la' dn' ys xs' := ⟨h', h.r.but st.but h.d.symm, h.d.step st h.r.lt, h.s.trans (st.left R)⟩
theorem Pr.right (h : Pr W0 w B T M R N la dn la' dn' xs xs') (h' : RQ w' M R' N l2 d2 ys) (st : Step R w R' w') : Pr W0 w' B T M R' N la dn l2 d2 xs ys := ⟨h.a.but st.but h.d, h', (h.d.symm.step st h.a.lt).symm, h.s.trans (st.right T)⟩
theorem Pr.out (h : Pr W0 w B T M R N la dn la' dn' xs xs') {A : Nat} (hA : w.heap.size ≤ A) : A ∉ T ++ R := fun e => by
  rcases List.mem_append.1 e with e | e
  · have := h.a.lt A e; omega
  · have := h.r.lt A e; omega
end

/-- What act leaves. -/
def actL (N la : Nat) (xs : List Rq) (a : Ac) : Nat := if a.1 = 0 then staL N la xs a.2.2 else la
def actD (dn : Nat) (xs : List Rq) (a : Ac) : Nat := if a.1 = 1 then finD dn xs else dn
def actX (N la : Nat) (xs : List Rq) (a : Ac) : List Rq := if a.1 = 0 then staX N la xs a.2.2 else if a.1 = 1 then finX xs a.2.1 else if a.1 = 2 then canX xs a.2.1 else xs
theorem actL_le (N la : Nat) (xs : List Rq) (a : Ac) : actL N la xs a ≤ la + 1 := by
  unfold actL staL
  split
  · split <;> omega
  · omega
theorem actD_le (dn : Nat) (xs : List Rq) (a : Ac) : actD dn xs a ≤ dn + 1 := by
  unfold actD finD
  split
  · split <;> omega
  · omega

theorem at7_new (w : World) (a b c d e f g : Int) : At7 (w.alloc (.cells #[.int .i64 a, .int .i64 b, .int .i64 c, .int .i64 d, .int .i64 e, .int .i64 f, .int .i64 g] 31)) w.heap.size 0 (a, b, c, d, e, f, g) := ⟨by simp [go_sem], by simp [go_sem], by simp [go_sem], by simp [go_sem], by simp [go_sem], by simp [go_sem], by simp [go_sem]⟩

section
variable {W0 w : World} {B M N la dn : Nat} {T R : List Nat} {xs : List Rq}

set_option maxRecDepth 100000 in
set_option maxHeartbeats 4000000 in
theorem act_any (h : Pr W0 w B T M R N la dn la dn xs xs) (hla : la ≤ 10000) (hdn : dn ≤ 10000) (kd kk i s t k z : Int) :
    Calls Try.prog 10 #[.pointer (some ⟨B, 0, none⟩), .pointer (some ⟨M, 0, none⟩), .agg #[.int .i64 kd, .int .i64 kk, .int .i64 i, .int .i64 s, .int .i64 t, .int .i64 k, .int .i64 z]] w fun e w' => e = .returned (.bool true) ∧ ∃ T' R', Pr W0 w' B T' M R' N (actL N la xs (kd, kk, i, s, t, k, z)) (actD dn xs (kd, kk, i, s, t, k, z)) (actL N la xs (kd, kk, i, s, t, k, z)) (actD dn xs (kd, kk, i, s, t, k, z)) (actX N la xs (kd, kk, i, s, t, k, z)) (actX N la xs (kd, kk, i, s, t, k, z)) ∧ Step (T ++ R) w (T' ++ R') w' := by
  have hlen := h.a.len
  have hx4 : xs.length ≤ 4096 := by omega
  have hok := h.a.ok
  have ba : Below w.heap.size w (w.alloc (.cells #[.int .i64 kd, .int .i64 kk, .int .i64 i, .int .i64 s, .int .i64 t, .int .i64 k, .int .i64 z] 31)) := (Below.refl _ _).alloc (Nat.le_refl _) _
  have ha := h.below ba
  have hA := at7_new w kd kk i s t k z
  have hout := h.out (A := w.heap.size) (Nat.le_refl _)
  have sa : Step (T ++ R) w (T ++ R) (w.alloc (.cells #[.int .i64 kd, .int .i64 kk, .int .i64 i, .int .i64 s, .int .i64 t, .int .i64 k, .int .i64 z] 31)) := Step.keep (.of_below ba)
  by_cases k0 : kd = 0
  · subst k0
    have eL : actL N la xs (0, kk, i, s, t, k, z) = staL N la xs (i, s, t, k, z) := rfl
    have eD : actD dn xs (0, kk, i, s, t, k, z) = dn := rfl
    have eX : actX N la xs (0, kk, i, s, t, k, z) = staX N la xs (i, s, t, k, z) := rfl
    rw [eL, eD, eX]
    have SA := start_any ha.a (by omega) i s t k z
    have RA := fun W T2 (p : Pr W0 W B T2 M R N (staL N la xs (i, s, t, k, z)) dn la dn (staX N la xs (i, s, t, k, z)) xs) => rstart_any p.r (by omega) hx4 i s t k z
    generalize staI N la xs (i, s, t, k, z) = y1 at *
    generalize staE N xs (i, s, t, k, z) = y2 at *
    generalize staL N la xs (i, s, t, k, z) = l2 at *
    generalize staX N la xs (i, s, t, k, z) = x2 at *
    have HT : ∀ W T2, Step T (w.alloc (.cells #[.int .i64 0, .int .i64 kk, .int .i64 i, .int .i64 s, .int .i64 t, .int .i64 k, .int .i64 z] 31)) T2 W → At7 W w.heap.size 0 (0, kk, i, s, t, k, z) := fun W T2 st => hA.but st.but (fun e => hout (by simp [e]))
    clear eL eD eX
    go_enter Try.func10, Try.ntmps10
    go_wp2_with (first
      | (go_at_call 16; (with_reducible refine SA.mono ?_); rintro e w2 ⟨rfl, T2, d2, s2⟩; have p2 := ha.left d2 s2; obtain ⟨u0, u1, u2, u3, u4, u5, u6⟩ := HT _ _ s2; dsimp only at u0 u1 u2 u3 u4 u5 u6)
      | (go_at_call 21; (with_reducible refine (RA _ _ p2).mono ?_); rintro e w3 ⟨rfl, R3, r3, s3⟩; have p3 := p2.right r3 s3))
    go_ret
    exact ⟨rfl, _, _, p3, (sa.trans (s2.left R)).trans (s3.right T2)⟩
  · have k0' : (kd == 0) = false := by simpa using k0
    by_cases k1 : kd = 1
    · subst k1
      have eL : actL N la xs (1, kk, i, s, t, k, z) = la := rfl
      have eD : actD dn xs (1, kk, i, s, t, k, z) = finD dn xs := rfl
      have eX : actX N la xs (1, kk, i, s, t, k, z) = finX xs kk := rfl
      rw [eL, eD, eX]
      have FA := finish_any ha.a (by omega) kk
      have RA := fun W T2 (p : Pr W0 W B T2 M R N la (finD dn xs) la dn (finX xs kk) xs) => rfinish_any p.r hok (by omega) hx4 kk
      generalize finR xs kk = r at *
      obtain ⟨ri, rs, rt, rk, rz⟩ := r
      simp only [a5] at FA RA
      generalize finV xs kk = y1 at *
      generalize finE xs = y2 at *
      generalize finD dn xs = d2 at *
      generalize finX xs kk = x2 at *
      have HT : ∀ W T2, Step T (w.alloc (.cells #[.int .i64 1, .int .i64 kk, .int .i64 i, .int .i64 s, .int .i64 t, .int .i64 k, .int .i64 z] 31)) T2 W → At7 (W.alloc (.cells #[.int .i64 ri, .int .i64 rs, .int .i64 rt, .int .i64 rk, .int .i64 rz] 29)) w.heap.size 0 (1, kk, i, s, t, k, z) := fun W T2 st => (hA.but st.but (fun e => hout (by simp [e]))).below ((Below.refl _ _).alloc (Nat.le_refl _) _)
      clear eL eD eX
      go_enter Try.func10, Try.ntmps10
      go_wp2_with (first
        | (go_at_call 17; (with_reducible refine FA.mono ?_); rintro e w2 ⟨rfl, T2, d2, s2⟩; have p2 := (ha.left d2 s2).keep ((But.refl [] w2).alloc (.cells #[.int .i64 ri, .int .i64 rs, .int .i64 rt, .int .i64 rk, .int .i64 rz] 29)); have a2 := at5_new w2 ri rs rt rk rz 29; obtain ⟨u0, u1, u2, u3, u4, u5, u6⟩ := HT _ _ s2; dsimp only at u0 u1 u2 u3 u4 u5 u6)
        | (go_at_call 22; (with_reducible refine (RA _ _ p2).mono ?_); rintro e w3 ⟨rfl, R3, r3, s3⟩; have p3 := (p2.right r3 s3).keep ((But.refl [] w3).alloc (.cells #[.int .i64 ri, .int .i64 rs, .int .i64 rt, .int .i64 rk, .int .i64 rz] 60)); have nr : w2.heap.size ∉ R := fun e => by { have := (ha.left d2 s2).r.lt _ e; omega }; obtain ⟨q0, q1, q2, q3, q4⟩ := (a2.but s3.but nr).below (w' := w3.alloc (.cells #[.int .i64 ri, .int .i64 rs, .int .i64 rt, .int .i64 rk, .int .i64 rz] 60)) ((Below.refl _ _).alloc (Nat.le_refl _) _); dsimp only at q0 q1 q2 q3 q4))
      go_ret
      exact ⟨rfl, _, _, p3, (((sa.trans (s2.left R)).trans (Step.keep ((But.refl [] w2).alloc _))).trans (s3.right T2)).trans (Step.keep ((But.refl [] w3).alloc _))⟩
    · have k1' : (kd == 1) = false := by simpa using k1
      by_cases k2 : kd = 2
      · subst k2
        have eL : actL N la xs (2, kk, i, s, t, k, z) = la := rfl
        have eD : actD dn xs (2, kk, i, s, t, k, z) = dn := rfl
        have eX : actX N la xs (2, kk, i, s, t, k, z) = canX xs kk := rfl
        rw [eL, eD, eX]
        have hd := ha.keep (But.refl [] _).drew
        have CA := cancel_any hd.a kk
        have RA := fun W T2 (p : Pr W0 W B T2 M R N la dn la dn (canX xs kk) xs) => rcancel_any p.r hx4 kk
        generalize canN xs kk = y1 at *
        generalize canX xs kk = x2 at *
        have u1 := hA.2.1
        have HT : ∀ W T2, Step T (w.alloc (.cells #[.int .i64 2, .int .i64 kk, .int .i64 i, .int .i64 s, .int .i64 t, .int .i64 k, .int .i64 z] 31)).drew T2 W → At7 W w.heap.size 0 (2, kk, i, s, t, k, z) := fun W T2 st => (hA.but (S := []) (But.refl [] _).drew (by simp)).but st.but (fun e => hout (by simp [e]))
        clear eL eD eX
        go_enter Try.func10, Try.ntmps10
        go_upto_region 11 with fail
        go_region_with (first
          | (go_at_call 20; (with_reducible refine CA.mono ?_); rintro e w2 ⟨rfl, T2, d2, s2⟩; have p2 := hd.left d2 s2; obtain ⟨v0, v1, v2, v3, v4, v5, v6⟩ := HT _ _ s2; dsimp only at v0 v1 v2 v3 v4 v5 v6)
          | (go_at_call 23; (with_reducible refine (RA _ _ p2).mono ?_); rintro e w3 ⟨rfl, R3, r3, s3⟩; have p3 := p2.right r3 s3))
        all_goals
          go_wp2_with fail
          go_ret
          exact ⟨rfl, _, _, p3, ((sa.trans (Step.keep (But.refl [] _).drew)).trans (s2.left R)).trans (s3.right T2)⟩
      · have k2' : (kd == 2) = false := by simpa using k2
        have eL : actL N la xs (kd, kk, i, s, t, k, z) = la := by unfold actL; rw [if_neg k0]
        have eD : actD dn xs (kd, kk, i, s, t, k, z) = dn := by unfold actD; rw [if_neg k1]
        have eX : actX N la xs (kd, kk, i, s, t, k, z) = xs := by unfold actX; rw [if_neg k0, if_neg k1, if_neg k2]
        rw [eL, eD, eX]
        clear eL eD eX
        go_enter Try.func10, Try.ntmps10
        go_wp2_with fail
        go_ret
        exact ⟨rfl, _, _, ha, sa⟩
end
end Go.Proofs.Ytdhgffnlocgfkaa
