/- The walk of LinksCopies. -/
import Derived.Test.YtpaedcknhlojkaaActsWalk
import Derived.Test.YtpaedcknhlojkaaCopy
import Derived.Test.YtpaedcknhlojkaaRCopy
namespace Go.Proofs.Ytpaedcknhlojkaa
open Go.RowKit

/-- Both made anew. -/
theorem lw_copy {w0 w2 w3 : World} {P2 : Pl} {lo2 M2 LB2 : Nat} {ls : List (List Nat)} (q : LQ w2 P2 6 3 ls) (k : ∀ k ∈ [P2.B, P2.n, P2.p, P2.w, P2.c], w0.heap.size ≤ k) (b2 : Below w0.heap.size w0 w2) (r : RL w3 lo2 M2 LB2 6 3 ls) (km : w2.heap.size ≤ M2) (kl : w2.heap.size ≤ LB2) (b3 : Below w2.heap.size w2 w3) : Lw w0 w3 P2 lo2 M2 LB2 6 3 ls := by
  refine ⟨⟨q.below b3, r, fun x hx => ?_⟩, fun x hx => ?_, b2.trans (b3.mono b2.size)⟩
  · have h1 := q.lt5 hx
    have h2 := r.ml
    omega
  · rcases List.mem_cons.1 hx with rfl | hx
    · exact Nat.le_trans b2.size kl
    · exact k x (P_S hx)

set_option maxRecDepth 100000 in
set_option maxHeartbeats 4000000 in
theorem copies_any (sa sb : Option Addr) (ca cb : Nat) (xs ys : List (Int × Int × Int)) (w : World) (ha : Acts w sa xs) (hb : Acts w sb ys) :
    Calls Try.prog 6 #[.slice sa xs.length ca, .slice sb ys.length cb] w fun e w' => e = .returned (.bool true) ∧ Below w.heap.size w w' := by
  by_cases hlen : xs.length ≤ 100 ∧ ys.length ≤ 100
  · obtain ⟨l1, l2⟩ := hlen
    have l1' : (xs.length : Int) ≤ 100 := by omega
    have l2' : (ys.length : Int) ≤ 100 := by omega
    go_enter Try.func6, Try.ntmps6
    go_wp2_with (first
      | (go_at_call 9; refine (new_some 6 3 (by decide) (by decide) (by decide) (by decide) _).mono ?_; rintro e w1 ⟨P, rfl, q1, k1, b1⟩)
      | (go_at_call 10; refine (rnew_some 6 3 (by decide) (by decide) (by decide) (by decide) _).mono ?_; rintro e w2 ⟨lo, M, LB, rfl, r2, km, kl, b2⟩; have hL0 : Lw w w2 P lo M LB 6 3 (List.replicate 3 []) := lw_copy q1 k1 b1 r2 km kl b2; clear q1 r2 k1 b1 b2 km kl))
    go_loopw [39, 8] (fun v _ wr => ∃ (j : Nat) (ls : List (List Nat)), j ≤ xs.length ∧ v = .int .i64 j ∧ Lw w wr P lo M LB 6 3 ls) (fun v _ _ => 100 - (intOf v).toNat)
    case atStart => exact ⟨0, _, by omega, rfl, hL0⟩
    case round =>
      clear hL0
      obtain ⟨j, ls, hj, rfl, hL⟩ := hrel
      by_cases hlt : j < xs.length
      · obtain ⟨b, o, rfl, x0, x1, x2⟩ := ha.below hL.b j xs[j] (by simp)
        have hlt' : (j : Int) < (xs.length : Int) := by omega
        generalize xs[j] = x at x0 x1 x2
        obtain ⟨k, l, t⟩ := x
        dsimp only at x0 x1 x2
        have hL1 := hL.grow ((But.refl [] wr).alloc (.cells #[.int .i64 k, .int .i64 l, .int .i64 t] 25))
        obtain ⟨d0, d1, d2⟩ := ActAt.new wr k l t
        have AC := act_any hL1.p k l t
        generalize actS 6 3 ls k l t = s2 at AC
        go_wp2_with (first
          | (go_at_call 11; refine AC.mono ?_; rintro e w3 ⟨bb, rfl, -, p3, b3⟩))
        go_roundw
        case rel => exact ⟨j + 1, s2, by omega, by simp, hL1.step p3 b3⟩
        case measure =>
          simp [intOf]
          omega
      · obtain rfl : j = xs.length := by omega
        have hT := hL.p
        have hbw := hL.b
        have hb0 := hb.below hbw
        go_wp2_with (first
          | (go_at_call 21; refine (copy_any hL.p.q).mono ?_; rintro e w2 ⟨P2, rfl, q2, k2, b2⟩)
          | (go_at_call 22; refine (rcopy_any (hL.p.r.below b2) (by decide)).mono ?_; rintro e w3 ⟨lo2, M2, LB2, rfl, r3, km, kl, b3⟩; have hC0 : Lw wr w3 P2 lo2 M2 LB2 6 3 ls := lw_copy q2 k2 b2 r3 km kl b3; clear q2 k2 b2 r3 km kl b3))
        clear hL
        go_loopw [54, 12] (fun v _ W => ∃ (j : Nat) (s : List (List Nat)), j ≤ ys.length ∧ v = .int .i64 j ∧ Lw wr W P2 lo2 M2 LB2 6 3 s) (fun v _ _ => 100 - (intOf v).toNat)
        case atStart => exact ⟨0, _, by omega, rfl, hC0⟩
        case round =>
          clear hC0
          obtain ⟨j, s, hj, rfl, hC⟩ := hrel
          by_cases hlt : j < ys.length
          · obtain ⟨b, o, rfl, x0, x1, x2⟩ := hb0.below hC.b j ys[j] (by simp)
            have hlt' : (j : Int) < (ys.length : Int) := by omega
            generalize ys[j] = x at x0 x1 x2
            obtain ⟨k, l, t⟩ := x
            dsimp only at x0 x1 x2
            have hC1 := hC.grow ((But.refl [] wr).alloc (.cells #[.int .i64 k, .int .i64 l, .int .i64 t] 25))
            obtain ⟨d0, d1, d2⟩ := ActAt.new wr k l t
            have AC := act_any hC1.p k l t
            generalize actS 6 3 s k l t = s2 at AC
            go_wp2_with (first
              | (go_at_call 11; refine AC.mono ?_; rintro e w3 ⟨bb, rfl, hbt, p3, b3⟩; obtain rfl : bb = true := hbt rfl))
            go_roundw
            case rel => exact ⟨j + 1, s2, by omega, by simp, hC1.step p3 b3⟩
            case measure =>
              simp [intOf]
              omega
          · obtain rfl : j = ys.length := by omega
            go_wp2_with fail
            go_loopw [13] (fun v W => ∃ i : Nat, i ≤ 3 ∧ v = .int .i64 i ∧ Two W P lo M LB 6 3 ls ls ∧ Two W P2 lo2 M2 LB2 6 3 s s ∧ Below w.heap.size w W) (fun v _ => 3 - (intOf v).toNat)
            case atStart => exact ⟨0, by omega, rfl, hT.below hC.b, hC.p, hbw.trans (hC.b.mono hbw.size)⟩
            case round =>
              clear hC hT hbw hb0
              obtain ⟨i, hi, rfl, hA, hD, hB⟩ := hrel
              by_cases hi3 : i < 3
              · have hi3' : (i : Int) < 3 := by omega
                have sA := hA.q.src (i : Int)
                have sD : ∀ W, Two W P2 lo2 M2 LB2 6 3 s s → Src W (.pointer (some ⟨P2.B, 0, none⟩)) (i : Int) (lsI s (i : Int)) := fun W h => h.q.src (i : Int)
                have RA : ∀ W, RL W lo M LB 6 3 ls → _ := fun W h => rall_any (w := W) h (i : Int)
                have RD : ∀ W, RL W lo2 M2 LB2 6 3 s → _ := fun W h => rall_any (w := W) h (i : Int)
                have lA := sA.le
                have lD := (hD.q.src (i : Int)).le
                generalize lsI ls (i : Int) = qa at *
                generalize lsI s (i : Int) = qb at *
                go_wp2_with (first
                  | (go_at_call 16; (with_reducible refine (lall_sl sA).mono ?_); rintro e w2 ⟨a2, c2, rfl, r2, b2⟩; have hA2 := hA.below b2; have hD2 := hD.below b2; have sD2 := sD _ hD2)
                  | (go_at_call 16; (with_reducible refine (lall_sl sD2).mono ?_); rintro e w3 ⟨a3, c3, rfl, r3, b3⟩; have hA3 := hA2.below b3; have hD3 := hD2.below b3)
                  | (go_at_call 15; (with_reducible refine (RA _ hA3.r).mono ?_); rintro e w4 ⟨a4, c4, rfl, r4, b4⟩; have hD4 := hD3.keep b4; have hA4 := hA3.keep b4; have i4 := r4.at; have i2 := ((r2.below b3).but b4 (by simp)).at)
                  | (go_at_call 17; (with_reducible refine (ints_sl _ _ _ _ lA i2 i4).mono ?_); rintro e w5 ⟨rfl, b5⟩; have hD5 := hD4.below b5; have hA5 := hA4.below b5)
                  | (go_at_call 15; (with_reducible refine (RD _ hD5.r).mono ?_); rintro e w6 ⟨a6, c6, rfl, r6, b6⟩; have hD6 := hD5.keep b6; have hA6 := hA5.keep b6; have i6 := r6.at; have i3 := (RowI.but ((r3.but b4 (by simp)).below b5) b6 (by simp)).at)
                  | (go_at_call 17; (with_reducible refine (ints_sl _ _ _ _ lD i3 i6).mono ?_); rintro e w7 ⟨rfl, b7⟩; have hD7 := hD6.below b7; have hA7 := hA6.below b7))
                go_roundw
                case rel =>
                  have s2 := hB.trans (b2.mono hB.size)
                  have s3 := s2.trans (b3.mono s2.size)
                  have s4 := s3.trans (b4.to_below.mono s3.size)
                  have s5 := s4.trans (b5.mono s4.size)
                  have s6 := s5.trans (b6.to_below.mono s5.size)
                  exact ⟨i + 1, by omega, by simp, hA7, hD7, s6.trans (b7.mono s6.size)⟩
                case measure =>
                  simp [intOf]
                  omega
              · have hz : ((i : Nat) : Int) = 3 := by omega
                rw [hz]
                clear hz
                go_wp2_with (first
                  | (go_at_call 8; refine (lives_any _).mono ?_; rintro e w6 ⟨rfl, b6⟩))
                go_ret
                exact ⟨rfl, hB.trans (b6.mono hB.size)⟩
  · go_enter Try.func6, Try.ntmps6
    by_cases h1 : xs.length ≤ 100
    · have l1' : (xs.length : Int) ≤ 100 := by omega
      have l2' : (100 : Int) < (ys.length : Int) := by omega
      go_wp2_with (first
        | (go_at_call 9; refine (new_some 6 3 (by decide) (by decide) (by decide) (by decide) _).mono ?_; rintro e w1 ⟨P, rfl, q1, k1, b1⟩)
        | (go_at_call 10; refine (rnew_some 6 3 (by decide) (by decide) (by decide) (by decide) _).mono ?_; rintro e w2 ⟨lo, M, LB, rfl, r2, km, kl, b2⟩)
        | (go_at_call 8; refine (lives_any _).mono ?_; rintro e w3 ⟨rfl, b3⟩))
      go_ret
      have s2 := b1.trans (b2.mono b1.size)
      exact ⟨rfl, s2.trans (b3.mono s2.size)⟩
    · have l1' : (100 : Int) < (xs.length : Int) := by omega
      go_wp2_with (first
        | (go_at_call 9; refine (new_some 6 3 (by decide) (by decide) (by decide) (by decide) _).mono ?_; rintro e w1 ⟨P, rfl, q1, k1, b1⟩)
        | (go_at_call 10; refine (rnew_some 6 3 (by decide) (by decide) (by decide) (by decide) _).mono ?_; rintro e w2 ⟨lo, M, LB, rfl, r2, km, kl, b2⟩)
        | (go_at_call 8; refine (lives_any _).mono ?_; rintro e w3 ⟨rfl, b3⟩))
      go_ret
      have s2 := b1.trans (b2.mono b1.size)
      exact ⟨rfl, s2.trans (b3.mono s2.size)⟩

end Go.Proofs.Ytpaedcknhlojkaa
