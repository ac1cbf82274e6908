/- The walk of LifeRound. -/
import Derived.Test.YtjgclehghnmhnaaDoorLfV
namespace Go.Proofs.YtjgclehghnmhnaaDoor
open Go Go.RowKit

def cA (s : Int) : Ac := ⟨65536, 5, s, -1, 0, 0, 0, fun _ => 0, 0⟩
def r1 (s : Int) : Sta := ⟨[1, 0, 0, 0], [true, false, false, false], [newA 65536 s]⟩
def r2 (s : Int) : Sta := ⟨[1, 0, 0, 0], [true, false, false, false], [runF 3 (newA 65536 s)]⟩
def r3 (s t : Int) : Sta := ⟨[1, 0, 0, 0], [true, false, false, false], [lodF t (runF 3 (newA 65536 s))]⟩
def r4 (s t : Int) : Sta := ⟨[1, 0, 0, 0], [true, false, false, false], [blkF (lodF t (runF 3 (newA 65536 s)))]⟩
def cx5 : Cx := ⟨0, 5, fun _ => 0, 0⟩
def r4p (s t : Int) : Sta := ⟨[1, 0, 0, 0], [true, false, false, false], [preF cx5 (lodF t (runF 3 (newA 65536 s)))]⟩
def r5 (s : Int) : Sta := ⟨[1, 0, 0, 0], [true, false, false, false], [cA s]⟩
def r6 (s : Int) : Sta := ⟨[1, 1, 0, 0], [true, true, false, false], [cA s, newA 65537 (s + 1)]⟩
def r7 (s : Int) : Sta := ⟨[1, 1, 0, 0], [true, true, false, false], [{ cA s with st := 1 }, newA 65537 (s + 1)]⟩
def r8 (s : Int) : Sta := ⟨[1, 1, 0, 0], [false, true, false, false], [newA 65537 (s + 1)]⟩
section
variable {s t : Int}
theorem rd1 (h : ¬ (s < 1 ∨ 16 < s)) : mkI lf0 s = 65536 ∧ mkE lf0 s = 0 ∧ mkS lf0 s = r1 s := by
  obtain ⟨e1, e2, e3⟩ := mk_new (σ := lf0) (j := 0) h rfl (by decide)
  rw [e1, e2, e3]
  exact ⟨by decide, by decide, rfl⟩
theorem rd2 : opE 1 (runK (r1 s).xs 3) (r1 s).xs 65536 = 0 ∧ opS 1 (runK (r1 s).xs 3) (runF 3) (r1 s) 65536 = r2 s := ⟨rfl, rfl⟩
theorem rd3 (h : ¬ t < 0) : opE 2 (lodK t) (r2 s).xs 65536 = 0 ∧ opS 2 (lodK t) (lodF t) (r2 s) 65536 = r3 s t := by
  have hf : fndA (r2 s).xs 65536 = some (runF 3 (newA 65536 s)) := rfl
  have hk : lodK t (runF 3 (newA 65536 s)) = 0 := if_neg h
  constructor
  · unfold opE
    rw [hf]
    dsimp only
    exact (if_pos rfl).trans hk
  · rw [opS_eq hf rfl, if_pos hk]
    rfl
theorem rd4 (h : t ≠ 0) : opE 4 blkK (r3 s t).xs 65536 = 0 ∧ opS 4 blkK blkF (r3 s t) 65536 = r4 s t := by
  have hf : fndA (r3 s t).xs 65536 = some (lodF t (runF 3 (newA 65536 s))) := rfl
  have hk : blkK (lodF t (runF 3 (newA 65536 s))) = 0 := if_neg h
  constructor
  · unfold opE
    rw [hf]
    dsimp only
    exact (if_pos rfl).trans hk
  · rw [opS_eq hf rfl, if_pos hk]
    rfl
theorem rd4p : opE 8 noK (r3 s t).xs 65536 = 0 ∧ opS 8 noK (preF cx5) (r3 s t) 65536 = r4p s t := ⟨rfl, rfl⟩
theorem rd5a : opE 16 noK (r3 s t).xs 65536 = 0 ∧ opS 16 noK cacF (r3 s t) 65536 = r5 s := ⟨rfl, rfl⟩
theorem rd5b : opE 16 noK (r4 s t).xs 65536 = 0 ∧ opS 16 noK cacF (r4 s t) 65536 = r5 s := ⟨rfl, rfl⟩
theorem rd5c : opE 16 noK (r4p s t).xs 65536 = 0 ∧ opS 16 noK cacF (r4p s t) 65536 = r5 s := ⟨rfl, rfl⟩
theorem rdc : cntA (r5 s).xs s 5 = 1 := by simp [cntA, r5, cA]
theorem rd6 (h : ¬ (s + 1 < 1 ∨ 16 < s + 1)) : mkI (r5 s) (s + 1) = 65537 ∧ mkE (r5 s) (s + 1) = 0 ∧ mkS (r5 s) (s + 1) = r6 s := by
  have hc : cacO (r5 s).xs (s + 1) = none := by
    have : s ≠ s + 1 := by omega
    simp [cacO, r5, cA, this]
  obtain ⟨e1, e2, e3⟩ := mk_new (σ := r5 s) (j := 1) h hc (show leastO [1, 0, 0, 0] [true, false, false, false] = some 1 by decide)
  rw [e1, e2, e3]
  have a1 : takeA (r5 s).ag (r5 s).tk = [1, 1, 0, 0] := show takeA [1, 0, 0, 0] [true, false, false, false] = [1, 1, 0, 0] by decide
  have a2 : takeT (r5 s).ag (r5 s).tk = [true, true, false, false] := show takeT [1, 0, 0, 0] [true, false, false, false] = [true, true, false, false] by decide
  have a3 : takeI (r5 s).ag (r5 s).tk = 65537 := show takeI [1, 0, 0, 0] [true, false, false, false] = 65537 by decide
  have a4 : takeE (r5 s).ag (r5 s).tk = 0 := show takeE [1, 0, 0, 0] [true, false, false, false] = 0 by decide
  rw [a1, a2, a3, a4]
  exact ⟨rfl, rfl, by simp [r5, r6, insA, cA, newA]⟩
theorem rd7 (h : ¬ (s < 1 ∨ 16 < s)) : mkI (r6 s) s = 65536 ∧ mkE (r6 s) s = 0 ∧ mkS (r6 s) s = r7 s := by
  have hc : cacO (r6 s).xs s = some (cA s) := by simp [cacO, r6, cA]
  obtain ⟨e1, e2, e3⟩ := mk_old (σ := r6 s) h hc
  rw [e1, e2, e3]
  exact ⟨rfl, rfl, rfl⟩
theorem rd8 : opE 32 noK (r7 s).xs 65536 = 0 ∧ disS (r7 s) 65536 = r8 s := ⟨rfl, rfl⟩
theorem rd9 : opE 32 noK (r8 s).xs 65536 = 4 ∧ disS (r8 s) 65536 = r8 s := ⟨rfl, rfl⟩
theorem cx5A : cxa cx5 = #[.int .i64 0, .int .i64 5, .int .i64 0, .int .i64 0, .int .i64 0, .int .i64 0, .int .i64 0, .int .i64 0, .int .i64 0, .int .i64 0, .int .i64 0] := rfl
end

set_option maxHeartbeats 4000000 in
set_option maxRecDepth 100000 in
theorem round_any (sp wy th : Nat) (h1 : sp < 256) (h2 : wy < 256) (h3 : th < 65536) (w : World) (hV : Env w) :
    Calls Tryd.prog 5 #[.int .u8 sp, .int .u8 wy, .int .u16 th] w fun e w' => e = .returned (.bool true) ∧ Below w.heap.size w w' := by
  have hN := tnew_some 4 (by decide) (by decide) w
  have HQ : (⟨List.replicate 4 0, List.replicate 4 false, []⟩ : Sta) = lf0 := rfl
  rw [HQ] at hN
  clear HQ
  obtain ⟨s, hs⟩ : ∃ s : Int, s = 1 + ((sp % 15 : Nat) : Int) := ⟨_, rfl⟩
  obtain ⟨t, ht⟩ : ∃ t : Int, t = 1 + (th : Int) := ⟨_, rfl⟩
  have s1 : ¬ (s < 1 ∨ 16 < s) := by omega
  have s2 : ¬ (s + 1 < 1 ∨ 16 < s + 1) := by omega
  have t1 : ¬ t < 0 := by omega
  have t2 : t ≠ 0 := by omega
  have M1 : ∀ W B T, TQ W B T 4 (lf0) → Env W → Calls Tryd.prog 19 #[.pointer (some ⟨B, 0, none⟩), .int .i64 (s)] W fun e w' => e = .returned (.tuple #[.int .i64 65536, .int .i64 0]) ∧ ∃ T', TQ w' B T' 4 (r1 s) ∧ Step T W T' w' := fun W B T h hE => by
    have := make_any h hE (s)
    rw [(rd1 s1).1, (rd1 s1).2.1, (rd1 s1).2.2] at this
    exact this
  have R1 : ∀ W B T, TQ W B T 4 (r1 s) → Env W → Calls Tryd.prog 20 #[.pointer (some ⟨B, 0, none⟩), .int .i64 65536, .int .i64 3] W fun e w' => e = .returned (.int .i64 0) ∧ TQ w' B T 4 (r2 s) ∧ But T W w' := fun W B T h hE => by
    have := run_any h hE in65536 3
    rw [(rd2).1, (rd2).2] at this
    exact this
  have L1 : ∀ W B T, TQ W B T 4 (r2 s) → Env W → Calls Tryd.prog 21 #[.pointer (some ⟨B, 0, none⟩), .int .i64 65536, .int .i64 t] W fun e w' => e = .returned (.int .i64 0) ∧ TQ w' B T 4 (r3 s t) ∧ But T W w' := fun W B T h hE => by
    have := load_any h hE in65536 t
    rw [(rd3 t1).1, (rd3 t1).2] at this
    exact this
  have B1 : ∀ W B T, TQ W B T 4 (r3 s t) → Env W → Calls Tryd.prog 22 #[.pointer (some ⟨B, 0, none⟩), .int .i64 65536] W fun e w' => e = .returned (.int .i64 0) ∧ TQ w' B T 4 (r4 s t) ∧ But T W w' := fun W B T h hE => by
    have := block_any h hE in65536
    rw [(rd4 t2).1, (rd4 t2).2] at this
    exact this
  have P1 : ∀ W B T, TQ W B T 4 (r3 s t) → Env W → Calls Tryd.prog 23 #[.pointer (some ⟨B, 0, none⟩), .int .i64 65536, .agg #[.int .i64 0, .int .i64 5, .int .i64 0, .int .i64 0, .int .i64 0, .int .i64 0, .int .i64 0, .int .i64 0, .int .i64 0, .int .i64 0, .int .i64 0]] W fun e w' => e = .returned (.int .i64 0) ∧ TQ w' B T 4 (r4p s t) ∧ But T W w' := fun W B T h hE => by
    have := preempt_any h hE in65536 cx5
    rw [(rd4p).1, (rd4p).2, cx5A] at this
    exact this
  have C1 : ∀ W B T, TQ W B T 4 (r3 s t) → Env W → Calls Tryd.prog 24 #[.pointer (some ⟨B, 0, none⟩), .int .i64 65536] W fun e w' => e = .returned (.int .i64 0) ∧ TQ w' B T 4 (r5 s) ∧ But T W w' := fun W B T h hE => by
    have := cache_any h hE in65536
    rw [(rd5a).1, (rd5a).2] at this
    exact this
  have C2 : ∀ W B T, TQ W B T 4 (r4 s t) → Env W → Calls Tryd.prog 24 #[.pointer (some ⟨B, 0, none⟩), .int .i64 65536] W fun e w' => e = .returned (.int .i64 0) ∧ TQ w' B T 4 (r5 s) ∧ But T W w' := fun W B T h hE => by
    have := cache_any h hE in65536
    rw [(rd5b).1, (rd5b).2] at this
    exact this
  have C3 : ∀ W B T, TQ W B T 4 (r4p s t) → Env W → Calls Tryd.prog 24 #[.pointer (some ⟨B, 0, none⟩), .int .i64 65536] W fun e w' => e = .returned (.int .i64 0) ∧ TQ w' B T 4 (r5 s) ∧ But T W w' := fun W B T h hE => by
    have := cache_any h hE in65536
    rw [(rd5c).1, (rd5c).2] at this
    exact this
  have K1 : ∀ W B T, TQ W B T 4 (r5 s) → Calls Tryd.prog 15 #[.pointer (some ⟨B, 0, none⟩), .int .i64 s, .int .i64 5] W fun e w' => e = .returned (.int .i64 1) ∧ Below W.heap.size W w' := fun W B T h => by
    have := tcount_any h s 5
    rw [rdc] at this
    exact this
  have M2 : ∀ W B T, TQ W B T 4 (r5 s) → Env W → Calls Tryd.prog 19 #[.pointer (some ⟨B, 0, none⟩), .int .i64 (s + 1)] W fun e w' => e = .returned (.tuple #[.int .i64 65537, .int .i64 0]) ∧ ∃ T', TQ w' B T' 4 (r6 s) ∧ Step T W T' w' := fun W B T h hE => by
    have := make_any h hE (s + 1)
    rw [(rd6 s2).1, (rd6 s2).2.1, (rd6 s2).2.2] at this
    exact this
  have M3 : ∀ W B T, TQ W B T 4 (r6 s) → Env W → Calls Tryd.prog 19 #[.pointer (some ⟨B, 0, none⟩), .int .i64 (s)] W fun e w' => e = .returned (.tuple #[.int .i64 65536, .int .i64 0]) ∧ ∃ T', TQ w' B T' 4 (r7 s) ∧ Step T W T' w' := fun W B T h hE => by
    have := make_any h hE (s)
    rw [(rd7 s1).1, (rd7 s1).2.1, (rd7 s1).2.2] at this
    exact this
  have D1 : ∀ W B T, TQ W B T 4 (r7 s) → Env W → Calls Tryd.prog 25 #[.pointer (some ⟨B, 0, none⟩), .int .i64 65536] W fun e w' => e = .returned (.int .i64 0) ∧ ∃ T', TQ w' B T' 4 (r8 s) ∧ Step T W T' w' := fun W B T h hE => by
    have := discard_any h hE in65536
    rw [(rd8).1, (rd8).2] at this
    exact this
  have D2 : ∀ W B T, TQ W B T 4 (r8 s) → Env W → Calls Tryd.prog 25 #[.pointer (some ⟨B, 0, none⟩), .int .i64 65536] W fun e w' => e = .returned (.int .i64 4) ∧ ∃ T', TQ w' B T' 4 (r8 s) ∧ Step T W T' w' := fun W B T h hE => by
    have := discard_any h hE in65536
    rw [(rd9).1, (rd9).2] at this
    exact this
  have LV : ∀ W, Env W → Calls Tryd.prog 8 #[] W fun e w' => e = .returned (.bool true) ∧ Below W.heap.size W w' := fun W hE => lives_any W hE
  have HS : Hid (∀ W T W' T', Step [] w T W → Step T W T' W' → Env W' ∧ Step [] w T' W') := fun W T W' T' h1 h2 => ⟨hV.step (h1.trans h2), h1.trans h2⟩
  have HV : Hid (Env w) := hV
  obtain ⟨y, hy⟩ : ∃ y : Int, y = ((sp % 15 : Nat) : Int) := ⟨_, rfl⟩
  obtain ⟨z, hz⟩ : ∃ z : Int, z = ((wy % 3 : Nat) : Int) := ⟨_, rfl⟩
  have m1 : Int.tmod (sp : Int) 15 = y := by rw [Int.tmod_eq_emod_of_nonneg (by omega)]; omega
  have m3 : Int.tmod (wy : Int) 3 = z := by rw [Int.tmod_eq_emod_of_nonneg (by omega)]; omega
  have w1 : IntKind.i64.wrap (1 + y) = s := by rw [IntKind.wrap_i64]; omega
  have w2 : IntKind.i64.wrap (1 + (th : Int)) = t := by rw [IntKind.wrap_i64]; omega
  have w3 : IntKind.i64.wrap (s + 1) = s + 1 := by rw [IntKind.wrap_i64]; omega
  have v1 : IntKind.u8.wrap y = y := by rw [IntKind.wrap_u8]; omega
  have v3 : IntKind.u8.wrap z = z := by rw [IntKind.wrap_u8]; omega
  have v4 : IntKind.i64.wrap y = y := by rw [IntKind.wrap_i64]; omega
  have v5 : IntKind.i64.wrap (th : Int) = (th : Int) := by rw [IntKind.wrap_i64]; omega
  have hx : z = 0 ∨ z = 1 ∨ z = 2 := by omega
  clear hV hs ht s1 s2 t1 t2 hy hz h1 h2 h3
  generalize (sp : Int) = x1 at *
  generalize (wy : Int) = x2 at *
  generalize (th : Int) = x3 at *
  generalize lf0 = l0 at *
  generalize r1 s = l1 at *
  generalize r2 s = l2 at *
  generalize r3 s t = l3 at *
  generalize r4 s t = l4 at *
  generalize r4p s t = l4p at *
  generalize r5 s = l5 at *
  generalize r6 s = l6 at *
  generalize r7 s = l7 at *
  generalize r8 s = l8 at *
  rcases hx with hx | hx | hx
  · subst hx
    go_enter Tryd.func5, Tryd.ntmps5
    go_wp2_with (first
      | (go_at_call 9; refine hN.mono ?_; rintro e w1 ⟨B, T, rfl, h1, s1⟩; have e1 := HV.out.step s1)
      | (go_at_call 19; (with_reducible refine (M1 w1 B T h1 e1).mono ?_); rintro e w2 ⟨rfl, T2, h2, q2⟩; obtain ⟨e2, s2⟩ := HS.out _ _ _ _ s1 q2)
      | (go_at_call 20; (with_reducible refine (R1 w2 B T2 h2 e2).mono ?_); rintro e w3 ⟨rfl, h3, q3⟩; obtain ⟨e3, s3⟩ := HS.out _ _ _ _ s2 (Step.same q3))
      | (go_at_call 21; (with_reducible refine (L1 w3 B T2 h3 e3).mono ?_); rintro e w4 ⟨rfl, h4, q4⟩; obtain ⟨e4, s4⟩ := HS.out _ _ _ _ s3 (Step.same q4))
      | (go_at_call 22; (with_reducible refine (B1 w4 B T2 h4 e4).mono ?_); rintro e w5 ⟨rfl, h5, q5⟩; obtain ⟨e5, s5⟩ := HS.out _ _ _ _ s4 (Step.same q5))
      | (go_at_call 24; (with_reducible refine (C2 w5 B T2 h5 e5).mono ?_); rintro e w6 ⟨rfl, h6, q6⟩; obtain ⟨e6, s6⟩ := HS.out _ _ _ _ s5 (Step.same q6))
      | (go_at_call 15; (with_reducible refine (K1 w6 B T2 h6).mono ?_); rintro e w7 ⟨rfl, b7⟩; have h7 := h6.below b7; obtain ⟨e7, s7⟩ := HS.out _ _ _ _ s6 (Step.keep (.of_below b7)))
      | (go_at_call 19; (with_reducible refine (M2 w7 B T2 h7 e7).mono ?_); rintro e w8 ⟨rfl, T8, h8, q8⟩; obtain ⟨e8, s8⟩ := HS.out _ _ _ _ s7 q8)
      | (go_at_call 19; (with_reducible refine (M3 w8 B T8 h8 e8).mono ?_); rintro e w9 ⟨rfl, T9, h9, q9⟩; obtain ⟨e9, s9⟩ := HS.out _ _ _ _ s8 q9)
      | (go_at_call 25; (with_reducible refine (D1 w9 B T9 h9 e9).mono ?_); rintro e w10 ⟨rfl, T10, h10, q10⟩; obtain ⟨e10, s10⟩ := HS.out _ _ _ _ s9 q10)
      | (go_at_call 25; (with_reducible refine (D2 w10 B T10 h10 e10).mono ?_); rintro e w11 ⟨rfl, T11, h11, q11⟩; obtain ⟨e11, s11⟩ := HS.out _ _ _ _ s10 q11)
      | (go_at_call 8; (with_reducible refine (LV w11 e11).mono ?_); rintro e w12 ⟨rfl, b12⟩))
    go_ret
    exact ⟨rfl, s11.below.trans (b12.mono s11.below.size)⟩
  · subst hx
    go_enter Tryd.func5, Tryd.ntmps5
    go_wp2_with (first
      | (go_at_call 9; refine hN.mono ?_; rintro e w1 ⟨B, T, rfl, h1, s1⟩; have e1 := HV.out.step s1)
      | (go_at_call 19; (with_reducible refine (M1 w1 B T h1 e1).mono ?_); rintro e w2 ⟨rfl, T2, h2, q2⟩; obtain ⟨e2, s2⟩ := HS.out _ _ _ _ s1 q2)
      | (go_at_call 20; (with_reducible refine (R1 w2 B T2 h2 e2).mono ?_); rintro e w3 ⟨rfl, h3, q3⟩; obtain ⟨e3, s3⟩ := HS.out _ _ _ _ s2 (Step.same q3))
      | (go_at_call 21; (with_reducible refine (L1 w3 B T2 h3 e3).mono ?_); rintro e w4 ⟨rfl, h4, q4⟩; obtain ⟨e4, s4⟩ := HS.out _ _ _ _ s3 (Step.same q4))
      | (go_at_call 23; (with_reducible refine (P1 w4 B T2 h4 e4).mono ?_); rintro e w5 ⟨rfl, h5, q5⟩; obtain ⟨e5, s5⟩ := HS.out _ _ _ _ s4 (Step.same q5))
      | (go_at_call 24; (with_reducible refine (C3 w5 B T2 h5 e5).mono ?_); rintro e w6 ⟨rfl, h6, q6⟩; obtain ⟨e6, s6⟩ := HS.out _ _ _ _ s5 (Step.same q6))
      | (go_at_call 15; (with_reducible refine (K1 w6 B T2 h6).mono ?_); rintro e w7 ⟨rfl, b7⟩; have h7 := h6.below b7; obtain ⟨e7, s7⟩ := HS.out _ _ _ _ s6 (Step.keep (.of_below b7)))
      | (go_at_call 19; (with_reducible refine (M2 w7 B T2 h7 e7).mono ?_); rintro e w8 ⟨rfl, T8, h8, q8⟩; obtain ⟨e8, s8⟩ := HS.out _ _ _ _ s7 q8)
      | (go_at_call 19; (with_reducible refine (M3 w8 B T8 h8 e8).mono ?_); rintro e w9 ⟨rfl, T9, h9, q9⟩; obtain ⟨e9, s9⟩ := HS.out _ _ _ _ s8 q9)
      | (go_at_call 25; (with_reducible refine (D1 w9 B T9 h9 e9).mono ?_); rintro e w10 ⟨rfl, T10, h10, q10⟩; obtain ⟨e10, s10⟩ := HS.out _ _ _ _ s9 q10)
      | (go_at_call 25; (with_reducible refine (D2 w10 B T10 h10 e10).mono ?_); rintro e w11 ⟨rfl, T11, h11, q11⟩; obtain ⟨e11, s11⟩ := HS.out _ _ _ _ s10 q11)
      | (go_at_call 8; (with_reducible refine (LV w11 e11).mono ?_); rintro e w12 ⟨rfl, b12⟩))
    go_ret
    exact ⟨rfl, s11.below.trans (b12.mono s11.below.size)⟩
  · subst hx
    go_enter Tryd.func5, Tryd.ntmps5
    go_wp2_with (first
      | (go_at_call 9; refine hN.mono ?_; rintro e w1 ⟨B, T, rfl, h1, s1⟩; have e1 := HV.out.step s1)
      | (go_at_call 19; (with_reducible refine (M1 w1 B T h1 e1).mono ?_); rintro e w2 ⟨rfl, T2, h2, q2⟩; obtain ⟨e2, s2⟩ := HS.out _ _ _ _ s1 q2)
      | (go_at_call 20; (with_reducible refine (R1 w2 B T2 h2 e2).mono ?_); rintro e w3 ⟨rfl, h3, q3⟩; obtain ⟨e3, s3⟩ := HS.out _ _ _ _ s2 (Step.same q3))
      | (go_at_call 21; (with_reducible refine (L1 w3 B T2 h3 e3).mono ?_); rintro e w4 ⟨rfl, h4, q4⟩; obtain ⟨e4, s4⟩ := HS.out _ _ _ _ s3 (Step.same q4))
      | (go_at_call 24; (with_reducible refine (C1 w4 B T2 h4 e4).mono ?_); rintro e w6 ⟨rfl, h6, q6⟩; obtain ⟨e6, s6⟩ := HS.out _ _ _ _ s4 (Step.same q6))
      | (go_at_call 15; (with_reducible refine (K1 w6 B T2 h6).mono ?_); rintro e w7 ⟨rfl, b7⟩; have h7 := h6.below b7; obtain ⟨e7, s7⟩ := HS.out _ _ _ _ s6 (Step.keep (.of_below b7)))
      | (go_at_call 19; (with_reducible refine (M2 w7 B T2 h7 e7).mono ?_); rintro e w8 ⟨rfl, T8, h8, q8⟩; obtain ⟨e8, s8⟩ := HS.out _ _ _ _ s7 q8)
      | (go_at_call 19; (with_reducible refine (M3 w8 B T8 h8 e8).mono ?_); rintro e w9 ⟨rfl, T9, h9, q9⟩; obtain ⟨e9, s9⟩ := HS.out _ _ _ _ s8 q9)
      | (go_at_call 25; (with_reducible refine (D1 w9 B T9 h9 e9).mono ?_); rintro e w10 ⟨rfl, T10, h10, q10⟩; obtain ⟨e10, s10⟩ := HS.out _ _ _ _ s9 q10)
      | (go_at_call 25; (with_reducible refine (D2 w10 B T10 h10 e10).mono ?_); rintro e w11 ⟨rfl, T11, h11, q11⟩; obtain ⟨e11, s11⟩ := HS.out _ _ _ _ s10 q11)
      | (go_at_call 8; (with_reducible refine (LV w11 e11).mono ?_); rintro e w12 ⟨rfl, b12⟩))
    go_ret
    exact ⟨rfl, s11.below.trans (b12.mono s11.below.size)⟩
end Go.Proofs.YtjgclehghnmhnaaDoor
