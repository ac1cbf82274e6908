/- The document's example. -/
/- A table and the document's, alike; what an act makes of them. -/
import Derived.Test.YtjgclehghnmhnaaDoorJ11LCores
import Derived.Test.YtjgclehghnmhnaaDoorJ04LCores
import Derived.Test.YtjgclehghnmhnaaDoorLfH
import Derived.Test.YtjgclehghnmhnaaDoorJ07LCores
import Derived.Test.YtjgclehghnmhnaaDoorJ08LCores
import Derived.Test.YtjgclehghnmhnaaDoorJ09LCores
import Derived.Test.YtjgclehghnmhnaaDoorJ10LCores
namespace Go.Proofs.YtjgclehghnmhnaaDoor
open Go Go.RowKit

def lf0 : Sta := ⟨List.replicate 4 0, List.replicate 4 false, []⟩
def lf1 : Sta := ⟨[1, 0, 0, 0], [true, false, false, false], [newA 65536 1]⟩
def lf2 : Sta := ⟨[1, 0, 0, 0], [true, false, false, false], [runF 2 (newA 65536 1)]⟩
def lf3 : Sta := ⟨[1, 0, 0, 0], [true, false, false, false], [lodF 7 (runF 2 (newA 65536 1))]⟩
def lf4 : Sta := ⟨[1, 0, 0, 0], [true, false, false, false], [blkF (lodF 7 (runF 2 (newA 65536 1)))]⟩
theorem lfm : mkI lf0 1 = 65536 ∧ mkE lf0 1 = 0 ∧ mkS lf0 1 = lf1 := ⟨by decide, by decide, rfl⟩
theorem lfr : opE 1 (runK lf1.xs 2) lf1.xs 65536 = 0 ∧ opS 1 (runK lf1.xs 2) (runF 2) lf1 65536 = lf2 := ⟨by decide, rfl⟩
theorem lfl : opE 2 (lodK 7) lf2.xs 65536 = 0 ∧ opS 2 (lodK 7) (lodF 7) lf2 65536 = lf3 := ⟨by decide, rfl⟩
theorem lfb : opE 4 blkK lf3.xs 65536 = 0 ∧ opS 4 blkK blkF lf3 65536 = lf4 := ⟨by decide, rfl⟩
theorem lfg : getV lf4.xs 65536 = blkF (lodF 7 (runF 2 (newA 65536 1))) ∧ getB lf4.xs 65536 = true := ⟨rfl, rfl⟩
theorem in65536 : In64 65536 := ⟨by decide, by decide⟩
theorem lfA : acA (blkF (lodF 7 (runF 2 (newA 65536 1)))) = #[.int .i64 65536, .int .i64 3, .int .i64 1, .int .i64 (-1), .int .i64 7, .int .i64 0, .int .i64 0, .int .i64 0, .int .i64 0, .int .i64 0, .int .i64 0, .int .i64 0, .int .i64 0, .int .i64 0, .int .i64 0, .int .i64 0] := rfl

theorem Env.step {w w' : World} {T : List Nat} (h : Env w) (hs : Step [] w T w') : Env w' := h.on hs.below
set_option maxHeartbeats 2000000 in
set_option maxRecDepth 100000 in
theorem lives_any (w : World) (hV : Env w) : Calls Tryd.prog 8 #[] w fun e w' => e = .returned (.bool true) ∧ Below w.heap.size w w' := by
  have hN := tnew_some 4 (by decide) (by decide) w
  have HM : ∀ W B T, TQ W B T 4 lf0 → Env W → Calls Tryd.prog 19 #[.pointer (some ⟨B, 0, none⟩), .int .i64 1] W fun e w' => e = .returned (.tuple #[.int .i64 65536, .int .i64 0]) ∧ ∃ T', TQ w' B T' 4 lf1 ∧ Step T W T' w' := fun W B T h hE => by
    have := make_any h hE 1
    rw [lfm.1, lfm.2.1, lfm.2.2] at this
    exact this
  have HR : ∀ W B T, TQ W B T 4 lf1 → Env W → Calls Tryd.prog 20 #[.pointer (some ⟨B, 0, none⟩), .int .i64 65536, .int .i64 2] W fun e w' => e = .returned (.int .i64 0) ∧ TQ w' B T 4 lf2 ∧ But T W w' := fun W B T h hE => by
    have := run_any h hE in65536 2
    rw [lfr.1, lfr.2] at this
    exact this
  have HL : ∀ W B T, TQ W B T 4 lf2 → Env W → Calls Tryd.prog 21 #[.pointer (some ⟨B, 0, none⟩), .int .i64 65536, .int .i64 7] W fun e w' => e = .returned (.int .i64 0) ∧ TQ w' B T 4 lf3 ∧ But T W w' := fun W B T h hE => by
    have := load_any h hE in65536 7
    rw [lfl.1, lfl.2] at this
    exact this
  have HB : ∀ W B T, TQ W B T 4 lf3 → Env W → Calls Tryd.prog 22 #[.pointer (some ⟨B, 0, none⟩), .int .i64 65536] W fun e w' => e = .returned (.int .i64 0) ∧ TQ w' B T 4 lf4 ∧ But T W w' := fun W B T h hE => by
    have := block_any h hE in65536
    rw [lfb.1, lfb.2] at this
    exact this
  have HG : ∀ W B T, TQ W B T 4 lf4 → Calls Tryd.prog 17 #[.pointer (some ⟨B, 0, none⟩), .int .i64 65536] W fun e w' => e = .returned (.tuple #[.agg #[.int .i64 65536, .int .i64 3, .int .i64 1, .int .i64 (-1), .int .i64 7, .int .i64 0, .int .i64 0, .int .i64 0, .int .i64 0, .int .i64 0, .int .i64 0, .int .i64 0, .int .i64 0, .int .i64 0, .int .i64 0, .int .i64 0], .bool true]) ∧ Below W.heap.size W w' := fun W B T h => by
    have := get_any h in65536
    rw [lfg.1, lfg.2, lfA] at this
    exact this
  have HS : Hid (∀ W T W' T', Step [] w T W → Step T W T' W' → Env W' ∧ Step [] w T' W') := fun W T W' T' h1 h2 => ⟨hV.step (h1.trans h2), h1.trans h2⟩
  have HQ : (⟨List.replicate 4 0, List.replicate 4 false, []⟩ : Sta) = lf0 := rfl
  rw [HQ] at hN
  have HV : Hid (Env w) := hV
  clear HQ hV
  generalize lf0 = l0 at *
  generalize lf1 = l1 at *
  generalize lf2 = l2 at *
  generalize lf3 = l3 at *
  generalize lf4 = l4 at *
  go_enter Tryd.func8, Tryd.ntmps8
  go_wp2_with (first
    | (go_at_call 9; refine hN.mono ?_; rintro e w1 ⟨B, T, rfl, h1, s1⟩; have e1 := HV.out.step s1)
    | (go_at_call 19; (with_reducible refine (HM w1 B T h1 e1).mono ?_); rintro e w2 ⟨rfl, T2, h2, s2⟩; obtain ⟨e2, t2⟩ := HS.out _ _ _ _ s1 s2)
    | (go_at_call 20; (with_reducible refine (HR w2 B T2 h2 e2).mono ?_); rintro e w3 ⟨rfl, h3, s3⟩; obtain ⟨e3, t3⟩ := HS.out _ _ _ _ t2 (Step.same s3))
    | (go_at_call 21; (with_reducible refine (HL w3 B T2 h3 e3).mono ?_); rintro e w4 ⟨rfl, h4, s4⟩; obtain ⟨e4, t4⟩ := HS.out _ _ _ _ t3 (Step.same s4))
    | (go_at_call 22; (with_reducible refine (HB w4 B T2 h4 e4).mono ?_); rintro e w5 ⟨rfl, h5, s5⟩; obtain ⟨e5, t5⟩ := HS.out _ _ _ _ t4 (Step.same s5))
    | (go_at_call 17; (with_reducible refine (HG w5 B T2 h5).mono ?_); rintro e w6 ⟨rfl, b6⟩))
  go_ret
  exact ⟨rfl, (t5.below.trans (b6.mono t5.below.size)).alloc (Nat.le_trans t5.below.size b6.size) _⟩
end Go.Proofs.YtjgclehghnmhnaaDoor
namespace Go.Proofs.YtjgclehghnmhnaaDoor
open Go Go.RowKit

structure Pr (W0 w : World) (B : Nat) (T : List Nat) (M : Nat) (R : List Nat) (N : Nat) (σ : Sta) : Prop where
  a : TQ w B T N σ
  r : RQ w M R N σ
  d : Disj T R
  s : Step [] W0 (T ++ R) w
section
variable {W0 w w' w2 w3 : World} {B M N : Nat} {T R T' R' T2 R3 : List Nat} {σ τ : Sta}
theorem Pr.keep (h : Pr W0 w B T M R N σ) (hb : But [] w w') : Pr W0 w' B T M R N σ := ⟨h.a.keep hb, h.r.keep hb, h.d, h.s.trans (Step.keep hb)⟩
theorem Pr.below (h : Pr W0 w B T M R N σ) (hb : Below w.heap.size w w') : Pr W0 w' B T M R N σ := h.keep (.of_below hb)
theorem Pr.two (h : Pr W0 w B T M R N σ) (h2 : TQ w2 B T2 N τ) (s2 : Step T w T2 w2) (h3 : RQ w3 M R3 N τ) (s3 : Step R w2 R3 w3) : Pr W0 w3 B T2 M R3 N τ := by
  have d2 : Disj T2 R := h.d.step s2 h.r.lt
  have r2 : ∀ x ∈ R, x < w2.heap.size := fun x hx => Nat.lt_of_lt_of_le (h.r.lt x hx) s2.but.size
  exact ⟨h2.but s3.but d2, h3, (d2.symm.step s3 h2.lt).symm, (h.s.trans (s2.left R)).trans (s3.right T2)⟩
theorem Pr.r2 (h : Pr W0 w B T M R N σ) (s2 : Step T w T2 w2) : RQ w2 M R N σ := h.r.but s2.but h.d.symm
theorem Pr.lt (h : Pr W0 w B T M R N σ) : ∀ x ∈ T ++ R, x < w.heap.size := fun x hx => (List.mem_append.1 hx).elim (h.a.lt x) (h.r.lt x)
theorem Pr.env (h : Pr W0 w B T M R N σ) (hV : Env W0) : Env w := hV.on h.s.below
end
/-- What an act leaves. -/
def actS (σ : Sta) (s : Sp) : Sta :=
  if s.kd = 0 then mkS σ s.n
  else if s.kd = 1 then opS 1 (runK σ.xs s.n) (runF s.n) σ (idX σ.xs s)
  else if s.kd = 2 then opS 2 (lodK s.n) (lodF s.n) σ (idX σ.xs s)
  else if s.kd = 3 then opS 4 blkK blkF σ (idX σ.xs s)
  else if s.kd = 4 then opS 8 noK (preF s.cx) σ (idX σ.xs s)
  else if s.kd = 5 then opS 16 noK cacF σ (idX σ.xs s)
  else if s.kd = 6 then disS σ (idX σ.xs s)
  else if s.kd = 7 then drpS s.n σ.xs σ
  else σ
theorem idX_in {N : Nat} {σ : Sta} (ok : Okk N σ) {s : Sp} (hr : RgS s) : In64 (idX σ.xs s) := by
  unfold idX
  by_cases h : s.re = true ∧ σ.xs.length ≠ 0
  · rw [if_pos h]
    have h1 := Int.emod_nonneg (s.i % 18446744073709551616) (b := (σ.xs.length : Int)) (by omega)
    have h2 := Int.emod_lt_of_pos (s.i % 18446744073709551616) (b := (σ.xs.length : Int)) (by omega)
    have := ok.idr (ac_mem (j := ((s.i % 18446744073709551616) % (σ.xs.length : Int)).toNat) (by omega))
    exact ⟨by omega, by omega⟩
  · rw [if_neg h]
    exact hr.2.1
end Go.Proofs.YtjgclehghnmhnaaDoor
