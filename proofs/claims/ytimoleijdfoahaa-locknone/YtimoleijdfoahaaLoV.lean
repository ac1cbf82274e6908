/- The document's examples, and the walk of LockActs, over any locks that tell as they must. -/
import Derived.Test.YtimoleijdfoahaaLoB
namespace Go.Proofs.Ytimoleijdfoahaa.Lo
open Go Go.RowKit Go.Proofs.Ytimoleijdfoahaa.Bs
open Go.Proofs.Ytimoleijdfoahaa.Lk (inN inN_of inN_out ints ints_iv ints_len iv)

def v1 : St := ⟨[1], [[], []], [0, 0, 0]⟩
def v2 : St := ⟨[1], [[2], []], [0, 0, 0]⟩
theorem e1 : lockS (new 1 3) 0 1 = v1 := by kernel_rfl
theorem e2 : lockS v1 0 2 = v2 := by kernel_rfl
section
variable {PL : World → Nat → List Nat → Nat → Nat → St → Prop}
set_option maxRecDepth 100000 in
set_option maxHeartbeats 4000000 in
theorem lives_any (S : Side PL) (w : World) : Calls Try.prog 8 #[] w fun e w' => e = .returned (.bool true) ∧ Below w.heap.size w w' := by
  have k0 : Ok 1 3 (new 1 3) := Ok.new (by omega) (by omega) (by omega) (by omega)
  have k1 : Ok 1 3 v1 := by have := k0.lock 0 1; rwa [e1] at this
  have k2 : Ok 1 3 v2 := by have := k1.lock 0 2; rwa [e2] at this
  have C0 : Calls Try.prog 9 #[.int .i64 1, .int .i64 3] w fun e w' => ∃ B Q, e = .returned (.pointer (some ⟨B, 0, none⟩)) ∧ PL w' B Q 1 3 (new 1 3) ∧ Step [] w Q w' := S.made 1 3 w (by omega) (by omega) (by omega) (by omega)
  have C1 : ∀ {X B Q}, PL X B Q 1 3 (new 1 3) → Calls Try.prog 17 #[.pointer (some ⟨B, 0, none⟩), .int .i64 0, .int .i64 1] X fun e w' => e = .returned (.tuple #[.bool true, .int .i64 0]) ∧ ∃ Q', PL w' B Q' 1 3 v1 ∧ Step Q X Q' w' := fun h => by
    have := S.lock h k0 0 1
    rw [e1, show lockB (new 1 3) 0 1 = true by kernel_rfl, show lockE (new 1 3) 0 1 = 0 by kernel_rfl] at this
    exact this
  have C2 : ∀ {X B Q}, PL X B Q 1 3 v1 → Calls Try.prog 17 #[.pointer (some ⟨B, 0, none⟩), .int .i64 0, .int .i64 2] X fun e w' => e = .returned (.tuple #[.bool false, .int .i64 0]) ∧ ∃ Q', PL w' B Q' 1 3 v2 ∧ Step Q X Q' w' := fun h => by
    have := S.lock h k1 0 2
    rw [e2, show lockB v1 0 2 = false by kernel_rfl, show lockE v1 0 2 = 0 by kernel_rfl] at this
    exact this
  have C3 : ∀ {X B Q}, PL X B Q 1 3 v2 → Calls Try.prog 18 #[.pointer (some ⟨B, 0, none⟩), .int .i64 0, .int .i64 1] X fun e w' => e = .returned (.tuple #[.int .i64 2, .int .i64 0]) ∧ ∃ Q', PL w' B Q' 1 3 (unlS v2 0 1) ∧ Step Q X Q' w' := fun h => by
    have := S.unlock h k2 0 1
    rw [show unlV v2 0 1 = 2 by kernel_rfl, show unlE v2 0 1 = 0 by kernel_rfl] at this
    exact this
  clear k0 k1 k2
  go_enter Try.func8, Try.ntmps8
  go_wp2_with (first
    | (go_at_call 9; (with_reducible refine C0.mono ?_); rintro e w0 ⟨B, Q0, rfl, h0, s0⟩)
    | (go_at_call 17; first
        | (with_reducible refine (C1 h0).mono ?_); rintro e w1 ⟨rfl, Q1, h1, s1⟩
        | (with_reducible refine (C2 h1).mono ?_); rintro e w2 ⟨rfl, Q2, h2, s2⟩)
    | (go_at_call 18; (with_reducible refine (C3 h2).mono ?_); rintro e w3 ⟨rfl, Q3, h3, s3⟩))
  go_ret
  exact ⟨rfl, (((s0.trans s1).trans s2).trans s3).below⟩

/-- Acts of a slice: kind, lock, condition, thread. -/
def Acts (w : World) (a : Option Addr) (xs : List (Int × Int × Int × Int)) : Prop := ∀ j x, xs[j]? = some x → ∃ b o, a = some ⟨b, o, none⟩ ∧ w.cell? ⟨b, o + j * 4, none⟩ = some (.int .i64 x.1) ∧ w.cell? ⟨b, o + j * 4 + 1, none⟩ = some (.int .i64 x.2.1) ∧ w.cell? ⟨b, o + j * 4 + 2, none⟩ = some (.int .i64 x.2.2.1) ∧ w.cell? ⟨b, o + j * 4 + 3, none⟩ = some (.int .i64 x.2.2.2)
theorem Acts.below {w w' : World} {a : Option Addr} {xs : List (Int × Int × Int × Int)} (h : Acts w a xs) (hb : Below w.heap.size w w') : Acts w' a xs := fun j x hx => by
  obtain ⟨b, o, e, h0, h1, h2, h3⟩ := h j x hx
  exact ⟨b, o, e, cell_on hb h0, cell_on hb h1, cell_on hb h2, cell_on hb h3⟩
set_option maxRecDepth 100000 in
set_option maxHeartbeats 4000000 in
theorem acts_any (S : Side PL) (n0 t0 : Int) (sa : Option Addr) (ca : Nat) (xs : List (Int × Int × Int × Int)) (w : World) (ha : Acts w sa xs) :
    Calls Try.prog 3 #[.agg #[.int .i64 n0, .int .i64 t0], .slice sa xs.length ca] w fun e w' => e = .returned (.bool true) ∧ Below w.heap.size w w' := by
  have HL : ∀ W, _ := fun W => lives_any S W
  have b0 : But [] w (w.alloc (.cells #[.int .i64 n0, .int .i64 t0] 22)) := (But.refl [] w).alloc _
  have a0 : (w.alloc (.cells #[.int .i64 n0, .int .i64 t0] 22)).cell? ⟨w.heap.size, 0, none⟩ = some (.int .i64 n0) := by simp [go_sem]
  have a1 : (w.alloc (.cells #[.int .i64 n0, .int .i64 t0] 22)).cell? ⟨w.heap.size, 1, none⟩ = some (.int .i64 t0) := by simp [go_sem]
  by_cases hlen : 150 < xs.length
  · have hlen' : (150 : Int) < (xs.length : Int) := by omega
    go_enter Try.func3, Try.ntmps3
    go_wp2_with (first
      | (go_at_call 8; refine (HL _).mono ?_; rintro e w2 ⟨rfl, b2⟩))
    go_ret
    exact ⟨rfl, (b0.trans (.of_below b2)).to_below⟩
  have hlen' : (xs.length : Int) ≤ 150 := by omega
  by_cases hin : n0 < 1 ∨ 64 < n0 ∨ t0 < 1 ∨ 1024 < t0
  · go_enter Try.func3, Try.ntmps3
    go_upto_region 3 with fail
    generalize w.alloc (.cells #[.int .i64 n0, .int .i64 t0] 22) = W1 at *
    have a0d : W1.drew.cell? ⟨w.heap.size, 0, none⟩ = some (.int .i64 n0) := a0
    have a1d : W1.drew.cell? ⟨w.heap.size, 1, none⟩ = some (.int .i64 t0) := a1
    have hsd : W1.drew.cell? ⟨w.heap.size, 0, none⟩ = some (.int .i64 n0) ∧ W1.drew.cell? ⟨w.heap.size, 1, none⟩ = some (.int .i64 t0) := ⟨a0d, a1d⟩
    go_region_held3 (fun w' => w'.cell? ⟨w.heap.size, 0, none⟩ = some (.int .i64 n0) ∧ w'.cell? ⟨w.heap.size, 1, none⟩ = some (.int .i64 t0)) (first | with_reducible assumption | with_reducible exact hsd) (first
      | (go_at_call 9; (with_reducible refine (S.nil n0 t0 _ hin).mono ?_); rintro e w1 ⟨rfl, b1⟩; have k1 : w1.cell? ⟨w.heap.size, 0, none⟩ = some (.int .i64 n0) ∧ w1.cell? ⟨w.heap.size, 1, none⟩ = some (.int .i64 t0) := ⟨cell_on b1 a0d, cell_on b1 a1d⟩)
      | (go_at_call 10; (with_reducible refine (rnew_none n0 t0 hin _).mono ?_); rintro e w2 ⟨rfl, rfl⟩))
    all_goals
      go_wp2_with (first
        | (go_at_call 8; refine (HL _).mono ?_; rintro e w3 ⟨rfl, b3⟩))
      go_ret
      exact ⟨rfl, (((b0.trans (But.refl [] W1).drew).trans (.of_below b1)).trans (.of_below b3)).to_below⟩
  obtain ⟨n, rfl⟩ : ∃ n : Nat, n0 = n := ⟨n0.toNat, by omega⟩
  obtain ⟨T, rfl⟩ : ∃ T : Nat, t0 = T := ⟨t0.toNat, by omega⟩
  have g1 : 1 ≤ n := by omega
  have g2 : n ≤ 64 := by omega
  have g3 : 1 ≤ T := by omega
  have g4 : T ≤ 1024 := by omega
  clear hin
  go_enter Try.func3, Try.ntmps3
  go_upto_region 3 with fail
  have ha1 := ha.below b0.to_below
  generalize hW1 : w.alloc (.cells #[.int .i64 n, .int .i64 T] 22) = W1 at *
  have a0d : W1.drew.cell? ⟨w.heap.size, 0, none⟩ = some (.int .i64 n) := a0
  have a1d : W1.drew.cell? ⟨w.heap.size, 1, none⟩ = some (.int .i64 T) := a1
  have hsd : W1.drew.cell? ⟨w.heap.size, 0, none⟩ = some (.int .i64 n) ∧ W1.drew.cell? ⟨w.heap.size, 1, none⟩ = some (.int .i64 T) := ⟨a0d, a1d⟩
  go_region_held3 (fun w' => w'.cell? ⟨w.heap.size, 0, none⟩ = some (.int .i64 n) ∧ w'.cell? ⟨w.heap.size, 1, none⟩ = some (.int .i64 T)) (first | with_reducible assumption | with_reducible exact hsd) (first
    | (go_at_call 9; (with_reducible refine (S.made n T _ g1 g2 g3 g4).mono ?_); rintro e w1 ⟨B, Q1, rfl, h1, s1⟩; have k1 : w1.cell? ⟨w.heap.size, 0, none⟩ = some (.int .i64 n) ∧ w1.cell? ⟨w.heap.size, 1, none⟩ = some (.int .i64 T) := ⟨s1.but.cell a0d, s1.but.cell a1d⟩)
    | (go_at_call 10; (with_reducible refine (rnew_some g1 g2 g3 g4 _).mono ?_); rintro e w2 ⟨M, R1, rfl, h2, s2⟩; have hP := Pr.new S h1 s1 h2 s2; have k2 : w2.cell? ⟨w.heap.size, 0, none⟩ = some (.int .i64 n) ∧ w2.cell? ⟨w.heap.size, 1, none⟩ = some (.int .i64 T) := ⟨s2.but.cell k1.1, s2.but.cell k1.2⟩))
  all_goals
    have b1 : But [] w W1.drew := b0.trans (But.refl [] W1).drew
    have ha2 : Acts W1.drew sa xs := ha1.below (But.refl [] W1).drew.to_below
    clear h1 s1 h2 s2 k1 k2 hsd a0d a1d a0 a1
    generalize W1.drew = W2 at *
    clear hW1 ha1 ha b0
    go_wp2_with fail
    go_loopw [33, 8] (fun v _ wr => ∃ (j : Nat) (Q R : List Nat) (σ : St), j ≤ xs.length ∧ v = .int .i64 j ∧ Pr PL W2 wr B Q M R n T σ σ) (fun v _ _ => 150 - (intOf v).toNat)
    case atStart => exact ⟨0, _, _, _, by omega, rfl, hP⟩
    case round =>
      clear hP
      obtain ⟨j, Q, R, σ, hj, rfl, hP⟩ := hrel
      by_cases hlt : j < xs.length
      · obtain ⟨b, o, rfl, x0, x1, x2, x3⟩ := ha2.below hP.s.below j xs[j] (by simp)
        have hlt' : (j : Int) < (xs.length : Int) := by omega
        generalize xs[j] = x at x0 x1 x2 x3
        obtain ⟨k, ov, cv, tv⟩ := x
        dsimp only at x0 x1 x2 x3
        have hP1 := hP.keep S ((But.refl [] wr).alloc (.cells #[.int .i64 k, .int .i64 ov, .int .i64 cv, .int .i64 tv] 30))
        have hA1 := At4.new wr k ov cv tv
        have hout := hP.out S (Nat.le_refl _)
        go_wp2_with fail
        generalize wr.alloc (.cells #[.int .i64 k, .int .i64 ov, .int .i64 cv, .int .i64 tv] 30) = W3 at *
        have AC : ∀ X Q R, Pr PL W2 X B Q M R n T σ σ → _ := fun X Q R h => act_any S (w := X) h k ov cv tv
        generalize actS σ k ov cv tv = σ2 at AC
        have AL : ∀ X Q R, Pr PL W2 X B Q M R n T σ2 σ2 → _ := fun X Q R h => alike_any S (w := X) h k ov cv tv
        clear x0 x1 x2 x3 hP
        obtain ⟨y0, y1, y2, y3⟩ := hA1
        go_wp2_with (first
          | (go_at_call 11; refine (AC _ _ _ hP1).mono ?_; rintro e w4 ⟨rfl, Q4, R4, p4, s4⟩; obtain ⟨z0, z1, z2, z3⟩ : At4 w4 wr.heap.size k ov cv tv := At4.but ⟨y0, y1, y2, y3⟩ s4.but hout)
          | (go_at_call 12; refine (AL _ _ _ p4).mono ?_; rintro e w5 ⟨rfl, b5⟩; have p5 := p4.keep S (.of_below b5)))
        go_roundw
        case rel => exact ⟨j + 1, Q4, R4, σ2, by omega, by simp, p5⟩
        case measure =>
          simp [intOf]
          omega
      · obtain rfl : j = xs.length := by omega
        go_wp2_with (first
          | (go_at_call 8; refine (HL _).mono ?_; rintro e w3 ⟨rfl, b3⟩))
        go_ret
        exact ⟨rfl, ((b1.trans (.of_below hP.s.below)).trans (.of_below b3)).to_below⟩
end
end Go.Proofs.Ytimoleijdfoahaa.Lo
