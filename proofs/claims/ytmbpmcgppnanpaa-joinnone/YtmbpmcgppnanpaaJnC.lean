/- The walk of JoinActs, over any ends that tell as they must. -/
import Derived.Test.YtmbpmcgppnanpaaJnV
namespace Go.Proofs.Ytmbpmcgppnanpaa.Jn
open Go Go.RowKit Go.Proofs.Ytmbpmcgppnanpaa.Bs
set_option linter.unusedSimpArgs false

/-- Acts of a slice. -/
def Acts (w : World) (a : Option Addr) (xs : List Ax) : Prop := ∀ j x, xs[j]? = some x → x.Ok ∧ ∃ b o, a = some ⟨b, o, none⟩ ∧ w.cell? ⟨b, o + j * 7, none⟩ = some (.int .i64 x.k) ∧ w.cell? ⟨b, o + j * 7 + 1, none⟩ = some (.int .i64 x.p) ∧ w.cell? ⟨b, o + j * 7 + 2, none⟩ = some (.int .i64 x.a) ∧ w.cell? ⟨b, o + j * 7 + 3, none⟩ = some (.int .i64 x.b) ∧ w.cell? ⟨b, o + j * 7 + 4, none⟩ = some (.int .i64 x.g) ∧ w.cell? ⟨b, o + j * 7 + 5, none⟩ = some (.bool x.raw) ∧ w.cell? ⟨b, o + j * 7 + 6, none⟩ = some (.int .i64 x.v)
theorem Acts.below {w w' : World} {a : Option Addr} {xs : List Ax} (h : Acts w a xs) (hb : Below w.heap.size w w') : Acts w' a xs := fun j x hx => by
  obtain ⟨hx, b, o, e, h0, h1, h2, h3, h4, h5, h6⟩ := h j x hx
  exact ⟨hx, b, o, e, cell_on hb h0, cell_on hb h1, cell_on hb h2, cell_on hb h3, cell_on hb h4, cell_on hb h5, cell_on hb h6⟩
section
variable {PL : World → Nat → List Nat → Nat → St → Prop}
set_option maxRecDepth 100000 in
set_option maxHeartbeats 4000000 in
theorem acts_any (S : Side PL) (n0 : Int) (sa : Option Addr) (ca : Nat) (xs : List Ax) (w : World) (ha : Acts w sa xs) :
    Calls Try.prog 3 #[.int .i64 n0, .slice sa xs.length ca] w fun e w' => e = .returned (.bool true) ∧ Below w.heap.size w w' := by
  have HL : ∀ W, _ := fun W => lives_any S W
  by_cases hlen : 150 < xs.length
  · have hlen' : (150 : Int) < (xs.length : Int) := by omega
    go_enter Try.func3, Try.ntmps3
    go_wp2_with (first
      | (go_at_call 7; refine (HL _).mono ?_; rintro e w2 ⟨rfl, b2⟩))
    go_ret
    exact ⟨rfl, b2⟩
  have hlen' : (xs.length : Int) ≤ 150 := by omega
  by_cases hin : n0 < 1 ∨ 1024 < n0
  · go_enter Try.func3, Try.ntmps3
    go_wp2_with (first
      | (go_at_call 8; (with_reducible refine (S.nil n0 _ hin).mono ?_); rintro e w1 ⟨rfl, b1⟩)
      | (go_at_call 9; (with_reducible refine (rnew_none n0 hin _).mono ?_); rintro e w2 ⟨rfl, hw⟩; subst w2)
      | (go_at_call 7; refine (HL _).mono ?_; rintro e w3 ⟨rfl, b3⟩))
    go_ret
    exact ⟨rfl, ((But.of_below (S := []) b1).trans (.of_below b3)).to_below⟩
  obtain ⟨n, rfl⟩ : ∃ n : Nat, n0 = n := ⟨n0.toNat, by omega⟩
  have g1 : 1 ≤ n := by omega
  have g2 : n ≤ 1024 := by omega
  clear hin
  go_enter Try.func3, Try.ntmps3
  go_wp2_with (first
    | (go_at_call 8; (with_reducible refine (S.made n _ g1 g2).mono ?_); rintro e w1 ⟨B, Q1, rfl, h1, s1⟩)
    | (go_at_call 9; (with_reducible refine (rnew_some n g1 g2 _).mono ?_); rintro e w2 ⟨M, R1, rfl, h2, s2⟩; have hP := Pr.new S h1 s1 h2 s2))
  clear h1 s1 h2 s2
  go_loopw [27, 8] (fun v _ wr => ∃ (j : Nat) (Q R : List Nat) (σ : St), j ≤ xs.length ∧ v = .int .i64 j ∧ Pr PL w wr B Q M R n σ σ) (fun v _ _ => 150 - (intOf v).toNat)
  case atStart => exact ⟨0, _, _, _, by omega, rfl, hP⟩
  case round =>
    clear hP
    obtain ⟨j, Q, R, σ, hj, rfl, hP⟩ := hrel
    by_cases hlt : j < xs.length
    · obtain ⟨hx, b, o, rfl, x0, x1, x2, x3, x4, x5, x6⟩ := ha.below hP.s.below j xs[j] (by simp)
      have hlt' : (j : Int) < (xs.length : Int) := by omega
      generalize xs[j] = x at hx x0 x1 x2 x3 x4 x5 x6
      have hP1 := hP.keep S ((But.refl [] wr).alloc (.cells x.cells 29))
      have hA := At7.new wr x
      have hout : wr.heap.size ∉ Q ++ R := fun e => (List.mem_append.1 e).elim (hP.outQ S (Nat.le_refl _)) (hP.outR (Nat.le_refl _))
      have AC : ∀ X Q R, Pr PL w X B Q M R n σ σ → _ := fun X Q R h => act_any S (w := X) h x hx
      have AL : ∀ X Q R σ2, Pr PL w X B Q M R n σ2 σ2 → _ := fun X Q R σ2 h => alike_any S (w := X) h x hx
      have A7 : ∀ X, At7 X wr.heap.size x → _ := fun X h => h.all
      obtain ⟨k, p, a, b', g, raw, v⟩ := x
      generalize actS σ ⟨k, p, a, b', g, raw, v⟩ = σ2 at *
      dsimp only at x0 x1 x2 x3 x4 x5 x6 A7
      dsimp only [Ax.cells] at hP1 hA AC AL
      clear hx hP
      go_wp2_with fail
      generalize wr.alloc (.cells #[.int .i64 k, .int .i64 p, .int .i64 a, .int .i64 b', .int .i64 g, .bool raw, .int .i64 v] 29) = W1 at *
      go_wp2_with (first
        | (go_at_call 10; (with_reducible refine (AC _ _ _ hP1).mono ?_); rintro e w2 ⟨rfl, Q2, R2, p2, s2⟩; obtain ⟨y0, y1, y2, y3, y4, y5, y6⟩ := A7 _ (hA.but s2.but hout))
        | (go_at_call 11; (with_reducible refine (AL _ _ _ _ p2).mono ?_); rintro e w3 ⟨rfl, b3⟩; have p3 := p2.keep S (.of_below b3)))
      go_roundw
      case rel => exact ⟨j + 1, Q2, R2, _, by omega, by simp, p3⟩
      case measure =>
        simp [intOf]
        omega
    · obtain rfl : j = xs.length := by omega
      go_wp2_with (first
        | (go_at_call 7; refine (HL _).mono ?_; rintro e w3 ⟨rfl, b3⟩))
      go_ret
      exact ⟨rfl, ((But.of_below (S := []) hP.s.below).trans (.of_below b3)).to_below⟩
end
end Go.Proofs.Ytmbpmcgppnanpaa.Jn
