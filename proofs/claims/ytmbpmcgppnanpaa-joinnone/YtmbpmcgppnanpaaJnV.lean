/- The document's examples, and the walk of JoinActs, over any ends that tell as they must. -/
import Derived.Test.YtmbpmcgppnanpaaJnB
namespace Go.Proofs.Ytmbpmcgppnanpaa.Jn
open Go Go.RowKit Go.Proofs.Ytmbpmcgppnanpaa.Bs
open Go.Proofs.Ytmbpmcgppnanpaa.Ids (right indexI ageI idI rid_any)
set_option linter.unusedSimpArgs false

def v1 : St := [⟨65536, false, 0, []⟩, r0]
def v2 : St := [⟨65536, false, 0, [65537]⟩, r0]
theorem e1 : startS (new 2) 65536 = v1 := by kernel_rfl
theorem e2 : joinS v1 65536 65537 = v2 := by kernel_rfl
theorem lit1 (w : World) (x : Int) : IntsR (w.alloc (.cells #[.int .i64 x] 3)) (some ⟨w.heap.size, 0, none⟩) [x] := fun j y hj => by
  cases j with
  | zero =>
    simp at hj
    subst hj
    exact ⟨_, rfl, by simp [go_sem]⟩
  | succ j => simp at hj
theorem iv_lit (x : Int) (h : 0 ≤ x ∧ x ≤ 9223372036854775807) : Iv x := ⟨by omega, h.2⟩
section
variable {PL : World → Nat → List Nat → Nat → St → Prop}
set_option maxRecDepth 100000 in
set_option maxHeartbeats 4000000 in
theorem lives_any (S : Side PL) (w : World) : Calls Try.prog 7 #[] w fun e w' => e = .returned (.bool true) ∧ Below w.heap.size w w' := by
  have k0 : Ok 2 (new 2) := Ok.new (by omega) (by omega)
  have k1 : Ok 2 v1 := by have := k0.start 65536; rwa [e1] at this
  have k2 : Ok 2 v2 := by have := k1.join 65536 65537; rwa [e2] at this
  have C0 : Calls Try.prog 8 #[.int .i64 2] w fun e w' => ∃ B Q, e = .returned (.pointer (some ⟨B, 0, none⟩)) ∧ PL w' B Q 2 (new 2) ∧ Step [] w Q w' := S.made 2 w (by omega) (by omega)
  have C1 : ∀ {X B Q}, PL X B Q 2 (new 2) → Calls Try.prog 12 #[.pointer (some ⟨B, 0, none⟩), .int .i64 65536] X fun e w' => e = .returned (.int .i64 0) ∧ ∃ Q', PL w' B Q' 2 v1 ∧ Step Q X Q' w' := fun h => by
    have := S.start h k0 65536 (iv_lit _ (by omega))
    rw [e1, show startE (new 2) 65536 = 0 by kernel_rfl] at this
    exact this
  have C2 : ∀ {X B Q}, PL X B Q 2 v1 → Calls Try.prog 13 #[.pointer (some ⟨B, 0, none⟩), .int .i64 65536, .int .i64 65537] X fun e w' => e = .returned (.tuple #[.int .i64 0, .bool false, .int .i64 0]) ∧ ∃ Q', PL w' B Q' 2 v2 ∧ Step Q X Q' w' := fun h => by
    have := S.join h k1 65536 65537 (iv_lit _ (by omega)) (iv_lit _ (by omega))
    rw [e2, show joinV v1 65536 65537 = 0 by kernel_rfl, show joinB v1 65536 65537 = false by kernel_rfl, show joinE v1 65536 65537 = 0 by kernel_rfl] at this
    exact this
  have C3 : ∀ {X B Q}, PL X B Q 2 v2 → Calls Try.prog 15 #[.pointer (some ⟨B, 0, none⟩), .int .i64 65536, .int .i64 5] X fun e w' => ∃ v, e = .returned (.tuple #[v, .int .i64 0]) ∧ RowI w' X.heap.size v [65537] ∧ Below X.heap.size X X ∧ ∃ Q', PL w' B Q' 2 (endS v2 65536 5) ∧ Step Q X Q' w' := fun h => by
    have := S.end_ h k2 65536 5 (iv_lit _ (by omega))
    rw [show endE v2 65536 = 0 by kernel_rfl, show endL v2 65536 = [65537] by kernel_rfl] at this
    exact this.mono (fun e w' ⟨v, h1, h2, Q', h3, h4, h5⟩ => ⟨v, h1, h2, Below.refl _ _, Q', h3, h4⟩)
  have LI : ∀ a c W base, RowI W base (.slice a 1 c) [65537] → Calls Try.prog 16 #[.slice a 1 c, .slice (some ⟨W.heap.size, 0, none⟩) 1 1] (W.alloc (.cells #[.int .i64 65537] 3)) fun e w' => e = .returned (.bool true) ∧ Below (W.alloc (.cells #[.int .i64 65537] 3)).heap.size (W.alloc (.cells #[.int .i64 65537] 3)) w' := fun a c W base h =>
    ints_any a _ c 1 [65537] _ (by simp) (h.below ((Below.refl _ W).alloc (Nat.le_refl _) _)).at (lit1 W 65537)
  clear k0 k1 k2
  go_enter Try.func7, Try.ntmps7
  go_wp2_with (first
    | (go_at_call 8; (with_reducible refine C0.mono ?_); rintro e w0 ⟨B, Q0, rfl, h0, s0⟩)
    | (go_at_call 12; (with_reducible refine (C1 h0).mono ?_); rintro e w1 ⟨rfl, Q1, h1, s1⟩)
    | (go_at_call 13; (with_reducible refine (C2 h1).mono ?_); rintro e w2 ⟨rfl, Q2, h2, s2⟩)
    | (go_at_call 15; (with_reducible refine (C3 h2).mono ?_); rintro e w3 ⟨v, rfl, r3, -, Q3, h3, s3⟩; obtain ⟨a3, d3, rfl⟩ := own_shape r3)
    | (go_at_call 16; (with_reducible refine (LI _ _ _ _ r3).mono ?_); rintro e w4 ⟨rfl, b4⟩))
  go_ret
  have b5 : Below w3.heap.size w3 w4 := ((But.refl [] w3).alloc (.cells #[.int .i64 65537] 3)).trans (.of_below b4) |>.to_below
  exact ⟨rfl, ((((s0.trans s1).trans s2).trans s3).but.trans (.of_below b5)).to_below⟩
end
end Go.Proofs.Ytmbpmcgppnanpaa.Jn
