/- The contract of the statements' alike, the document's examples. -/
import Derived.Test.YtmbpmcgppnanpaaJnA
import Derived.BigQuiet
namespace Go.Proofs.Ytmbpmcgppnanpaa.Jn
open Go Go.RowKit Go.Proofs.Ytmbpmcgppnanpaa.Bs
open Go.Proofs.Ytmbpmcgppnanpaa.Ids (right indexI ageI idI rid_any)
set_option linter.unusedSimpArgs false

theorem Ok.waitl {n : Nat} {σ : St} (h : Ok n σ) (id : Int) : (waitL σ id).length ≤ 1024 := h.endl id
section
variable {PL : World → Nat → List Nat → Nat → St → Prop} {W0 w w' : World} {B M n : Nat} {Q Q' R R' : List Nat} {σ σ' τ : St}
set_option maxRecDepth 100000 in
set_option maxHeartbeats 4000000 in
theorem alike_any (S : Side PL) (h : Pr PL W0 w B Q M R n σ σ) (x : Ax) (hx : x.Ok) :
    Calls Try.prog 11 #[.pointer (some ⟨B, 0, none⟩), .pointer (some ⟨M, 0, none⟩), .agg x.cells] w fun e w' => e = .returned (.bool true) ∧ Below w.heap.size w w' := by
  have hok := h.r.ok
  have h1 := h.keep S ((But.refl [] w).alloc (.cells x.cells 29))
  have b1 : But [] w (w.alloc (.cells x.cells 29)) := (But.refl [] w).alloc _
  have hi := hx.id
  have ht := hx.t
  have J := ids_any x
  have C1 : ∀ X Q, PL X B Q n σ → _ := fun X Q h => S.state (w := X) (Q := Q) h hok x.id hi
  have C2 : ∀ X R, RQ X M R n σ → _ := fun X R h => state_q (w := X) (R := R) h x.id hi
  have C3 : ∀ X Q, PL X B Q n σ → _ := fun X Q h => S.where_ (w := X) (Q := Q) h hok x.t ht
  have C4 : ∀ X R, RQ X M R n σ → _ := fun X R h => where_q (w := X) (R := R) h x.t
  have C5 : ∀ X Q, PL X B Q n σ → _ := fun X Q h => S.waiters (w := X) (Q := Q) h hok x.id hi
  have C6 : ∀ X R, RQ X M R n σ → _ := fun X R h => waiters_any (w := X) (R := R) h x.id hi.2
  have hL := hok.waitl x.id
  obtain ⟨k, p, a, b, g, raw, v⟩ := x
  generalize Ax.id ⟨k, p, a, b, g, raw, v⟩ = id at *
  generalize Ax.t ⟨k, p, a, b, g, raw, v⟩ = t at *
  clear h hok hi ht hx
  generalize stI σ id = y at *
  generalize whI σ t = z at *
  generalize waitL σ id = ls at *
  have e_y : (y == y) = true := by simp
  have e_z : (z == z) = true := by simp
  dsimp only [Ax.cells] at J b1 h1 ⊢
  go_enter Try.func11, Try.ntmps11
  go_wp2_with fail
  generalize w.alloc (.cells #[.int .i64 k, .int .i64 p, .int .i64 a, .int .i64 b, .int .i64 g, .bool raw, .int .i64 v] 29) = W1 at *
  go_wp2_with (first
    | (go_at_call 18; (with_reducible refine (J _).mono ?_); rintro e wi ⟨rfl, hbi⟩; have h2 := h1.keep S (.of_below hbi); have b2 := b1.trans (.of_below hbi); clear h1 hbi)
    | (go_at_call 17; (with_reducible refine (C1 _ _ h2.a).mono ?_); rintro e w2 ⟨rfl, b3⟩; have h3 := h2.keep S (.of_below b3))
    | (go_at_call 27; (with_reducible refine (C2 _ _ h3.r).mono ?_); rintro e w3 ⟨rfl, hw⟩; subst w3)
    | (go_at_call 14; (with_reducible refine (C3 _ _ h3.a).mono ?_); rintro e w4 ⟨rfl, b4⟩; have h4 := h3.keep S (.of_below b4))
    | (go_at_call 28; (with_reducible refine (C4 _ _ h4.r).mono ?_); rintro e w5 ⟨rfl, b5⟩; have h5 := h4.keep S (.of_below b5))
    | (go_at_call 19; (with_reducible refine (C5 _ _ h5.a).mono ?_); rintro e w6 ⟨v1, rfl, r1, b6⟩; have h6 := h5.keep S (.of_below b6); obtain ⟨a1, d1, rfl⟩ := own_shape r1)
    | (go_at_call 29; (with_reducible refine (C6 _ _ h6.r).mono ?_); rintro e w7 ⟨v2, rfl, r2, b7⟩; have h7 := h6.keep S (.of_below b7); obtain ⟨a2, d2, rfl⟩ := own_shape r2; replace r1 := r1.below b7)
    | (go_at_call 16; (with_reducible refine (ints_any _ _ _ _ _ _ (by omega) r1.at r2.at).mono ?_); rintro e w8 ⟨rfl, b8⟩))
  go_ret
  exact ⟨rfl, ((((((b2.trans (.of_below b3)).trans (.of_below b4)).trans (.of_below b5)).trans (.of_below b6)).trans (.of_below b7)).trans (.of_below b8)).to_below⟩
end
end Go.Proofs.Ytmbpmcgppnanpaa.Jn
