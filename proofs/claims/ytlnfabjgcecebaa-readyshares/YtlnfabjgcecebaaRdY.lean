/- The walk of ReadyActs, over any queue that tells as it must. -/
import Derived.Test.YtlnfabjgcecebaaRdKh
namespace Go.Proofs.Ytlnfabjgcecebaa.Rd
open Go Go.RowKit Go.Proofs.Ytlnfabjgcecebaa.Str
open Go.Proofs.Ytlnfabjgcecebaa.Hp (Step Disj)

def Acts (w : World) (a : Option Addr) (xs : List (Int × Int × Int)) : Prop := ∀ j x, xs[j]? = some x → ∃ b o, a = some ⟨b, o, none⟩ ∧ w.cell? ⟨b, o + j * 3, none⟩ = some (.int .i64 x.1) ∧ w.cell? ⟨b, o + j * 3 + 1, none⟩ = some (.int .i64 x.2.1) ∧ w.cell? ⟨b, o + j * 3 + 2, none⟩ = some (.int .i64 x.2.2)
theorem Acts.below {w w' : World} {a : Option Addr} {xs : List (Int × Int × Int)} (h : Acts w a xs) (hb : Below w.heap.size w w') : Acts w' a xs := fun j x hx => by
  obtain ⟨b, o, e, h0, h1, h2⟩ := h j x hx
  exact ⟨b, o, e, Hp.cell_on hb h0, Hp.cell_on hb h1, Hp.cell_on hb h2⟩
abbrev Ac3 (w : World) (A : Nat) (k t x : Int) : Prop := w.cell? ⟨A, 0, none⟩ = some (.int .i64 k) ∧ w.cell? ⟨A, 1, none⟩ = some (.int .i64 t) ∧ w.cell? ⟨A, 2, none⟩ = some (.int .i64 x)
theorem Ac3.new (w : World) (k t x : Int) : Ac3 (w.alloc (.cells #[.int .i64 k, .int .i64 t, .int .i64 x] 29)) w.heap.size k t x := ⟨ac0 w k t x, AcAt.new w k t x⟩
theorem Ac3.out {w w' : World} {S : List Nat} {A : Nat} {k t x : Int} (h : Ac3 w A k t x) (hb : Hp.But S w w') (hA : A ∉ S) : Ac3 w' A k t x := ⟨hb.cell' h.1 hA, hb.cell' h.2.1 hA, hb.cell' h.2.2 hA⟩
theorem Ac3.on {w w' : World} {A : Nat} {k t x : Int} (h : Ac3 w A k t x) (hb : Below w.heap.size w w') : Ac3 w' A k t x := ⟨Hp.cell_on hb h.1, Hp.cell_on hb h.2.1, Hp.cell_on hb h.2.2⟩
section
variable {PQ : World → Nat → List Nat → Nat → Qs → Prop}
theorem Pr.out {W0 w : World} {B M G N : Nat} {T : List Nat} {σ σ' : Qs} (S : Side PQ) (h : Pr PQ W0 w B T M G N σ σ') {A : Nat} (hA : w.heap.size ≤ A) : A ∉ T ++ [M, G] := fun e => (List.mem_append.1 e).elim (h.outT S hA) (h.outR hA)
theorem Pr.new {W0 w1 w2 : World} {B M G N : Nat} {T : List Nat} {σ σ' : Qs} (S : Side PQ) (h1 : PQ w1 B T N σ) (s1 : Step [] W0 T w1) (h2 : RQ w2 M G N σ') (b2 : Below w1.heap.size w1 w2) (hM : w1.heap.size ≤ M) (hG : w1.heap.size ≤ G) : Pr PQ W0 w2 B T M G N σ σ' := by
  have b2' : Hp.But [] w1 w2 := .of_below b2
  refine ⟨S.keep h1 b2', h2, fun x hx hy => ?_, s1.but.trans b2', fun x hx => .inr ?_⟩
  · have := S.lt h1 x hx
    rcases List.mem_cons.1 hy with rfl | hy
    · omega
    · rcases List.mem_cons.1 hy with rfl | hy
      · omega
      · cases hy
  · have hz := s1.but.size
    rcases List.mem_append.1 hx with hx | hx
    · rcases s1.new x hx with e | e
      · cases e
      · exact e
    · rcases List.mem_cons.1 hx with rfl | hx
      · omega
      · rcases List.mem_cons.1 hx with rfl | hx
        · omega
        · cases hx
set_option maxRecDepth 100000 in
set_option maxHeartbeats 4000000 in
theorem acts_any (S : Side PQ) (HL : ∀ W, Calls Try.prog 7 #[] W fun e w' => e = .returned (.bool true) ∧ Below W.heap.size W w') (n0 : Int) (sa : Option Addr) (ca : Nat) (xs : List (Int × Int × Int)) (w : World) (ha : Acts w sa xs) :
    Calls Try.prog 3 #[.int .i64 n0, .slice sa xs.length ca] w fun e w' => e = .returned (.bool true) ∧ Below w.heap.size w w' := by
  by_cases hlen : 200 < xs.length
  · have hlen' : (200 : Int) < (xs.length : Int) := by omega
    go_enter Try.func3, Try.ntmps3
    go_wp2_with (first
      | (go_at_call 7; refine (HL _).mono ?_; rintro e w2 ⟨rfl, b2⟩))
    go_ret
    exact ⟨rfl, b2⟩
  · have hlen' : (xs.length : Int) ≤ 200 := by omega
    by_cases hin : n0 < 1 ∨ 4096 < n0
    · go_enter Try.func3, Try.ntmps3
      go_wp2_with (first
        | (go_at_call 8; refine (S.nil n0 _ hin).mono ?_; rintro e w1 ⟨rfl, b1⟩)
        | (go_at_call 9; refine (new_none n0 hin _).mono ?_; rintro e w' ⟨rfl, hw⟩; subst w')
        | (go_at_call 7; refine (HL _).mono ?_; rintro e w2 ⟨rfl, b2⟩))
      go_ret
      exact ⟨rfl, ((Hp.But.of_below (S := []) b1).trans (.of_below b2)).to_below⟩
    · obtain ⟨N, rfl⟩ : ∃ N : Nat, n0 = N := ⟨n0.toNat, by omega⟩
      have e1 : 1 ≤ N := by omega
      have e2 : N ≤ 4096 := by omega
      by_cases hbig : 100 < N
      · have hbig' : (100 : Int) < (N : Int) := by omega
        clear hin
        go_enter Try.func3, Try.ntmps3
        go_wp2_with (first
          | (go_at_call 8; refine (S.made N _ e1 e2).mono ?_; rintro e w1 ⟨B, T1, rfl, h1, s1⟩)
          | (go_at_call 9; refine (new_some N e1 e2 _).mono ?_; rintro e w2 ⟨M, rfl, G, h2, b2, -, -⟩)
          | (go_at_call 7; refine (HL _).mono ?_; rintro e w3 ⟨rfl, b3⟩))
        go_ret
        exact ⟨rfl, ((s1.but.trans (.of_below b2)).trans (.of_below b3)).to_below⟩
      · have hbig' : ¬ (100 : Int) < (N : Int) := by omega
        clear hin
        go_enter Try.func3, Try.ntmps3
        go_wp2_with (first
          | (go_at_call 8; refine (S.made N _ e1 e2).mono ?_; rintro e w1 ⟨B, T1, rfl, h1, s1⟩)
          | (go_at_call 9; refine (new_some N e1 e2 _).mono ?_; rintro e w2 ⟨M, rfl, G, h2, b2, hM, hG⟩; have hP := Pr.new S h1 s1 h2 b2 hM hG))
        clear h1 s1 h2 b2 hM hG
        go_loopw [31, 8] (fun v _ wr => ∃ (j : Nat) (T : List Nat) (σ : Qs), j ≤ xs.length ∧ v = .int .i64 j ∧ Pr PQ w wr B T M G N σ σ ∧ Few j σ) (fun v _ _ => 200 - (intOf v).toNat)
        case atStart => exact ⟨0, T1, _, by omega, rfl, hP, Few.new N⟩
        case round =>
          clear hP
          obtain ⟨j, T, σ, hj, rfl, hP, hF⟩ := hrel
          by_cases hlt : j < xs.length
          · obtain ⟨b, o, rfl, x0, x1, x2⟩ := ha.below hP.s.below j xs[j] (by simp)
            have hlt' : (j : Int) < (xs.length : Int) := by omega
            generalize xs[j] = x at x0 x1 x2
            obtain ⟨k, t, y⟩ := x
            dsimp only at x0 x1 x2
            have hP1 := hP.keep S ((Hp.But.refl [] wr).alloc (.cells #[.int .i64 k, .int .i64 t, .int .i64 y] 29))
            have hA1 := Ac3.new wr k t y
            have hout := hP.out S (Nat.le_refl _)
            go_wp2_with fail
            generalize wr.alloc (.cells #[.int .i64 k, .int .i64 t, .int .i64 y] 29) = W1 at *
            have AC : ∀ W, Pr PQ w W B T M G N σ σ → _ := fun W h => act_any S (w := W) h hF (by omega) k t y
            have hF2 := hF.act (by omega) k t y
            generalize actS σ k t y = σ2 at AC hF2
            have AL : ∀ W T, Pr PQ w W B T M G N σ2 σ2 → _ := fun W T h => alike_any S (w := W) (T := T) h hF2 (by omega) t
            clear x0 x1 x2 hP
            go_wp2_with (first
              | (go_at_call 10; refine (AC _ hP1).mono ?_; rintro e w2 ⟨rfl, T2, p2, s2⟩; have hA2 := hA1.out s2.but hout)
              | (go_at_call 11; refine (AL _ _ p2).mono ?_; rintro e w3 ⟨rfl, b3⟩; have p3 := p2.keep S (.of_below b3)))
            go_roundw
            case rel => exact ⟨j + 1, T2, σ2, by omega, by simp, p3, hF2⟩
            case measure =>
              simp [intOf]
              omega
          · obtain rfl : j = xs.length := by omega
            go_wp2_with (first
              | (go_at_call 7; refine (HL _).mono ?_; rintro e w3 ⟨rfl, b3⟩))
            go_ret
            exact ⟨rfl, ((Hp.But.of_below (S := []) hP.s.below).trans (.of_below b3)).to_below⟩
end
end Go.Proofs.Ytlnfabjgcecebaa.Rd
