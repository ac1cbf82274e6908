/- The walk of ReadyActs, over any queue that tells as it must. -/
import Derived.Test.YtlnfabjgcecebaaGreatRdKh
namespace Go.Proofs.YtlnfabjgcecebaaGreat.Rd
open Go Go.RowKit Go.Proofs.YtlnfabjgcecebaaGreat.Str
open Go.Proofs.YtlnfabjgcecebaaGreat.Hp (Step Disj)

def Acts (w : World) (a : Option Addr) (xs : List (Int × Int × Int)) : Prop := ∀ j x, xs[j]? = some x → ∃ b o, a = some ⟨b, o, none⟩ ∧ w.cell? ⟨b, o + j * 3, none⟩ = some (.int .i64 x.1) ∧ w.cell? ⟨b, o + j * 3 + 1, none⟩ = some (.int .i64 x.2.1) ∧ w.cell? ⟨b, o + j * 3 + 2, none⟩ = some (.int .i64 x.2.2)
theorem Acts.below {w w' : World} {a : Option Addr} {xs : List (Int × Int × Int)} (h : Acts w a xs) (hb : Below w.heap.size w w') : Acts w' a xs := fun j x hx => by
  obtain ⟨b, o, e, h0, h1, h2⟩ := h j x hx
  exact ⟨b, o, e, Hp.cell_on hb h0, Hp.cell_on hb h1, Hp.cell_on hb h2⟩
abbrev Ac3 (w : World) (A : Nat) (k t x : Int) : Prop := w.cell? ⟨A, 0, none⟩ = some (.int .i64 k) ∧ w.cell? ⟨A, 1, none⟩ = some (.int .i64 t) ∧ w.cell? ⟨A, 2, none⟩ = some (.int .i64 x)
theorem Ac3.new (w : World) (k t x : Int) : Ac3 (w.alloc (.cells #[.int .i64 k, .int .i64 t, .int .i64 x] 29)) w.heap.size k t x := ⟨ac0 w k t x, AcAt.new w k t x⟩
theorem Ac3.out {w w' : World} {S : List Nat} {A : Nat} {k t x : Int} (h : Ac3 w A k t x) (hb : Hp.But S w w') (hA : A ∉ S) : Ac3 w' A k t x := ⟨hb.cell' h.1 hA, hb.cell' h.2.1 hA, hb.cell' h.2.2 hA⟩
theorem Ac3.on {w w' : World} {A : Nat} {k t x : Int} (h : Ac3 w A k t x) (hb : Below w.heap.size w w') : Ac3 w' A k t x := ⟨Hp.cell_on hb h.1, Hp.cell_on hb h.2.1, Hp.cell_on hb h.2.2⟩
section
variable {PQ : World → Nat → List Nat → Nat → Qs → Prop}
theorem Pr.out {W0 w : World} {B M G N : Nat} {T : List Nat} {σ σ' : Qs} (S : Side PQ) (h : Pr PQ W0 w B T M G N σ σ') {A : Nat} (hA : w.heap.size ≤ A) : A ∉ T ++ [M, G] := fun e => (List.mem_append.1 e).elim (h.outT S hA) (h.outR hA)
theorem Pr.new {W0 w1 w2 : World} {B M G N : Nat} {T : List Nat} {σ σ' : Qs} (S : Side PQ) (h1 : PQ w1 B T N σ) (s1 : Step [] W0 T w1) (h2 : RQ w2 M G N σ') (b2 : Below w1.heap.size w1 w2) (hM : w1.heap.size ≤ M) (hG : w1.heap.size ≤ G) : Pr PQ W0 w2 B T M G N σ σ' := by
  have b2' : Hp.But [] w1 w2 := .of_below b2
  refine ⟨S.keep h1 b2', h2, fun x hx hy => ?_, s1.but.trans b2', fun x hx => .inr ?_⟩
  · have := S.lt h1 x hx
    rcases List.mem_cons.1 hy with rfl | hy
    · omega
    · rcases List.mem_cons.1 hy with rfl | hy
      · omega
      · cases hy
  · have hz := s1.but.size
    rcases List.mem_append.1 hx with hx | hx
    · rcases s1.new x hx with e | e
      · cases e
      · exact e
    · rcases List.mem_cons.1 hx with rfl | hx
      · omega
      · rcases List.mem_cons.1 hx with rfl | hx
        · omega
        · cases hx
end
end Go.Proofs.YtlnfabjgcecebaaGreat.Rd
