/- Ideal of the document's: what lies in memory while its numbers are parted. -/
import Derived.Test.YtdfccjhmpgoacaaStIdl
import Derived.Test.YtdfccjhmpgoacaaStHold
import Derived.Test.YtdfccjhmpgoacaaNPartA
namespace Go.Proofs.Ytdfccjhmpgoacaa.Str
open Go.RowKit Go.Proofs.Ytdfccjhmpgoacaa.Big

/-- A new box for a number. -/
structure Fr (w0 : World) (B : Nat) (W : World) : Prop where
  lo : w0.heap.size ≤ B
  hi : B < W.heap.size
  x : Box W B false none 0 0
  l : Loose W B
/-- On the way: numbers, and boxes for two that are to come. -/
structure Sr (w0 : World) (L : List (Value × Int)) (f g : Option Nat) (W : World) : Prop where
  k : Below w0.heap.size w0 W
  d : ∀ p ∈ L, Wd W p.1 p.2
  bf : ∀ B, f = some B → Fr w0 B W
  bg : ∀ B, g = some B → Fr w0 B W
  ne : ∀ B C, f = some B → g = some C → B ≠ C
section
variable {w0 W W' : World} {L : List (Value × Int)} {f g : Option Nat} {B C : Nat}
theorem Fr.below (h : Fr w0 B W) (hb : Below W.heap.size W W') : Fr w0 B W' := ⟨h.lo, Nat.lt_of_lt_of_le h.hi hb.size, h.x.keep h.hi hb, h.l.keep h.hi hb⟩
theorem Sr.call (h : Sr w0 L f g W) (hb : Below W.heap.size W W') : Sr w0 L f g W' :=
  ⟨below2 h.k h.k.size hb, fun p hp => (h.d p hp).below hb, fun B e => (h.bf B e).below hb, fun B e => (h.bg B e).below hb, h.ne⟩
theorem Sr.nums (h : Sr w0 L f g W) {L' : List (Value × Int)} (hd : ∀ p ∈ L', Wd W p.1 p.2) : Sr w0 L' f g W := ⟨h.k, hd, h.bf, h.bg, h.ne⟩
theorem Sr.cons (h : Sr w0 L f g W) {v : Value} {V : Int} (hd : Wd W v V) : Sr w0 (L ++ [(v, V)]) f g W := h.nums (fun p hp => by
  rcases List.mem_append.1 hp with hp | hp
  · exact h.d p hp
  · simp only [List.mem_singleton] at hp
    subst hp
    exact hd)
theorem Fr.new (hk : Below w0.heap.size w0 W) : Fr w0 W.heap.size (W.alloc (.cells #[.bool false, .slice none 0 0] 44)) :=
  ⟨hk.size, by simp, ⟨by simp [go_sem], by simp [go_sem]⟩, ⟨by simp [go_sem], by simp [go_sem]⟩⟩
theorem Sr.al11 (h : Sr w0 L none g W) : Sr w0 L (some W.heap.size) g (W.alloc (.cells #[.bool false, .slice none 0 0] 44)) := by
  have h1 := h.call ((Below.refl _ W).alloc (Nat.le_refl _) (.cells #[.bool false, .slice none 0 0] 44))
  exact ⟨h1.k, h1.d, fun B e => by cases e; exact Fr.new h.k, h1.bg, fun B C e e2 => by
    cases e
    have := (h.bg C e2).hi
    omega⟩
theorem Sr.al12 (h : Sr w0 L f none W) : Sr w0 L f (some W.heap.size) (W.alloc (.cells #[.bool false, .slice none 0 0] 44)) := by
  have h1 := h.call ((Below.refl _ W).alloc (Nat.le_refl _) (.cells #[.bool false, .slice none 0 0] 44))
  exact ⟨h1.k, h1.d, h1.bf, fun B e => by cases e; exact Fr.new h.k, fun B C e e2 => by
    cases e2
    have := (h.bf B e).hi
    omega⟩
theorem below_set2 (hk : Below w0.heap.size w0 W) (hB : w0.heap.size ≤ B) (u v : Value) : Below w0.heap.size w0 ((W.setCell ⟨B, 0, none⟩ u).setCell ⟨B, 1, none⟩ v) :=
  (((But.of_below (S := [B]) hk).set (p := ⟨B, 0, none⟩) (by simp) u).set (p := ⟨B, 1, none⟩) (by simp) v).below (Nat.le_refl _) (by simpa using hB)
theorem Fr.other (h : Fr w0 C W) (hne : C ≠ B) (u v : Value) : Fr w0 C ((W.setCell ⟨B, 0, none⟩ u).setCell ⟨B, 1, none⟩ v) :=
  ⟨h.lo, by simpa using h.hi, h.x.other hne, h.l.set2⟩
theorem anyH_name {P : Program} {md : Region.Mode} {ops : Array Oper} {Q : Exit → Act → World → Prop} {S : World → Prop} {fuel : Nat} {listed : Array Bool} {a : Act} {w : World}
    (h : ∀ T : Nat → Array Bool → Act → World → Prop, (∀ k L a w, T k L a w ↔ wpAnyH P md ops Q S k L a w) → T fuel listed a w) : wpAnyH P md ops Q S fuel listed a w :=
  h (fun k L a w => wpAnyH P md ops Q S k L a w) (fun _ _ _ _ => Iff.rfl)
end
end Go.Proofs.Ytdfccjhmpgoacaa.Str
