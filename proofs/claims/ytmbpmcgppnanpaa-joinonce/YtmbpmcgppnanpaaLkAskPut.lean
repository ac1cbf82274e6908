/- Contract of askPut. -/
import Derived.Test.YtmbpmcgppnanpaaLkAsk
namespace Go.Proofs.Ytmbpmcgppnanpaa.Lk
open Go.RowKit Go.Proofs.Ytmbpmcgppnanpaa.Bs

/-- Why a thing can't be put into a list. -/
def putE (N L : Nat) (ls : List (List Nat)) (i t : Int) : Int := if inN L i && inN N t then (if wI ls t = -1 then 0 else 5) else 8

/-- Two boxes, and nothing but draws since. -/
def Bx (W : World) (a b : Nat) (u v : Value) (w' : World) : Prop := w'.cell? ⟨a, 0, none⟩ = some u ∧ w'.cell? ⟨b, 0, none⟩ = some v ∧ Drawn W w'
theorem bx_drew {W w' : World} {a b : Nat} {u v : Value} (h : w'.cell? ⟨a, 0, none⟩ = some u ∧ w'.cell? ⟨b, 0, none⟩ = some v ∧ Drawn W w') : w'.drew.cell? ⟨a, 0, none⟩ = some u ∧ w'.drew.cell? ⟨b, 0, none⟩ = some v ∧ Drawn W w'.drew := ⟨h.1, h.2.1, h.2.2.drew⟩
theorem bx_step {W w' w1 : World} {a b : Nat} {u v : Value} (h : w'.cell? ⟨a, 0, none⟩ = some u ∧ w'.cell? ⟨b, 0, none⟩ = some v ∧ Drawn W w') (k : Drawn w' w1) : w1.cell? ⟨a, 0, none⟩ = some u ∧ w1.cell? ⟨b, 0, none⟩ = some v ∧ Drawn W w1 :=
  ⟨(k.but (S := [])).cell h.1, (k.but (S := [])).cell h.2.1, h.2.2.trans k⟩
theorem bx_lq {W w' : World} {p q : Option Value} {u v : Option Value} {P : Pl} {N L : Nat} {ls : List (List Nat)} (h : LQ W P N L ls) (k : p = u ∧ q = v ∧ Drawn W w') : LQ w' P N L ls := h.drawn k.2.2

theorem box_one (w : World) (t : TypeId) (x : Value) : (w.alloc (.cells #[x] t)).cell? ⟨w.heap.size, 0, none⟩ = some x := by simp [go_sem]
/-- Two boxes laid. -/
theorem box_two (w : World) (t u : TypeId) (x y : Value) : ((w.alloc (.cells #[x] t)).alloc (.cells #[y] u)).cell? ⟨w.heap.size, 0, none⟩ = some x ∧ ((w.alloc (.cells #[x] t)).alloc (.cells #[y] u)).cell? ⟨w.heap.size + 1, 0, none⟩ = some y := by
  constructor
  · exact cell_on ((Below.refl _ _).alloc (Nat.le_refl _) _) (box_one w t x)
  · have := box_one (w.alloc (.cells #[x] t)) u y
    rwa [World.size_alloc] at this

section
variable {w : World} {P : Pl} {N L : Nat} {ls : List (List Nat)}

set_option maxHeartbeats 2000000 in
theorem askPut_in (h : LQ w P N L ls) (i : Int) (t : Nat) (h1 : inN L i = true) (h2 : t < N) :
    Calls Try.prog 53 #[.pointer (some ⟨P.B, 0, none⟩), .int .i64 i, .int .i64 t] w fun e w' => e = .returned (.int .i64 (if whI ls t = -1 then 0 else 5)) ∧ But [] w w' := by
  have hB : But [] w ((w.alloc (.cells #[.pointer (some ⟨P.B, 0, none⟩)] 50)).alloc (.cells #[.int .i64 t] 3)) := ((But.refl [] w).alloc _).alloc _
  obtain ⟨x0, x1⟩ := box_two w 50 3 (.pointer (some ⟨P.B, 0, none⟩)) (.int .i64 t)
  have h' := h.keep hB
  have HL : ∀ W, LQ W P N L ls → Calls Try.prog 62 #[.pointer (some ⟨P.B, 0, none⟩), .int .i64 i] W fun e w' => e = .returned (.bool true) ∧ w' = W := fun W ⟨_, _, hm, _⟩ => h1 ▸ hasList_any hm i
  have HT : ∀ W, LQ W P N L ls → Calls Try.prog 52 #[.pointer (some ⟨P.B, 0, none⟩), .int .i64 t] W fun e w' => e = .returned (.bool true) ∧ w' = W := fun W ⟨_, _, hm, _⟩ => inN_of h2 ▸ hasThing_any hm t
  have HA : ∀ W, LQ W P N L ls → W.cell? ⟨w.heap.size, 0, none⟩ = some (.pointer (some ⟨P.B, 0, none⟩)) → W.cell? ⟨w.heap.size + 1, 0, none⟩ = some (.int .i64 t) → Calls Try.prog 55 #[.pointer (some ⟨P.B, 0, none⟩), .bool true, .func (.func 63) #[] #[.pointer (some ⟨w.heap.size, 0, none⟩), .pointer (some ⟨w.heap.size + 1, 0, none⟩)]] W fun e w' => e = .returned (.int .i64 (if whI ls t = -1 then 0 else 5)) ∧ Drawn W w' := fun W h a b => ask_put h (more_put h h2 a b)
  generalize (if whI ls t = -1 then (0 : Int) else 5) = r at HA
  clear h1 h
  go_enter Try.func53, Try.ntmps53
  go_wp2_with fail
  generalize ((w.alloc (.cells #[.pointer (some ⟨P.B, 0, none⟩)] 50)).alloc (.cells #[.int .i64 t] 3)) = W0 at *
  have hS : W0.cell? ⟨w.heap.size, 0, none⟩ = some (.pointer (some ⟨P.B, 0, none⟩)) ∧ W0.cell? ⟨w.heap.size + 1, 0, none⟩ = some (.int .i64 t) ∧ Drawn W0 W0 := ⟨x0, x1, Drawn.refl _⟩
  go_region_held3 (fun w' => w'.cell? ⟨w.heap.size, 0, none⟩ = some (.pointer (some ⟨P.B, 0, none⟩)) ∧ w'.cell? ⟨w.heap.size + 1, 0, none⟩ = some (.int .i64 t) ∧ Drawn W0 w') (first | with_reducible assumption | (with_reducible refine bx_drew ?_; with_reducible assumption)) (first
    | (go_at_call 62; refine (HL _ (bx_lq h' (by assumption))).mono ?_; rintro e w' ⟨rfl, hw⟩; subst w')
    | (go_at_call 52; refine (HT _ (bx_lq h' (by assumption))).mono ?_; rintro e w' ⟨rfl, hw⟩; subst w')
    | (go_at_call 55; refine (HA _ (bx_lq h' (by assumption)) (And.left (by assumption)) (And.left (And.right (by assumption)))).mono ?_; rintro e w1 ⟨rfl, hd⟩; have key := bx_step (by assumption) hd))
  all_goals
    go_wp2_with fail
    go_ret
    exact ⟨rfl, hB.trans key.2.2.but⟩
end

end Go.Proofs.Ytmbpmcgppnanpaa.Lk
