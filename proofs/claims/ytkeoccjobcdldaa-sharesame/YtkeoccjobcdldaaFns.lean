/- Contracts of hungry, level, of what Good asks, and of Ints and slices.Equal. -/
import Derived.Test.YtkeoccjobcdldaaMem
import Derived.Deep.RegionHeld3
namespace Go.Proofs.Ytkeoccjobcdldaa
open Go.RowKit

theorem lv_drew {w W : World} {p q r s : Addr} {a b c d : Value} (h : W.cell? p = some a ∧ W.cell? q = some b ∧ W.cell? r = some c ∧ W.cell? s = some d ∧ Below w.heap.size w W ∧ w.heap.size ≤ W.heap.size) : W.drew.cell? p = some a ∧ W.drew.cell? q = some b ∧ W.drew.cell? r = some c ∧ W.drew.cell? s = some d ∧ Below w.heap.size w W.drew ∧ w.heap.size ≤ W.drew.heap.size :=
  ⟨h.1, h.2.1, h.2.2.1, h.2.2.2.1, h.2.2.2.2.1.drew, h.2.2.2.2.2⟩
theorem lv_step {w W w1 : World} {p q r s : Addr} {a b c d : Value} (h : W.cell? p = some a ∧ W.cell? q = some b ∧ W.cell? r = some c ∧ W.cell? s = some d ∧ Below w.heap.size w W ∧ w.heap.size ≤ W.heap.size) (hb : Below W.heap.size W w1) : w1.cell? p = some a ∧ w1.cell? q = some b ∧ w1.cell? r = some c ∧ w1.cell? s = some d ∧ Below w.heap.size w w1 ∧ w.heap.size ≤ w1.heap.size :=
  ⟨cell_on hb h.1, cell_on hb h.2.1, cell_on hb h.2.2.1, cell_on hb h.2.2.2.1, below2 h.2.2.2.2.1 h.2.2.2.2.2 hb, Nat.le_trans h.2.2.2.2.2 hb.size⟩

section
variable {w : World} {la xa : Option Addr} {lc xc : Nat} {ls : List (Int × Int)} {xs : List Int}

theorem hungry_any (hl : CL w la ls) (hx : IX w xa xs) (he : xs.length = ls.length) {i : Nat} (hi : i < ls.length) :
    Calls Try.prog 29 #[.slice la ls.length lc, .slice xa xs.length xc, .int .i64 i] w fun e w' => e = .returned (.bool (hunB ls xs i)) ∧ Below w.heap.size w w' := by
  obtain ⟨b, o, rfl, c0, c1⟩ := hl i hi
  obtain ⟨b2, o2, rfl, c2⟩ := hx i (by omega)
  have hi1 : (i : Int) < (ls.length : Int) := by omega
  have hi2 : (i : Int) < (xs.length : Int) := by omega
  have hi3 : i < xs.length := by omega
  unfold hunB
  clear he hl hx
  go_enter Try.func29, Try.ntmps29
  go_wp2
  go_quiet (fail)
  go_wp2
  go_ret
  exact ⟨rfl, below_drewN (Below.refl _ _) _⟩

set_option maxHeartbeats 1000000 in
theorem level_any (hl : CL w la ls) (hx : IX w xa xs) (ol : OkL ls) (ox : OkX xs) (he : xs.length = ls.length) {i j : Nat} (hi : i < ls.length) (hj : j < ls.length) :
    Calls Try.prog 30 #[.slice la ls.length lc, .slice xa xs.length xc, .int .i64 i, .int .i64 j] w fun e w' => e = .returned (.int .i64 (levI ls xs i j)) ∧ Below w.heap.size w w' := by
  obtain ⟨b, o, rfl, c0, c1⟩ := hl i hi
  obtain ⟨b2, o2, rfl, c2⟩ := hx i (by omega)
  obtain ⟨b', o', e', c3, c4⟩ := hl j hj
  obtain ⟨b2', o2', e2', c5⟩ := hx j (by omega)
  cases e'; cases e2'
  have hi1 : (i : Int) < (ls.length : Int) := by omega
  have hi2 : (i : Int) < (xs.length : Int) := by omega
  have hi3 : i < xs.length := by omega
  have hj1 : (j : Int) < (ls.length : Int) := by omega
  have hj2 : (j : Int) < (xs.length : Int) := by omega
  have hj3 : j < xs.length := by omega
  have CR := fun W => Big.cross_any (ix xs i) (wt ls i) (ix xs j) (wt ls j) W (ox i hi3).1 (ox i hi3).2 (ol i hi).1.1 (ol i hi).1.2 (ox j hj3).1 (ox j hj3).2 (ol j hj).1.1 (ol j hj).1.2
  unfold levI
  clear he hl hx ol ox c1 c4
  generalize Big.cmpI (ix xs i * wt ls j) (ix xs j * wt ls i) = R at *
  generalize ix xs i = x1 at *
  generalize ix xs j = x2 at *
  generalize wt ls i = w1 at *
  generalize wt ls j = w2 at *
  have S0 : w.cell? ⟨b, o + i * 2, none⟩ = some (.int .i64 w1) ∧ w.cell? ⟨b2, o2 + i, none⟩ = some (.int .i64 x1) ∧ w.cell? ⟨b, o + j * 2, none⟩ = some (.int .i64 w2) ∧ w.cell? ⟨b2, o2 + j, none⟩ = some (.int .i64 x2) ∧ Below w.heap.size w w ∧ w.heap.size ≤ w.heap.size := ⟨c0, c2, c3, c5, Below.refl _ _, Nat.le_refl _⟩
  go_enter Try.func30, Try.ntmps30
  go_wp2
  go_region_held3 (fun w' => w'.cell? ⟨b, o + i * 2, none⟩ = some (.int .i64 w1) ∧ w'.cell? ⟨b2, o2 + i, none⟩ = some (.int .i64 x1) ∧ w'.cell? ⟨b, o + j * 2, none⟩ = some (.int .i64 w2) ∧ w'.cell? ⟨b2, o2 + j, none⟩ = some (.int .i64 x2) ∧ Below w.heap.size w w' ∧ w.heap.size ≤ w'.heap.size) (first | with_reducible assumption | (with_reducible refine lv_drew ?_; with_reducible assumption)) (first | (go_at_call 37; refine (CR _).mono ?_; rintro e w5 ⟨rfl, h5⟩; have key := lv_step (by with_reducible assumption) h5; clear h5))
  all_goals
    go_wp2
    go_ret
    exact ⟨rfl, key.2.2.2.2.1⟩
end
end Go.Proofs.Ytkeoccjobcdldaa
