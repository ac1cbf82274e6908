/- Contract of put: one that stands in no row comes into its own. -/
import Derived.Test.YtmjjghhlalaeiaaRowf
namespace Go.Proofs.Ytmjjghhlalaeiaa
open Go.RowKit

/-- The lists with one more behind those of a row. -/
def addL (ls : List (List Nat)) (i t : Nat) : List (List Nat) := ls.set i (ls.getD i [] ++ [t])

theorem c3_on {w w' : World} {p q r : Addr} {x y z : Value} {S : List Nat} (hb : But S w w') (hp : p.block ∉ S) (hq : q.block ∉ S) (hr : r.block ∉ S) (h : w.cell? p = some x ∧ w.cell? q = some y ∧ w.cell? r = some z) : w'.cell? p = some x ∧ w'.cell? q = some y ∧ w'.cell? r = some z :=
  ⟨hb.cell' h.1 hp, hb.cell' h.2.1 hq, hb.cell' h.2.2 hr⟩

section
variable {w w' : World} {T : Wp} {N n : Nat} {us : List Int} {ls : List (List Nat)}

set_option maxHeartbeats 2000000 in
theorem wput_any (h : WM w T N n us ls) (t u : Nat) (ht : t < N) (hu : us[t]? = some (u : Int)) (hn : n < 4611686018427387904) (hu' : u < 4611686018427387904) (ho : ∀ (j : Nat) (q : List Nat), ls[j]? = some q → t ∉ q) :
    Calls Try.prog 40 #[.pointer (some ⟨T.B, 0, none⟩), .int .i64 t] w fun e w' => e = .returned (.tuple #[]) ∧ WM w' T N n us (addL ls (rowN n u) t) ∧ But T.P.S w w' := by
  have nb := h.nb
  have ng := h.ng
  simp [Wp.five] at nb ng
  have hBS : T.B ∉ T.P.S := by simp [Pl.S]; omega
  have hGS : T.G ∉ T.P.S := by simp [Pl.S]; omega
  have hS : w.cell? ⟨T.B, 66, none⟩ = some (.pointer (some ⟨T.P.B, 0, none⟩)) ∧ w.cell? ⟨T.B, 1, none⟩ = some (.slice (some ⟨T.G, 0, none⟩) N T.c) ∧ w.cell? ⟨T.G, t, none⟩ = some (.int .i64 u) := ⟨h.c66, h.c1, h.xu hu⟩
  have hSd := c3_on (S := []) ((But.refl [] w).drew) (by simp) (by simp) (by simp) hS
  have hd := h.keep (But.refl [] w).drew
  have hr := rowN_lt n u
  have HR := row_any hd u hn hu'
  have e0 : putE N 64 ls (rowN n u : Nat) t = 0 := by
    unfold putE
    rw [inN_of hr, inN_of ht, wI_nat, whI_none ho]
    simp
  have HP : ∀ W, WM W T N n us ls → Calls Try.prog 59 #[.pointer (some ⟨T.P.B, 0, none⟩), .int .i64 (rowN n u : Nat), .int .i64 t] W fun e w' => e = .returned (.int .i64 0) ∧ WM w' T N n us (addL ls (rowN n u) t) ∧ But T.P.S W w' := fun W hW => by
    refine (push_any hW.l (rowN n u : Nat) t).mono ?_
    rintro e w' ⟨rfl, hl, hb⟩
    rw [e0]
    refine ⟨rfl, ?_, hb⟩
    have e1 : pushS N 64 ls (rowN n u : Nat) t = addL ls (rowN n u) t := by
      unfold pushS addL
      rw [if_pos e0, Int.toNat_natCast, Int.toNat_natCast, lsI_nat]
    rw [e1] at hl
    exact hW.lists hb hl
  have ht' : (t : Int) < (N : Int) := by omega
  have ht0 : (0 : Int) ≤ (t : Int) := by omega
  generalize addL ls (rowN n u) t = ls' at *
  generalize rowN n u = r at *
  clear hu e0 ho nb ng h
  go_enter Try.func40, Try.ntmps40
  go_region_held3 (fun w' => w'.cell? ⟨T.B, 66, none⟩ = some (.pointer (some ⟨T.P.B, 0, none⟩)) ∧ w'.cell? ⟨T.B, 1, none⟩ = some (.slice (some ⟨T.G, 0, none⟩) N T.c) ∧ w'.cell? ⟨T.G, t, none⟩ = some (.int .i64 u)) (first | with_reducible assumption | with_reducible exact hSd) (first
    | (go_at_call 60; refine HR.mono ?_; rintro e w1 ⟨rfl, b1⟩; have m1 := hd.below b1; have k1 := c3_on (S := []) (.of_below b1) (by simp) (by simp) (by simp) hSd)
    | (go_at_call 59; refine (HP _ m1).mono ?_; rintro e w2 ⟨rfl, m2, b2⟩; have k2 := c3_on b2 hBS hBS hGS k1))
  all_goals
    go_wp2_with fail
    go_end0
    exact ⟨rfl, m2, ((But.refl [] w).drew.trans (.of_below b1)).wide.trans b2⟩

end
end Go.Proofs.Ytmjjghhlalaeiaa
