/- The contract of the reference's Cmp. -/
import Derived.Test.YtkeoccjobcdldaaBigSize
import Derived.Deep.RegionHeld3
namespace Go.Proofs.Ytkeoccjobcdldaa.Big
open Go.RowKit

/-- The cells of a struct result that is not written yet. -/
def RC (W : World) (B : Nat) : Prop := W.cell? ⟨B, 0, none⟩ = some (.bool false) ∧ W.cell? ⟨B, 1, none⟩ = some (.slice none 0 0) ∧ W.frozen? ⟨B, 0, none⟩ = false ∧ W.frozen? ⟨B, 1, none⟩ = false
theorem RC.step {W w1 : World} {B : Nat} (h : RC W B) (l : B < W.heap.size) (hb : Below W.heap.size W w1) : RC w1 B :=
  ⟨keep hb l h.1, keep hb l h.2.1, keepF hb l h.2.2.1, keepF hb l h.2.2.2⟩
theorem RC.new (W : World) : RC (W.alloc (.cells #[.bool false, .slice none 0 0] 41)) W.heap.size := ⟨by simp [go_sem], by simp [go_sem], by simp [go_sem], by simp [go_sem]⟩

theorem Hid.mk {p : Prop} (h : p) : Hid p := h
theorem Wd.set2 {W : World} {B : Nat} {u v x : Value} {V : Int} (h : Wd W x V) (r : RC W B) : Wd ((W.setCell ⟨B, 0, none⟩ u).setCell ⟨B, 1, none⟩ v) x V := by
  obtain ⟨s, ds, h1, h2, h3, h4, h5⟩ := h
  exact ⟨s, ds, h1, h2.set2 r.1 r.2.1, h3, h4, h5⟩

theorem ps_step {w W w1 : World} {na nb : Bool} {oa ob : Option Addr} {ca cb : Nat} {ds es : List Int} (h : W.cell? ⟨w.heap.size, 0, none⟩ = some (.bool na) ∧ W.cell? ⟨w.heap.size, 1, none⟩ = some (.slice oa ds.length ca) ∧ W.cell? ⟨w.heap.size + 1, 0, none⟩ = some (.bool nb) ∧ W.cell? ⟨w.heap.size + 1, 1, none⟩ = some (.slice ob es.length cb) ∧ w.heap.size + 1 + 1 < W.heap.size ∧ Row W (.slice oa ds.length ca) ds ∧ Row W (.slice ob es.length cb) es ∧ Below w.heap.size w W) (hb : Below W.heap.size W w1) : w1.cell? ⟨w.heap.size, 0, none⟩ = some (.bool na) ∧ w1.cell? ⟨w.heap.size, 1, none⟩ = some (.slice oa ds.length ca) ∧ w1.cell? ⟨w.heap.size + 1, 0, none⟩ = some (.bool nb) ∧ w1.cell? ⟨w.heap.size + 1, 1, none⟩ = some (.slice ob es.length cb) ∧ w.heap.size + 1 + 1 < w1.heap.size ∧ Row w1 (.slice oa ds.length ca) ds ∧ Row w1 (.slice ob es.length cb) es ∧ Below w.heap.size w w1 := by
  obtain ⟨h1, h2, h3, h4, l, ra, rb, k⟩ := h
  have hs := hb.size
  exact ⟨keep hb (by omega) h1, keep hb (by omega) h2, keep hb (by omega) h3, keep hb (by omega) h4, by omega, ra.below hb, rb.below hb, below2 k (by omega) hb⟩
theorem ps_drew {w W : World} {na nb : Bool} {oa ob : Option Addr} {ca cb : Nat} {ds es : List Int} (h : W.cell? ⟨w.heap.size, 0, none⟩ = some (.bool na) ∧ W.cell? ⟨w.heap.size, 1, none⟩ = some (.slice oa ds.length ca) ∧ W.cell? ⟨w.heap.size + 1, 0, none⟩ = some (.bool nb) ∧ W.cell? ⟨w.heap.size + 1, 1, none⟩ = some (.slice ob es.length cb) ∧ w.heap.size + 1 + 1 < W.heap.size ∧ Row W (.slice oa ds.length ca) ds ∧ Row W (.slice ob es.length cb) es ∧ Below w.heap.size w W) : W.drew.cell? ⟨w.heap.size, 0, none⟩ = some (.bool na) ∧ W.drew.cell? ⟨w.heap.size, 1, none⟩ = some (.slice oa ds.length ca) ∧ W.drew.cell? ⟨w.heap.size + 1, 0, none⟩ = some (.bool nb) ∧ W.drew.cell? ⟨w.heap.size + 1, 1, none⟩ = some (.slice ob es.length cb) ∧ w.heap.size + 1 + 1 < W.drew.heap.size ∧ Row W.drew (.slice oa ds.length ca) ds ∧ Row W.drew (.slice ob es.length cb) es ∧ Below w.heap.size w W.drew := by
  obtain ⟨h1, h2, h3, h4, l, ra, rb, k⟩ := h
  exact ⟨h1, h2, h3, h4, l, ra.drew, rb.drew, k.drew⟩
theorem ps_start {w : World} {na nb : Bool} {oa ob : Option Addr} {ca cb : Nat} {ds es : List Int} (ra : Row w (.slice oa ds.length ca) ds) (rb : Row w (.slice ob es.length cb) es) :
    (((w.alloc (.cells #[.bool na, .slice oa ds.length ca] 41)).alloc (.cells #[.bool nb, .slice ob es.length cb] 41)).alloc (.cells #[.bool false, .slice none 0 0] 41)).cell? ⟨w.heap.size, 0, none⟩ = some (.bool na) ∧ (((w.alloc (.cells #[.bool na, .slice oa ds.length ca] 41)).alloc (.cells #[.bool nb, .slice ob es.length cb] 41)).alloc (.cells #[.bool false, .slice none 0 0] 41)).cell? ⟨w.heap.size, 1, none⟩ = some (.slice oa ds.length ca) ∧ (((w.alloc (.cells #[.bool na, .slice oa ds.length ca] 41)).alloc (.cells #[.bool nb, .slice ob es.length cb] 41)).alloc (.cells #[.bool false, .slice none 0 0] 41)).cell? ⟨w.heap.size + 1, 0, none⟩ = some (.bool nb) ∧ (((w.alloc (.cells #[.bool na, .slice oa ds.length ca] 41)).alloc (.cells #[.bool nb, .slice ob es.length cb] 41)).alloc (.cells #[.bool false, .slice none 0 0] 41)).cell? ⟨w.heap.size + 1, 1, none⟩ = some (.slice ob es.length cb) ∧ w.heap.size + 1 + 1 < (((w.alloc (.cells #[.bool na, .slice oa ds.length ca] 41)).alloc (.cells #[.bool nb, .slice ob es.length cb] 41)).alloc (.cells #[.bool false, .slice none 0 0] 41)).heap.size ∧ Row (((w.alloc (.cells #[.bool na, .slice oa ds.length ca] 41)).alloc (.cells #[.bool nb, .slice ob es.length cb] 41)).alloc (.cells #[.bool false, .slice none 0 0] 41)) (.slice oa ds.length ca) ds ∧ Row (((w.alloc (.cells #[.bool na, .slice oa ds.length ca] 41)).alloc (.cells #[.bool nb, .slice ob es.length cb] 41)).alloc (.cells #[.bool false, .slice none 0 0] 41)) (.slice ob es.length cb) es ∧ Below w.heap.size w (((w.alloc (.cells #[.bool na, .slice oa ds.length ca] 41)).alloc (.cells #[.bool nb, .slice ob es.length cb] 41)).alloc (.cells #[.bool false, .slice none 0 0] 41)) := by
  refine ⟨by simp [go_sem, World.cell?_alloc_past], by simp [go_sem, World.cell?_alloc_past], by simp [go_sem, World.cell?_alloc_past], by simp [go_sem, World.cell?_alloc_past], by simp, ((ra.alloc _).alloc _).alloc _, ((rb.alloc _).alloc _).alloc _, ?_⟩
  exact (((Below.refl _ _).alloc (Nat.le_refl _) _).alloc (by simp) _).alloc (by simp; omega) _
theorem ps_set {w W : World} {na nb : Bool} {oa ob : Option Addr} {ca cb : Nat} {ds es : List Int} {u v : Value} (h : W.cell? ⟨w.heap.size, 0, none⟩ = some (.bool na) ∧ W.cell? ⟨w.heap.size, 1, none⟩ = some (.slice oa ds.length ca) ∧ W.cell? ⟨w.heap.size + 1, 0, none⟩ = some (.bool nb) ∧ W.cell? ⟨w.heap.size + 1, 1, none⟩ = some (.slice ob es.length cb) ∧ w.heap.size + 1 + 1 < W.heap.size ∧ Row W (.slice oa ds.length ca) ds ∧ Row W (.slice ob es.length cb) es ∧ Below w.heap.size w W) (r : RC W (w.heap.size + 1 + 1)) :
    ((W.setCell ⟨w.heap.size + 1 + 1, 0, none⟩ u).setCell ⟨w.heap.size + 1 + 1, 1, none⟩ v).cell? ⟨w.heap.size, 0, none⟩ = some (.bool na) ∧ ((W.setCell ⟨w.heap.size + 1 + 1, 0, none⟩ u).setCell ⟨w.heap.size + 1 + 1, 1, none⟩ v).cell? ⟨w.heap.size, 1, none⟩ = some (.slice oa ds.length ca) ∧ ((W.setCell ⟨w.heap.size + 1 + 1, 0, none⟩ u).setCell ⟨w.heap.size + 1 + 1, 1, none⟩ v).cell? ⟨w.heap.size + 1, 0, none⟩ = some (.bool nb) ∧ ((W.setCell ⟨w.heap.size + 1 + 1, 0, none⟩ u).setCell ⟨w.heap.size + 1 + 1, 1, none⟩ v).cell? ⟨w.heap.size + 1, 1, none⟩ = some (.slice ob es.length cb) ∧ w.heap.size + 1 + 1 < ((W.setCell ⟨w.heap.size + 1 + 1, 0, none⟩ u).setCell ⟨w.heap.size + 1 + 1, 1, none⟩ v).heap.size ∧ Row ((W.setCell ⟨w.heap.size + 1 + 1, 0, none⟩ u).setCell ⟨w.heap.size + 1 + 1, 1, none⟩ v) (.slice oa ds.length ca) ds ∧ Row ((W.setCell ⟨w.heap.size + 1 + 1, 0, none⟩ u).setCell ⟨w.heap.size + 1 + 1, 1, none⟩ v) (.slice ob es.length cb) es ∧ Below w.heap.size w ((W.setCell ⟨w.heap.size + 1 + 1, 0, none⟩ u).setCell ⟨w.heap.size + 1 + 1, 1, none⟩ v) := by
  obtain ⟨h1, h2, h3, h4, l, ra, rb, k⟩ := h
  exact ⟨set2_other _ _ (by omega) h1, set2_other _ _ (by omega) h2, set2_other _ _ (by omega) h3, set2_other _ _ (by omega) h4, by simpa [World.setCell] using l, ra.set2 r.1 r.2.1, rb.set2 r.1 r.2.1, (k.setCell (by simp; omega) _).setCell (by simp; omega) _⟩
theorem ps_l {w W : World} {na nb : Bool} {oa ob : Option Addr} {ca cb : Nat} {ds es : List Int} (h : W.cell? ⟨w.heap.size, 0, none⟩ = some (.bool na) ∧ W.cell? ⟨w.heap.size, 1, none⟩ = some (.slice oa ds.length ca) ∧ W.cell? ⟨w.heap.size + 1, 0, none⟩ = some (.bool nb) ∧ W.cell? ⟨w.heap.size + 1, 1, none⟩ = some (.slice ob es.length cb) ∧ w.heap.size + 1 + 1 < W.heap.size ∧ Row W (.slice oa ds.length ca) ds ∧ Row W (.slice ob es.length cb) es ∧ Below w.heap.size w W) : w.heap.size + 1 + 1 < W.heap.size := h.2.2.2.2.1
theorem ps_ra {w W : World} {na nb : Bool} {oa ob : Option Addr} {ca cb : Nat} {ds es : List Int} (h : W.cell? ⟨w.heap.size, 0, none⟩ = some (.bool na) ∧ W.cell? ⟨w.heap.size, 1, none⟩ = some (.slice oa ds.length ca) ∧ W.cell? ⟨w.heap.size + 1, 0, none⟩ = some (.bool nb) ∧ W.cell? ⟨w.heap.size + 1, 1, none⟩ = some (.slice ob es.length cb) ∧ w.heap.size + 1 + 1 < W.heap.size ∧ Row W (.slice oa ds.length ca) ds ∧ Row W (.slice ob es.length cb) es ∧ Below w.heap.size w W) : Row W (.slice oa ds.length ca) ds := h.2.2.2.2.2.1
theorem ps_rb {w W : World} {na nb : Bool} {oa ob : Option Addr} {ca cb : Nat} {ds es : List Int} (h : W.cell? ⟨w.heap.size, 0, none⟩ = some (.bool na) ∧ W.cell? ⟨w.heap.size, 1, none⟩ = some (.slice oa ds.length ca) ∧ W.cell? ⟨w.heap.size + 1, 0, none⟩ = some (.bool nb) ∧ W.cell? ⟨w.heap.size + 1, 1, none⟩ = some (.slice ob es.length cb) ∧ w.heap.size + 1 + 1 < W.heap.size ∧ Row W (.slice oa ds.length ca) ds ∧ Row W (.slice ob es.length cb) es ∧ Below w.heap.size w W) : Row W (.slice ob es.length cb) es := h.2.2.2.2.2.2.1


theorem wd_len {w : World} {s : Value} {ds : List Int} {V : Int} {n : Nat} (_ : Row w s ds) (hd : Dig ds) (hc : Canon ds) (hv : val ds = absI V) (h : absI V < pw n) : ds.length ≤ n :=
  canon_short hd hc (by omega)
theorem cmp_neg2 (V U : Int) : cmpI (-U) (-V) = cmpI V U := by
  unfold cmpI
  by_cases h : V = U
  · subst h; simp
  · rw [if_neg (by omega), if_neg h]
    by_cases h2 : V < U
    · rw [if_pos (by omega), if_pos h2]
    · rw [if_neg (by omega), if_neg h2]
set_option maxHeartbeats 1000000 in
theorem wcmp_any (x y : Value) (V U : Int) (w : World) (hx : Wd w x V) (hy : Wd w y U) :
    Calls Try.prog 22 #[x, y] w fun e w' => e = .returned (.int .i64 (cmpI V U)) ∧ Below w.heap.size w w' := by
  obtain ⟨s, ds, rfl, ra, da, ca, va⟩ := hx
  obtain ⟨t, es, rfl, rb, db, cb, vb⟩ := hy
  obtain ⟨oa, cap, rfl, -, -, -, -⟩ := id ra
  obtain ⟨ob, cbp, rfl, -, -, -, -⟩ := id rb
  by_cases hV : V < 0
  · rw [decide_eq_true hV]
    by_cases hU : U < 0
    · rw [decide_eq_true hU]
      have HC : Hid (cmpI (val es) (val ds) = cmpI V U) := by
        unfold Hid; rw [va, vb, show absI V = -V by unfold absI; rw [if_pos hV], show absI U = -U by unfold absI; rw [if_pos hU]]; exact cmp_neg2 V U
      go_enter Try.func22, Try.ntmps22
      go_wp2_with fail
      refine (rsize_any _ _ es ds _ ((rb.alloc _).alloc _) ((ra.alloc _).alloc _) db da cb ca).mono ?_
      rw [HC.out]
      rintro e w1 ⟨rfl, hb⟩
      go_wp2_with fail
      go_ret
      exact ⟨rfl, (((Below.refl _ _).alloc (Nat.le_refl _) _).alloc (by simp) _).trans (hb.mono (by simp; omega))⟩
    · rw [decide_eq_false hU, cmp_of_lt (show V < U by omega)]
      go_enter Try.func22, Try.ntmps22
      go_wp2
      go_ret
      exact ⟨rfl, ((Below.refl _ _).alloc (Nat.le_refl _) _).alloc (by simp) _⟩
  · rw [decide_eq_false hV]
    by_cases hU : U < 0
    · rw [decide_eq_true hU, cmp_of_gt (show U < V by omega)]
      go_enter Try.func22, Try.ntmps22
      go_wp2
      go_ret
      exact ⟨rfl, ((Below.refl _ _).alloc (Nat.le_refl _) _).alloc (by simp) _⟩
    · rw [decide_eq_false hU]
      have HC : Hid (cmpI (val ds) (val es) = cmpI V U) := by
        unfold Hid; rw [va, vb, show absI V = V by unfold absI; rw [if_neg hV], show absI U = U by unfold absI; rw [if_neg hU]]
      go_enter Try.func22, Try.ntmps22
      go_wp2_with fail
      refine (rsize_any _ _ ds es _ ((ra.alloc _).alloc _) ((rb.alloc _).alloc _) da db ca cb).mono ?_
      rw [HC.out]
      rintro e w1 ⟨rfl, hb⟩
      go_wp2_with fail
      go_ret
      exact ⟨rfl, (((Below.refl _ _).alloc (Nat.le_refl _) _).alloc (by simp) _).trans (hb.mono (by simp; omega))⟩
theorem pw4 : pw 4 = 18446744073709551616 := rfl
end Go.Proofs.Ytkeoccjobcdldaa.Big
