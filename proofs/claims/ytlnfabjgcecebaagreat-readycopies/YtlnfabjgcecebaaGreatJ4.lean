/- Contracts of the reference's Plus. -/
/- Contracts of the reference's Plus, Minus and Cmp, by the numbers that structs are. -/
/- Numbers that are told. -/
/- Contracts of the reference's Int and told. -/
import Derived.Test.YtlnfabjgcecebaaGreatJ3
import Derived.Deep.RegionHeld3
import Derived.Test.YtlnfabjgcecebaaGreatJ1
namespace Go.Proofs.YtlnfabjgcecebaaGreat.Big
open Go.RowKit

/-- The cells of a struct result that is not written yet. -/
def RC (W : World) (B : Nat) : Prop := W.cell? ⟨B, 0, none⟩ = some (.bool false) ∧ W.cell? ⟨B, 1, none⟩ = some (.slice none 0 0) ∧ W.frozen? ⟨B, 0, none⟩ = false ∧ W.frozen? ⟨B, 1, none⟩ = false
theorem RC.step {W w1 : World} {B : Nat} (h : RC W B) (l : B < W.heap.size) (hb : Below W.heap.size W w1) : RC w1 B :=
  ⟨keep hb l h.1, keep hb l h.2.1, keepF hb l h.2.2.1, keepF hb l h.2.2.2⟩
theorem RC.new (W : World) : RC (W.alloc (.cells #[.bool false, .slice none 0 0] 92)) W.heap.size := ⟨by simp [go_sem], by simp [go_sem], by simp [go_sem], by simp [go_sem]⟩

theorem Hid.mk {p : Prop} (h : p) : Hid p := h
theorem Wd.set2 {W : World} {B : Nat} {u v x : Value} {V : Int} (h : Wd W x V) (r : RC W B) : Wd ((W.setCell ⟨B, 0, none⟩ u).setCell ⟨B, 1, none⟩ v) x V := by
  obtain ⟨s, ds, h1, h2, h3, h4, h5⟩ := h
  exact ⟨s, ds, h1, h2.set2 r.1 r.2.1, h3, h4, h5⟩

theorem ps_step {w W w1 : World} {na nb : Bool} {oa ob : Option Addr} {ca cb : Nat} {ds es : List Int} (h : W.cell? ⟨w.heap.size, 0, none⟩ = some (.bool na) ∧ W.cell? ⟨w.heap.size, 1, none⟩ = some (.slice oa ds.length ca) ∧ W.cell? ⟨w.heap.size + 1, 0, none⟩ = some (.bool nb) ∧ W.cell? ⟨w.heap.size + 1, 1, none⟩ = some (.slice ob es.length cb) ∧ w.heap.size + 1 + 1 < W.heap.size ∧ Row W (.slice oa ds.length ca) ds ∧ Row W (.slice ob es.length cb) es ∧ Below w.heap.size w W) (hb : Below W.heap.size W w1) : w1.cell? ⟨w.heap.size, 0, none⟩ = some (.bool na) ∧ w1.cell? ⟨w.heap.size, 1, none⟩ = some (.slice oa ds.length ca) ∧ w1.cell? ⟨w.heap.size + 1, 0, none⟩ = some (.bool nb) ∧ w1.cell? ⟨w.heap.size + 1, 1, none⟩ = some (.slice ob es.length cb) ∧ w.heap.size + 1 + 1 < w1.heap.size ∧ Row w1 (.slice oa ds.length ca) ds ∧ Row w1 (.slice ob es.length cb) es ∧ Below w.heap.size w w1 := by
  obtain ⟨h1, h2, h3, h4, l, ra, rb, k⟩ := h
  have hs := hb.size
  exact ⟨keep hb (by omega) h1, keep hb (by omega) h2, keep hb (by omega) h3, keep hb (by omega) h4, by omega, ra.below hb, rb.below hb, below2 k (by omega) hb⟩
theorem ps_drew {w W : World} {na nb : Bool} {oa ob : Option Addr} {ca cb : Nat} {ds es : List Int} (h : W.cell? ⟨w.heap.size, 0, none⟩ = some (.bool na) ∧ W.cell? ⟨w.heap.size, 1, none⟩ = some (.slice oa ds.length ca) ∧ W.cell? ⟨w.heap.size + 1, 0, none⟩ = some (.bool nb) ∧ W.cell? ⟨w.heap.size + 1, 1, none⟩ = some (.slice ob es.length cb) ∧ w.heap.size + 1 + 1 < W.heap.size ∧ Row W (.slice oa ds.length ca) ds ∧ Row W (.slice ob es.length cb) es ∧ Below w.heap.size w W) : W.drew.cell? ⟨w.heap.size, 0, none⟩ = some (.bool na) ∧ W.drew.cell? ⟨w.heap.size, 1, none⟩ = some (.slice oa ds.length ca) ∧ W.drew.cell? ⟨w.heap.size + 1, 0, none⟩ = some (.bool nb) ∧ W.drew.cell? ⟨w.heap.size + 1, 1, none⟩ = some (.slice ob es.length cb) ∧ w.heap.size + 1 + 1 < W.drew.heap.size ∧ Row W.drew (.slice oa ds.length ca) ds ∧ Row W.drew (.slice ob es.length cb) es ∧ Below w.heap.size w W.drew := by
  obtain ⟨h1, h2, h3, h4, l, ra, rb, k⟩ := h
  exact ⟨h1, h2, h3, h4, l, ra.drew, rb.drew, k.drew⟩
theorem ps_start {w : World} {na nb : Bool} {oa ob : Option Addr} {ca cb : Nat} {ds es : List Int} (ra : Row w (.slice oa ds.length ca) ds) (rb : Row w (.slice ob es.length cb) es) :
    (((w.alloc (.cells #[.bool na, .slice oa ds.length ca] 92)).alloc (.cells #[.bool nb, .slice ob es.length cb] 92)).alloc (.cells #[.bool false, .slice none 0 0] 92)).cell? ⟨w.heap.size, 0, none⟩ = some (.bool na) ∧ (((w.alloc (.cells #[.bool na, .slice oa ds.length ca] 92)).alloc (.cells #[.bool nb, .slice ob es.length cb] 92)).alloc (.cells #[.bool false, .slice none 0 0] 92)).cell? ⟨w.heap.size, 1, none⟩ = some (.slice oa ds.length ca) ∧ (((w.alloc (.cells #[.bool na, .slice oa ds.length ca] 92)).alloc (.cells #[.bool nb, .slice ob es.length cb] 92)).alloc (.cells #[.bool false, .slice none 0 0] 92)).cell? ⟨w.heap.size + 1, 0, none⟩ = some (.bool nb) ∧ (((w.alloc (.cells #[.bool na, .slice oa ds.length ca] 92)).alloc (.cells #[.bool nb, .slice ob es.length cb] 92)).alloc (.cells #[.bool false, .slice none 0 0] 92)).cell? ⟨w.heap.size + 1, 1, none⟩ = some (.slice ob es.length cb) ∧ w.heap.size + 1 + 1 < (((w.alloc (.cells #[.bool na, .slice oa ds.length ca] 92)).alloc (.cells #[.bool nb, .slice ob es.length cb] 92)).alloc (.cells #[.bool false, .slice none 0 0] 92)).heap.size ∧ Row (((w.alloc (.cells #[.bool na, .slice oa ds.length ca] 92)).alloc (.cells #[.bool nb, .slice ob es.length cb] 92)).alloc (.cells #[.bool false, .slice none 0 0] 92)) (.slice oa ds.length ca) ds ∧ Row (((w.alloc (.cells #[.bool na, .slice oa ds.length ca] 92)).alloc (.cells #[.bool nb, .slice ob es.length cb] 92)).alloc (.cells #[.bool false, .slice none 0 0] 92)) (.slice ob es.length cb) es ∧ Below w.heap.size w (((w.alloc (.cells #[.bool na, .slice oa ds.length ca] 92)).alloc (.cells #[.bool nb, .slice ob es.length cb] 92)).alloc (.cells #[.bool false, .slice none 0 0] 92)) := by
  refine ⟨by simp [go_sem, World.cell?_alloc_past], by simp [go_sem, World.cell?_alloc_past], by simp [go_sem, World.cell?_alloc_past], by simp [go_sem, World.cell?_alloc_past], by simp, ((ra.alloc _).alloc _).alloc _, ((rb.alloc _).alloc _).alloc _, ?_⟩
  exact (((Below.refl _ _).alloc (Nat.le_refl _) _).alloc (by simp) _).alloc (by simp; omega) _
theorem ps_set {w W : World} {na nb : Bool} {oa ob : Option Addr} {ca cb : Nat} {ds es : List Int} {u v : Value} (h : W.cell? ⟨w.heap.size, 0, none⟩ = some (.bool na) ∧ W.cell? ⟨w.heap.size, 1, none⟩ = some (.slice oa ds.length ca) ∧ W.cell? ⟨w.heap.size + 1, 0, none⟩ = some (.bool nb) ∧ W.cell? ⟨w.heap.size + 1, 1, none⟩ = some (.slice ob es.length cb) ∧ w.heap.size + 1 + 1 < W.heap.size ∧ Row W (.slice oa ds.length ca) ds ∧ Row W (.slice ob es.length cb) es ∧ Below w.heap.size w W) (r : RC W (w.heap.size + 1 + 1)) :
    ((W.setCell ⟨w.heap.size + 1 + 1, 0, none⟩ u).setCell ⟨w.heap.size + 1 + 1, 1, none⟩ v).cell? ⟨w.heap.size, 0, none⟩ = some (.bool na) ∧ ((W.setCell ⟨w.heap.size + 1 + 1, 0, none⟩ u).setCell ⟨w.heap.size + 1 + 1, 1, none⟩ v).cell? ⟨w.heap.size, 1, none⟩ = some (.slice oa ds.length ca) ∧ ((W.setCell ⟨w.heap.size + 1 + 1, 0, none⟩ u).setCell ⟨w.heap.size + 1 + 1, 1, none⟩ v).cell? ⟨w.heap.size + 1, 0, none⟩ = some (.bool nb) ∧ ((W.setCell ⟨w.heap.size + 1 + 1, 0, none⟩ u).setCell ⟨w.heap.size + 1 + 1, 1, none⟩ v).cell? ⟨w.heap.size + 1, 1, none⟩ = some (.slice ob es.length cb) ∧ w.heap.size + 1 + 1 < ((W.setCell ⟨w.heap.size + 1 + 1, 0, none⟩ u).setCell ⟨w.heap.size + 1 + 1, 1, none⟩ v).heap.size ∧ Row ((W.setCell ⟨w.heap.size + 1 + 1, 0, none⟩ u).setCell ⟨w.heap.size + 1 + 1, 1, none⟩ v) (.slice oa ds.length ca) ds ∧ Row ((W.setCell ⟨w.heap.size + 1 + 1, 0, none⟩ u).setCell ⟨w.heap.size + 1 + 1, 1, none⟩ v) (.slice ob es.length cb) es ∧ Below w.heap.size w ((W.setCell ⟨w.heap.size + 1 + 1, 0, none⟩ u).setCell ⟨w.heap.size + 1 + 1, 1, none⟩ v) := by
  obtain ⟨h1, h2, h3, h4, l, ra, rb, k⟩ := h
  exact ⟨set2_other _ _ (by omega) h1, set2_other _ _ (by omega) h2, set2_other _ _ (by omega) h3, set2_other _ _ (by omega) h4, by simpa [World.setCell] using l, ra.set2 r.1 r.2.1, rb.set2 r.1 r.2.1, (k.setCell (by simp; omega) _).setCell (by simp; omega) _⟩
theorem ps_l {w W : World} {na nb : Bool} {oa ob : Option Addr} {ca cb : Nat} {ds es : List Int} (h : W.cell? ⟨w.heap.size, 0, none⟩ = some (.bool na) ∧ W.cell? ⟨w.heap.size, 1, none⟩ = some (.slice oa ds.length ca) ∧ W.cell? ⟨w.heap.size + 1, 0, none⟩ = some (.bool nb) ∧ W.cell? ⟨w.heap.size + 1, 1, none⟩ = some (.slice ob es.length cb) ∧ w.heap.size + 1 + 1 < W.heap.size ∧ Row W (.slice oa ds.length ca) ds ∧ Row W (.slice ob es.length cb) es ∧ Below w.heap.size w W) : w.heap.size + 1 + 1 < W.heap.size := h.2.2.2.2.1
theorem ps_ra {w W : World} {na nb : Bool} {oa ob : Option Addr} {ca cb : Nat} {ds es : List Int} (h : W.cell? ⟨w.heap.size, 0, none⟩ = some (.bool na) ∧ W.cell? ⟨w.heap.size, 1, none⟩ = some (.slice oa ds.length ca) ∧ W.cell? ⟨w.heap.size + 1, 0, none⟩ = some (.bool nb) ∧ W.cell? ⟨w.heap.size + 1, 1, none⟩ = some (.slice ob es.length cb) ∧ w.heap.size + 1 + 1 < W.heap.size ∧ Row W (.slice oa ds.length ca) ds ∧ Row W (.slice ob es.length cb) es ∧ Below w.heap.size w W) : Row W (.slice oa ds.length ca) ds := h.2.2.2.2.2.1
theorem ps_rb {w W : World} {na nb : Bool} {oa ob : Option Addr} {ca cb : Nat} {ds es : List Int} (h : W.cell? ⟨w.heap.size, 0, none⟩ = some (.bool na) ∧ W.cell? ⟨w.heap.size, 1, none⟩ = some (.slice oa ds.length ca) ∧ W.cell? ⟨w.heap.size + 1, 0, none⟩ = some (.bool nb) ∧ W.cell? ⟨w.heap.size + 1, 1, none⟩ = some (.slice ob es.length cb) ∧ w.heap.size + 1 + 1 < W.heap.size ∧ Row W (.slice oa ds.length ca) ds ∧ Row W (.slice ob es.length cb) es ∧ Below w.heap.size w W) : Row W (.slice ob es.length cb) es := h.2.2.2.2.2.2.1

set_option maxHeartbeats 2000000 in
theorem plus_same (n : Bool) (s t : Value) (ds es : List Int) (w : World) (hra0 : Row w s ds) (hrb0 : Row w t es) (hda : Dig ds) (hdb : Dig es) (la : ds.length ≤ 1000) (lb : es.length ≤ 1000) :
    Calls Tryz.prog 83 #[.agg #[.bool n, s], .agg #[.bool n, t]] w fun e w' => ∃ v, e = .returned v ∧ Wd w' v (turnI n (val ds + val es)) ∧ Below w.heap.size w w' := by
  obtain ⟨oa, ca, rfl, -, -, -, -⟩ := id hra0
  obtain ⟨ob, cb, rfl, -, -, -, -⟩ := id hrb0
  have hS := ps_start (na := n) (nb := n) hra0 hrb0
  have hR : RC (((w.alloc (.cells #[.bool n, .slice oa ds.length ca] 92)).alloc (.cells #[.bool n, .slice ob es.length cb] 92)).alloc (.cells #[.bool false, .slice none 0 0] 92)) (w.heap.size + 1 + 1) := ⟨by simp [go_sem], by simp [go_sem], by simp [go_sem], by simp [go_sem]⟩
  have hR2 : RC (((w.alloc (.cells #[.bool n, .slice oa ds.length ca] 92)).alloc (.cells #[.bool n, .slice ob es.length cb] 92)).alloc (.cells #[.bool false, .slice none 0 0] 92)).drew (w.heap.size + 1 + 1) := hR
  clear hR
  cases n
  · go_enter Tryz.func83, Tryz.ntmps83
    go_wp2_with fail
    go_region_held3 (fun w' => w'.cell? ⟨w.heap.size, 0, none⟩ = some (.bool false) ∧ w'.cell? ⟨w.heap.size, 1, none⟩ = some (.slice oa ds.length ca) ∧ w'.cell? ⟨w.heap.size + 1, 0, none⟩ = some (.bool false) ∧ w'.cell? ⟨w.heap.size + 1, 1, none⟩ = some (.slice ob es.length cb) ∧ w.heap.size + 1 + 1 < w'.heap.size ∧ Row w' (.slice oa ds.length ca) ds ∧ Row w' (.slice ob es.length cb) es ∧ Below w.heap.size w w') (first | assumption | exact ps_drew (by assumption) | exact ps_set (by assumption) (by assumption)) (first | (go_at_call 97; refine (rplus_any _ _ ds es _ (ps_ra (by assumption)) (ps_rb (by assumption)) hda hdb la lb).mono ?_; rintro e w1 ⟨v, rfl, os, hro, hdo, hvo, hlo, hb1⟩; have HV := Hid.mk hvo; clear hvo; have rc1 := RC.step (by assumption) (ps_l (by assumption)) hb1; have key := ps_step (by assumption) hb1; obtain ⟨oo, co, rfl, -, -, -, -⟩ := id hro; clear hb1) | (go_at_call 96; refine (trim_any _ _ os _ (by assumption) (by assumption)).mono ?_; rintro e w2 ⟨v, rfl, hwd, hb2⟩; have rc2 := RC.step rc1 (ps_l key) hb2; have key2 := ps_step key hb2; obtain ⟨s2, ds2, rfl, hr2, hd2, hc2, hv2⟩ := id hwd; obtain ⟨o2, c2, rfl, -, -, -, -⟩ := id hr2; obtain ⟨q0, q1, q2, q3⟩ := id rc2; clear hb2))
    all_goals
      have hfin : Wd ((w2.setCell ⟨w.heap.size + 1 + 1, 0, none⟩ (.bool (decide (turnI false (val os) < 0)))).setCell ⟨w.heap.size + 1 + 1, 1, none⟩ (.slice o2 ds2.length c2)) (.agg #[.bool (decide (turnI false (val os) < 0)), .slice o2 ds2.length c2]) (turnI false (val ds + val es)) := by
        have h := hwd.set2 (u := .bool (decide (turnI false (val os) < 0))) (v := .slice o2 ds2.length c2) rc2
        rw [HV.out] at h ⊢
        exact h
      have kfin := key2.2.2.2.2.2.2.2
      clear hwd key key2 rc1 rc2 hS
      go_wp2_with fail
      exact bodyPost_ret (v := .agg #[.bool (decide (turnI false (val os) < 0)), .slice o2 ds2.length c2]) (by simp [results, Tryz.results83, go_sem, q0, q1]) rfl ⟨_, rfl, hfin, (kfin.setCell (by simp; omega) _).setCell (by simp; omega) _⟩
  · go_enter Tryz.func83, Tryz.ntmps83
    go_wp2_with fail
    go_region_held3 (fun w' => w'.cell? ⟨w.heap.size, 0, none⟩ = some (.bool true) ∧ w'.cell? ⟨w.heap.size, 1, none⟩ = some (.slice oa ds.length ca) ∧ w'.cell? ⟨w.heap.size + 1, 0, none⟩ = some (.bool true) ∧ w'.cell? ⟨w.heap.size + 1, 1, none⟩ = some (.slice ob es.length cb) ∧ w.heap.size + 1 + 1 < w'.heap.size ∧ Row w' (.slice oa ds.length ca) ds ∧ Row w' (.slice ob es.length cb) es ∧ Below w.heap.size w w') (first | assumption | exact ps_drew (by assumption) | exact ps_set (by assumption) (by assumption)) (first | (go_at_call 97; refine (rplus_any _ _ ds es _ (ps_ra (by assumption)) (ps_rb (by assumption)) hda hdb la lb).mono ?_; rintro e w1 ⟨v, rfl, os, hro, hdo, hvo, hlo, hb1⟩; have HV := Hid.mk hvo; clear hvo; have rc1 := RC.step (by assumption) (ps_l (by assumption)) hb1; have key := ps_step (by assumption) hb1; obtain ⟨oo, co, rfl, -, -, -, -⟩ := id hro; clear hb1) | (go_at_call 96; refine (trim_any _ _ os _ (by assumption) (by assumption)).mono ?_; rintro e w2 ⟨v, rfl, hwd, hb2⟩; have rc2 := RC.step rc1 (ps_l key) hb2; have key2 := ps_step key hb2; obtain ⟨s2, ds2, rfl, hr2, hd2, hc2, hv2⟩ := id hwd; obtain ⟨o2, c2, rfl, -, -, -, -⟩ := id hr2; obtain ⟨q0, q1, q2, q3⟩ := id rc2; clear hb2))
    all_goals
      have hfin : Wd ((w2.setCell ⟨w.heap.size + 1 + 1, 0, none⟩ (.bool (decide (turnI true (val os) < 0)))).setCell ⟨w.heap.size + 1 + 1, 1, none⟩ (.slice o2 ds2.length c2)) (.agg #[.bool (decide (turnI true (val os) < 0)), .slice o2 ds2.length c2]) (turnI true (val ds + val es)) := by
        have h := hwd.set2 (u := .bool (decide (turnI true (val os) < 0))) (v := .slice o2 ds2.length c2) rc2
        rw [HV.out] at h ⊢
        exact h
      have kfin := key2.2.2.2.2.2.2.2
      clear hwd key key2 rc1 rc2 hS
      go_wp2_with fail
      exact bodyPost_ret (v := .agg #[.bool (decide (turnI true (val os) < 0)), .slice o2 ds2.length c2]) (by simp [results, Tryz.results83, go_sem, q0, q1]) rfl ⟨_, rfl, hfin, (kfin.setCell (by simp; omega) _).setCell (by simp; omega) _⟩

set_option maxHeartbeats 2000000 in
theorem plus_diff_ge_f (s t : Value) (ds es : List Int) (w : World) (hra0 : Row w s ds) (hrb0 : Row w t es) (hda : Dig ds) (hdb : Dig es) (cna : Canon ds) (cnb : Canon es) (la : ds.length ≤ 1000) (lb : es.length ≤ ds.length) (hge : val es ≤ val ds) :
    Calls Tryz.prog 83 #[.agg #[.bool false, s], .agg #[.bool true, t]] w fun e w' => ∃ v, e = .returned v ∧ Wd w' v (turnI false (val ds - val es)) ∧ Below w.heap.size w w' := by
  obtain ⟨oa, ca, rfl, -, -, -, -⟩ := id hra0
  obtain ⟨ob, cb, rfl, -, -, -, -⟩ := id hrb0
  have hS := ps_start (na := false) (nb := true) hra0 hrb0
  have hR : RC (((w.alloc (.cells #[.bool false, .slice oa ds.length ca] 92)).alloc (.cells #[.bool true, .slice ob es.length cb] 92)).alloc (.cells #[.bool false, .slice none 0 0] 92)) (w.heap.size + 1 + 1) := ⟨by simp [go_sem], by simp [go_sem], by simp [go_sem], by simp [go_sem]⟩
  have hcm : decide (0 ≤ cmpI (val ds) (val es)) = true := by simp; unfold cmpI; split <;> (try split) <;> omega
  go_enter Tryz.func83, Tryz.ntmps83
  go_wp2_with fail
  refine (rsize_any _ _ ds es _ (ps_ra hS) (ps_rb hS) hda hdb cna cnb).mono ?_
  rintro e w0 ⟨rfl, hb0⟩
  have rc0 : RC w0.drew (w.heap.size + 1 + 1) := RC.step hR (ps_l hS) hb0.drew
  have hS0 := ps_step hS hb0
  clear hb0 hR hS
  have hS := hS0
  clear hS0
  go_wp2_with fail
  go_region_held3 (fun w' => w'.cell? ⟨w.heap.size, 0, none⟩ = some (.bool false) ∧ w'.cell? ⟨w.heap.size, 1, none⟩ = some (.slice oa ds.length ca) ∧ w'.cell? ⟨w.heap.size + 1, 0, none⟩ = some (.bool true) ∧ w'.cell? ⟨w.heap.size + 1, 1, none⟩ = some (.slice ob es.length cb) ∧ w.heap.size + 1 + 1 < w'.heap.size ∧ Row w' (.slice oa ds.length ca) ds ∧ Row w' (.slice ob es.length cb) es ∧ Below w.heap.size w w') (first | assumption | exact ps_drew (by assumption) | exact ps_set (by assumption) (by assumption)) (first | (go_at_call 99; refine (rless_any _ _ ds es _ (ps_ra (by assumption)) (ps_rb (by assumption)) hda hdb la lb hge).mono ?_; rintro e w1 ⟨v, rfl, os, hro, hdo, hvo, hlo, hb1⟩; have HV := Hid.mk hvo; clear hvo; have rc1 := RC.step (by assumption) (ps_l (by assumption)) hb1; have key := ps_step (by assumption) hb1; obtain ⟨oo, co, rfl, -, -, -, -⟩ := id hro; clear hb1) | (go_at_call 96; refine (trim_any _ _ os _ (by assumption) (by assumption)).mono ?_; rintro e w2 ⟨v, rfl, hwd, hb2⟩; have rc2 := RC.step rc1 (ps_l key) hb2; have key2 := ps_step key hb2; obtain ⟨s2, ds2, rfl, hr2, hd2, hc2, hv2⟩ := id hwd; obtain ⟨o2, c2, rfl, -, -, -, -⟩ := id hr2; obtain ⟨q0, q1, q2, q3⟩ := id rc2; clear hb2))
  all_goals
    have hfin : Wd ((w2.setCell ⟨w.heap.size + 1 + 1, 0, none⟩ (.bool (decide (turnI false (val os) < 0)))).setCell ⟨w.heap.size + 1 + 1, 1, none⟩ (.slice o2 ds2.length c2)) (.agg #[.bool (decide (turnI false (val os) < 0)), .slice o2 ds2.length c2]) (turnI false (val ds - val es)) := by
      have h := hwd.set2 (u := .bool (decide (turnI false (val os) < 0))) (v := .slice o2 ds2.length c2) rc2
      rw [HV.out] at h ⊢
      exact h
    have kfin := key2.2.2.2.2.2.2.2
    clear hwd key key2 rc1 rc2 hS
    go_wp2_with fail
    exact bodyPost_ret (v := .agg #[.bool (decide (turnI false (val os) < 0)), .slice o2 ds2.length c2]) (by simp [results, Tryz.results83, go_sem, q0, q1]) rfl ⟨_, rfl, hfin, (kfin.setCell (by simp; omega) _).setCell (by simp; omega) _⟩

set_option maxHeartbeats 2000000 in
theorem plus_diff_ge_t (s t : Value) (ds es : List Int) (w : World) (hra0 : Row w s ds) (hrb0 : Row w t es) (hda : Dig ds) (hdb : Dig es) (cna : Canon ds) (cnb : Canon es) (la : ds.length ≤ 1000) (lb : es.length ≤ ds.length) (hge : val es ≤ val ds) :
    Calls Tryz.prog 83 #[.agg #[.bool true, s], .agg #[.bool false, t]] w fun e w' => ∃ v, e = .returned v ∧ Wd w' v (turnI true (val ds - val es)) ∧ Below w.heap.size w w' := by
  obtain ⟨oa, ca, rfl, -, -, -, -⟩ := id hra0
  obtain ⟨ob, cb, rfl, -, -, -, -⟩ := id hrb0
  have hS := ps_start (na := true) (nb := false) hra0 hrb0
  have hR : RC (((w.alloc (.cells #[.bool true, .slice oa ds.length ca] 92)).alloc (.cells #[.bool false, .slice ob es.length cb] 92)).alloc (.cells #[.bool false, .slice none 0 0] 92)) (w.heap.size + 1 + 1) := ⟨by simp [go_sem], by simp [go_sem], by simp [go_sem], by simp [go_sem]⟩
  have hcm : decide (0 ≤ cmpI (val ds) (val es)) = true := by simp; unfold cmpI; split <;> (try split) <;> omega
  go_enter Tryz.func83, Tryz.ntmps83
  go_wp2_with fail
  refine (rsize_any _ _ ds es _ (ps_ra hS) (ps_rb hS) hda hdb cna cnb).mono ?_
  rintro e w0 ⟨rfl, hb0⟩
  have rc0 : RC w0.drew (w.heap.size + 1 + 1) := RC.step hR (ps_l hS) hb0.drew
  have hS0 := ps_step hS hb0
  clear hb0 hR hS
  have hS := hS0
  clear hS0
  go_wp2_with fail
  go_region_held3 (fun w' => w'.cell? ⟨w.heap.size, 0, none⟩ = some (.bool true) ∧ w'.cell? ⟨w.heap.size, 1, none⟩ = some (.slice oa ds.length ca) ∧ w'.cell? ⟨w.heap.size + 1, 0, none⟩ = some (.bool false) ∧ w'.cell? ⟨w.heap.size + 1, 1, none⟩ = some (.slice ob es.length cb) ∧ w.heap.size + 1 + 1 < w'.heap.size ∧ Row w' (.slice oa ds.length ca) ds ∧ Row w' (.slice ob es.length cb) es ∧ Below w.heap.size w w') (first | assumption | exact ps_drew (by assumption) | exact ps_set (by assumption) (by assumption)) (first | (go_at_call 99; refine (rless_any _ _ ds es _ (ps_ra (by assumption)) (ps_rb (by assumption)) hda hdb la lb hge).mono ?_; rintro e w1 ⟨v, rfl, os, hro, hdo, hvo, hlo, hb1⟩; have HV := Hid.mk hvo; clear hvo; have rc1 := RC.step (by assumption) (ps_l (by assumption)) hb1; have key := ps_step (by assumption) hb1; obtain ⟨oo, co, rfl, -, -, -, -⟩ := id hro; clear hb1) | (go_at_call 96; refine (trim_any _ _ os _ (by assumption) (by assumption)).mono ?_; rintro e w2 ⟨v, rfl, hwd, hb2⟩; have rc2 := RC.step rc1 (ps_l key) hb2; have key2 := ps_step key hb2; obtain ⟨s2, ds2, rfl, hr2, hd2, hc2, hv2⟩ := id hwd; obtain ⟨o2, c2, rfl, -, -, -, -⟩ := id hr2; obtain ⟨q0, q1, q2, q3⟩ := id rc2; clear hb2))
  all_goals
    have hfin : Wd ((w2.setCell ⟨w.heap.size + 1 + 1, 0, none⟩ (.bool (decide (turnI true (val os) < 0)))).setCell ⟨w.heap.size + 1 + 1, 1, none⟩ (.slice o2 ds2.length c2)) (.agg #[.bool (decide (turnI true (val os) < 0)), .slice o2 ds2.length c2]) (turnI true (val ds - val es)) := by
      have h := hwd.set2 (u := .bool (decide (turnI true (val os) < 0))) (v := .slice o2 ds2.length c2) rc2
      rw [HV.out] at h ⊢
      exact h
    have kfin := key2.2.2.2.2.2.2.2
    clear hwd key key2 rc1 rc2 hS
    go_wp2_with fail
    exact bodyPost_ret (v := .agg #[.bool (decide (turnI true (val os) < 0)), .slice o2 ds2.length c2]) (by simp [results, Tryz.results83, go_sem, q0, q1]) rfl ⟨_, rfl, hfin, (kfin.setCell (by simp; omega) _).setCell (by simp; omega) _⟩

set_option maxHeartbeats 2000000 in
theorem plus_diff_lt_f (s t : Value) (ds es : List Int) (w : World) (hra0 : Row w s ds) (hrb0 : Row w t es) (hda : Dig ds) (hdb : Dig es) (cna : Canon ds) (cnb : Canon es) (la : es.length ≤ 1000) (lb : ds.length ≤ es.length) (hge : val ds < val es) :
    Calls Tryz.prog 83 #[.agg #[.bool false, s], .agg #[.bool true, t]] w fun e w' => ∃ v, e = .returned v ∧ Wd w' v (turnI true (val es - val ds)) ∧ Below w.heap.size w w' := by
  obtain ⟨oa, ca, rfl, -, -, -, -⟩ := id hra0
  obtain ⟨ob, cb, rfl, -, -, -, -⟩ := id hrb0
  have hS := ps_start (na := false) (nb := true) hra0 hrb0
  have hR : RC (((w.alloc (.cells #[.bool false, .slice oa ds.length ca] 92)).alloc (.cells #[.bool true, .slice ob es.length cb] 92)).alloc (.cells #[.bool false, .slice none 0 0] 92)) (w.heap.size + 1 + 1) := ⟨by simp [go_sem], by simp [go_sem], by simp [go_sem], by simp [go_sem]⟩
  have hcm : decide (0 ≤ cmpI (val ds) (val es)) = false := by simp; rw [cmp_of_lt hge]; omega
  go_enter Tryz.func83, Tryz.ntmps83
  go_wp2_with fail
  refine (rsize_any _ _ ds es _ (ps_ra hS) (ps_rb hS) hda hdb cna cnb).mono ?_
  rintro e w0 ⟨rfl, hb0⟩
  have rc0 : RC w0.drew (w.heap.size + 1 + 1) := RC.step hR (ps_l hS) hb0.drew
  have hS0 := ps_step hS hb0
  clear hb0 hR hS
  have hS := hS0
  clear hS0
  go_wp2_with fail
  go_region_held3 (fun w' => w'.cell? ⟨w.heap.size, 0, none⟩ = some (.bool false) ∧ w'.cell? ⟨w.heap.size, 1, none⟩ = some (.slice oa ds.length ca) ∧ w'.cell? ⟨w.heap.size + 1, 0, none⟩ = some (.bool true) ∧ w'.cell? ⟨w.heap.size + 1, 1, none⟩ = some (.slice ob es.length cb) ∧ w.heap.size + 1 + 1 < w'.heap.size ∧ Row w' (.slice oa ds.length ca) ds ∧ Row w' (.slice ob es.length cb) es ∧ Below w.heap.size w w') (first | assumption | exact ps_drew (by assumption) | exact ps_set (by assumption) (by assumption)) (first | (go_at_call 99; refine (rless_any _ _ es ds _ (ps_rb (by assumption)) (ps_ra (by assumption)) hdb hda la lb (by omega)).mono ?_; rintro e w1 ⟨v, rfl, os, hro, hdo, hvo, hlo, hb1⟩; have HV := Hid.mk hvo; clear hvo; have rc1 := RC.step (by assumption) (ps_l (by assumption)) hb1; have key := ps_step (by assumption) hb1; obtain ⟨oo, co, rfl, -, -, -, -⟩ := id hro; clear hb1) | (go_at_call 96; refine (trim_any _ _ os _ (by assumption) (by assumption)).mono ?_; rintro e w2 ⟨v, rfl, hwd, hb2⟩; have rc2 := RC.step rc1 (ps_l key) hb2; have key2 := ps_step key hb2; obtain ⟨s2, ds2, rfl, hr2, hd2, hc2, hv2⟩ := id hwd; obtain ⟨o2, c2, rfl, -, -, -, -⟩ := id hr2; obtain ⟨q0, q1, q2, q3⟩ := id rc2; clear hb2))
  all_goals
    have hfin : Wd ((w2.setCell ⟨w.heap.size + 1 + 1, 0, none⟩ (.bool (decide (turnI true (val os) < 0)))).setCell ⟨w.heap.size + 1 + 1, 1, none⟩ (.slice o2 ds2.length c2)) (.agg #[.bool (decide (turnI true (val os) < 0)), .slice o2 ds2.length c2]) (turnI true (val es - val ds)) := by
      have h := hwd.set2 (u := .bool (decide (turnI true (val os) < 0))) (v := .slice o2 ds2.length c2) rc2
      rw [HV.out] at h ⊢
      exact h
    have kfin := key2.2.2.2.2.2.2.2
    clear hwd key key2 rc1 rc2 hS
    go_wp2_with fail
    exact bodyPost_ret (v := .agg #[.bool (decide (turnI true (val os) < 0)), .slice o2 ds2.length c2]) (by simp [results, Tryz.results83, go_sem, q0, q1]) rfl ⟨_, rfl, hfin, (kfin.setCell (by simp; omega) _).setCell (by simp; omega) _⟩

set_option maxHeartbeats 2000000 in
theorem plus_diff_lt_t (s t : Value) (ds es : List Int) (w : World) (hra0 : Row w s ds) (hrb0 : Row w t es) (hda : Dig ds) (hdb : Dig es) (cna : Canon ds) (cnb : Canon es) (la : es.length ≤ 1000) (lb : ds.length ≤ es.length) (hge : val ds < val es) :
    Calls Tryz.prog 83 #[.agg #[.bool true, s], .agg #[.bool false, t]] w fun e w' => ∃ v, e = .returned v ∧ Wd w' v (turnI false (val es - val ds)) ∧ Below w.heap.size w w' := by
  obtain ⟨oa, ca, rfl, -, -, -, -⟩ := id hra0
  obtain ⟨ob, cb, rfl, -, -, -, -⟩ := id hrb0
  have hS := ps_start (na := true) (nb := false) hra0 hrb0
  have hR : RC (((w.alloc (.cells #[.bool true, .slice oa ds.length ca] 92)).alloc (.cells #[.bool false, .slice ob es.length cb] 92)).alloc (.cells #[.bool false, .slice none 0 0] 92)) (w.heap.size + 1 + 1) := ⟨by simp [go_sem], by simp [go_sem], by simp [go_sem], by simp [go_sem]⟩
  have hcm : decide (0 ≤ cmpI (val ds) (val es)) = false := by simp; rw [cmp_of_lt hge]; omega
  go_enter Tryz.func83, Tryz.ntmps83
  go_wp2_with fail
  refine (rsize_any _ _ ds es _ (ps_ra hS) (ps_rb hS) hda hdb cna cnb).mono ?_
  rintro e w0 ⟨rfl, hb0⟩
  have rc0 : RC w0.drew (w.heap.size + 1 + 1) := RC.step hR (ps_l hS) hb0.drew
  have hS0 := ps_step hS hb0
  clear hb0 hR hS
  have hS := hS0
  clear hS0
  go_wp2_with fail
  go_region_held3 (fun w' => w'.cell? ⟨w.heap.size, 0, none⟩ = some (.bool true) ∧ w'.cell? ⟨w.heap.size, 1, none⟩ = some (.slice oa ds.length ca) ∧ w'.cell? ⟨w.heap.size + 1, 0, none⟩ = some (.bool false) ∧ w'.cell? ⟨w.heap.size + 1, 1, none⟩ = some (.slice ob es.length cb) ∧ w.heap.size + 1 + 1 < w'.heap.size ∧ Row w' (.slice oa ds.length ca) ds ∧ Row w' (.slice ob es.length cb) es ∧ Below w.heap.size w w') (first | assumption | exact ps_drew (by assumption) | exact ps_set (by assumption) (by assumption)) (first | (go_at_call 99; refine (rless_any _ _ es ds _ (ps_rb (by assumption)) (ps_ra (by assumption)) hdb hda la lb (by omega)).mono ?_; rintro e w1 ⟨v, rfl, os, hro, hdo, hvo, hlo, hb1⟩; have HV := Hid.mk hvo; clear hvo; have rc1 := RC.step (by assumption) (ps_l (by assumption)) hb1; have key := ps_step (by assumption) hb1; obtain ⟨oo, co, rfl, -, -, -, -⟩ := id hro; clear hb1) | (go_at_call 96; refine (trim_any _ _ os _ (by assumption) (by assumption)).mono ?_; rintro e w2 ⟨v, rfl, hwd, hb2⟩; have rc2 := RC.step rc1 (ps_l key) hb2; have key2 := ps_step key hb2; obtain ⟨s2, ds2, rfl, hr2, hd2, hc2, hv2⟩ := id hwd; obtain ⟨o2, c2, rfl, -, -, -, -⟩ := id hr2; obtain ⟨q0, q1, q2, q3⟩ := id rc2; clear hb2))
  all_goals
    have hfin : Wd ((w2.setCell ⟨w.heap.size + 1 + 1, 0, none⟩ (.bool (decide (turnI false (val os) < 0)))).setCell ⟨w.heap.size + 1 + 1, 1, none⟩ (.slice o2 ds2.length c2)) (.agg #[.bool (decide (turnI false (val os) < 0)), .slice o2 ds2.length c2]) (turnI false (val es - val ds)) := by
      have h := hwd.set2 (u := .bool (decide (turnI false (val os) < 0))) (v := .slice o2 ds2.length c2) rc2
      rw [HV.out] at h ⊢
      exact h
    have kfin := key2.2.2.2.2.2.2.2
    clear hwd key key2 rc1 rc2 hS
    go_wp2_with fail
    exact bodyPost_ret (v := .agg #[.bool (decide (turnI false (val os) < 0)), .slice o2 ds2.length c2]) (by simp [results, Tryz.results83, go_sem, q0, q1]) rfl ⟨_, rfl, hfin, (kfin.setCell (by simp; omega) _).setCell (by simp; omega) _⟩

end Go.Proofs.YtlnfabjgcecebaaGreat.Big
namespace Go.Proofs.YtlnfabjgcecebaaGreat.Big
open Go.RowKit

theorem wd_len {w : World} {s : Value} {ds : List Int} {V : Int} {n : Nat} (_ : Row w s ds) (hd : Dig ds) (hc : Canon ds) (hv : val ds = absI V) (h : absI V < pw n) : ds.length ≤ n :=
  canon_short hd hc (by omega)
theorem pw_abs_neg {V : Int} : absI (-V) = absI V := by unfold absI; split <;> split <;> omega

theorem wplus_any (x y : Value) (V U : Int) (w : World) (hx : Wd w x V) (hy : Wd w y U) (bV : absI V < pw 1000) (bU : absI U < pw 1000) :
    Calls Tryz.prog 83 #[x, y] w fun e w' => ∃ v, e = .returned v ∧ Wd w' v (V + U) ∧ Below w.heap.size w w' := by
  obtain ⟨s, ds, rfl, ra, da, ca, va⟩ := hx
  obtain ⟨t, es, rfl, rb, db, cb, vb⟩ := hy
  have la := wd_len ra da ca va bV
  have lb := wd_len rb db cb vb bU
  by_cases hV : V < 0
  · rw [decide_eq_true hV]
    by_cases hU : U < 0
    · rw [decide_eq_true hU]
      have h := plus_same true s t ds es w ra rb da db la lb
      rw [va, vb, show turnI true (absI V + absI U) = V + U by simp only [turnI, absI, if_true]; rw [if_pos hV, if_pos hU]; omega] at h
      exact h
    · rw [decide_eq_false hU]
      by_cases hge : val es ≤ val ds
      · have h := plus_diff_ge_t s t ds es w ra rb da db ca cb la (by have := @shorter_lt ds es da db cb; omega) hge
        rw [va, vb, show turnI true (absI V - absI U) = V + U by simp only [turnI, absI, if_true]; rw [if_pos hV, if_neg hU]; omega] at h
        exact h
      · have h := plus_diff_lt_t s t ds es w ra rb da db ca cb lb (by have := @shorter_lt es ds db da ca; omega) (by omega)
        rw [va, vb, show turnI false (absI U - absI V) = V + U by simp only [turnI, absI]; rw [if_pos hV, if_neg hU]; simp; omega] at h
        exact h
  · rw [decide_eq_false hV]
    by_cases hU : U < 0
    · rw [decide_eq_true hU]
      by_cases hge : val es ≤ val ds
      · have h := plus_diff_ge_f s t ds es w ra rb da db ca cb la (by have := @shorter_lt ds es da db cb; omega) hge
        rw [va, vb, show turnI false (absI V - absI U) = V + U by simp only [turnI, absI]; rw [if_neg hV, if_pos hU]; simp] at h
        exact h
      · have h := plus_diff_lt_f s t ds es w ra rb da db ca cb lb (by have := @shorter_lt es ds db da ca; omega) (by omega)
        rw [va, vb, show turnI true (absI U - absI V) = V + U by simp only [turnI, absI, if_true]; rw [if_neg hV, if_pos hU]; omega] at h
        exact h
    · rw [decide_eq_false hU]
      have h := plus_same false s t ds es w ra rb da db la lb
      rw [va, vb, show turnI false (absI V + absI U) = V + U by simp only [turnI, absI]; rw [if_neg hV, if_neg hU]; simp] at h
      exact h

set_option maxHeartbeats 1000000 in
theorem wminus_any (x : Value) (V : Int) (w : World) (hx : Wd w x V) :
    Calls Tryz.prog 85 #[x] w fun e w' => ∃ v, e = .returned v ∧ Wd w' v (-V) ∧ Below w.heap.size w w' := by
  obtain ⟨s, ds, rfl, ra, da, ca, va⟩ := hx
  obtain ⟨oa, cap, rfl, -, -, -, -⟩ := id ra
  have hR : ∀ o, RC ((w.alloc o).alloc (.cells #[.bool false, .slice none 0 0] 92)) (w.heap.size + 1) := fun o => ⟨by simp [go_sem], by simp [go_sem], by simp [go_sem], by simp [go_sem]⟩
  have HT : Hid (turnI (!(decide (V < 0))) (val ds) = -V) := by
    unfold Hid; rw [va]; unfold turnI absI
    by_cases h : V < 0 <;> simp [h]
  go_enter Tryz.func85, Tryz.ntmps85
  go_wp2_with fail
  refine (trim_any (!(decide (V < 0))) _ ds _ ((ra.alloc _).alloc _) da).mono ?_
  rw [HT.out]
  rintro e w1 ⟨v, rfl, hwd, hb⟩
  have rc := RC.step (hR _) (by simp) hb
  obtain ⟨s2, ds2, rfl, hr2, hd2, hc2, hv2⟩ := id hwd
  obtain ⟨o2, c2, rfl, -, -, -, -⟩ := id hr2
  obtain ⟨q0, q1, q2, q3⟩ := id rc
  obtain ⟨nb, hnb⟩ : ∃ nb, Hid (decide (-V < 0) = nb) := ⟨_, rfl⟩
  rw [hnb.out] at hwd ⊢
  have hfin := hwd.set2 (u := .bool nb) (v := .slice o2 ds2.length c2) rc
  clear hwd
  have k : Below w.heap.size w w1 := (((Below.refl _ _).alloc (Nat.le_refl _) _).alloc (by simp) _).trans (hb.mono (by simp; omega))
  go_wp2_with fail
  exact bodyPost_ret (v := .agg #[.bool nb, .slice o2 ds2.length c2]) (by simp [results, Tryz.results85, go_sem, q0, q1]) rfl ⟨_, rfl, hfin, (k.setCell (by simp) _).setCell (by simp) _⟩

theorem cmp_neg2 (V U : Int) : cmpI (-U) (-V) = cmpI V U := by
  unfold cmpI
  by_cases h : V = U
  · subst h; simp
  · rw [if_neg (by omega), if_neg h]
    by_cases h2 : V < U
    · rw [if_pos (by omega), if_pos h2]
    · rw [if_neg (by omega), if_neg h2]

end Go.Proofs.YtlnfabjgcecebaaGreat.Big
namespace Go.Proofs.YtlnfabjgcecebaaGreat.Big
theorem told_fits {V : Int} (h : fitsB V = true) : toldI V = V := by simp [toldI, h]
theorem told_not {V : Int} (h : fitsB V = false) : toldI V = 0 := by simp [toldI, h]
theorem fits_mk {V : Int} (h0 : -9223372036854775808 ≤ V) (h1 : V ≤ 9223372036854775807) : fitsB V = true := by unfold fitsB; simp; omega
theorem fits_bd {V : Int} (h : fitsB V = true) : -9223372036854775808 ≤ V ∧ V ≤ 9223372036854775807 := by unfold fitsB at h; simpa using h
end Go.Proofs.YtlnfabjgcecebaaGreat.Big
namespace Go.Proofs.YtlnfabjgcecebaaGreat.Big
open Go.RowKit

theorem or16 {z x : Int} (hz : 0 ≤ z) (hz1 : z < 281474976710656) (hx : 0 ≤ x) (hx1 : x < 65536) : bits BinOp.or IntKind.u64 (z * 65536) x = z * 65536 + x := by
  obtain ⟨a, rfl⟩ := Int.eq_ofNat_of_zero_le hz
  obtain ⟨b, rfl⟩ := Int.eq_ofNat_of_zero_le hx
  have e : (a : Int) * 65536 = ((2 ^ 16 * a : Nat) : Int) := by omega
  rw [e, bits_or_u64_nat _ _ (by omega) (by omega), ← Nat.two_pow_add_eq_or_of_lt (by omega : b < 2 ^ 16)]
  omega
theorem pw3 : pw 3 = 281474976710656 := rfl
theorem pw4 : pw 4 = 18446744073709551616 := rfl
theorem drop_lt {ds : List Int} (hd : Dig ds) (m n : Nat) (h : ds.length ≤ m + n) : 0 ≤ val (ds.drop m) ∧ val (ds.drop m) < pw n := by
  have hdd : Dig (ds.drop m) := fun x hx => hd x (List.mem_of_mem_drop hx)
  have h1 := val_lt hdd
  rw [List.length_drop] at h1
  have h2 := pw_le (show ds.length - m ≤ n by omega)
  exact ⟨val_nonneg hdd, by omega⟩

set_option maxHeartbeats 1000000 in
theorem wint_any (x : Value) (V : Int) (w : World) (hx : Wd w x V) :
    Calls Tryz.prog 95 #[x] w fun e w' => ∃ n : Int, e = .returned (.tuple #[.int .i64 n, .bool (fitsB V)]) ∧ (fitsB V = true → n = V) ∧ Below w.heap.size w w' := by
  obtain ⟨s, ds, rfl, ra, da, ca, va⟩ := hx
  obtain ⟨oa, cap, rfl, lc, lm, -, -⟩ := id ra
  unfold maxLen at lm
  by_cases h4 : 4 < ds.length
  · have hf : fitsB V = false := by
      have h1 := canon_len da ca (by omega)
      have h2 := pw_le (show 4 ≤ ds.length - 1 by omega)
      rw [pw4] at h2
      unfold fitsB; simp; intro hh
      unfold absI at va; split at va <;> omega
    rw [hf]
    have h4' : (4 : Int) < (ds.length : Int) := by omega
    go_enter Tryz.func95, Tryz.ntmps95
    go_wp2
    go_ret2
    exact ⟨_, rfl, fun h => (by cases h), (Below.refl _ _).alloc (Nat.le_refl _) _⟩
  · have h4' : decide ((4 : Int) < (ds.length : Int)) = false := by simp; omega
    have hv4 : val ds < 18446744073709551616 := by have h1 := val_lt da; have h2 := pw_le (show ds.length ≤ 4 by omega); rw [pw4] at h2; omega
    have hv0 := val_nonneg da
    go_enter Tryz.func95, Tryz.ntmps95
    have hv4' : Hid (val ds < 18446744073709551616) := hv4
    have hv0' : Hid (0 ≤ val ds) := hv0
    have VA : Hid (val ds = absI V) := va
    clear hv4 hv0 va
    have hlen : ds.length ≤ 4 := by omega
    clear h4
    cases hn : decide (V < 0)
    · go_wp2_with fail
      go_loop [4, 5] (fun u i => ∃ (k : Nat) (z : Int), k ≤ ds.length ∧ u = .int .u64 z ∧ i = .int .i64 ((k : Int) - 1) ∧ Hid (val (ds.drop k) = z)) (fun _ i => (intOf i + 1).toNat)
      case atStart => exact ⟨ds.length, 0, Nat.le_refl _, rfl, rfl, by unfold Hid; rw [List.drop_eq_nil_of_le (Nat.le_refl _)]; rfl⟩
      case round =>
        obtain ⟨k, z, hk, rfl, rfl, hz⟩ := hrel
        by_cases h0 : 0 < k
        · obtain ⟨m, rfl⟩ : ∃ m, k = m + 1 := ⟨k - 1, by omega⟩
          obtain ⟨ab, ao, rfl, alt, ac⟩ := ra.at (i := m) (by omega)
          have hzb := drop_lt da (m + 1) 3 (by omega)
          rw [hz.out, pw3] at hzb
          have hst := val_drop ds m
          rw [hz.out] at hst
          have hxb := dig_get da m
          obtain ⟨x, hx⟩ : ∃ x, Hid (ds.getD m 0 = x) := ⟨_, rfl⟩
          rw [hx.out] at ac hst hxb
          have HST : Hid (val (ds.drop m) = x + 65536 * z) := hst
          have hor := or16 hzb.1 hzb.2 hxb.1 hxb.2
          have hwz : IntKind.u64.wrap (z * 65536) = z * 65536 := by rw [IntKind.wrap_u64]; omega
          have em : ((m + 1 : Nat) : Int) - 1 = (m : Int) := by omega
          rw [em]
          clear em hst
          go_wp2
          exact ⟨⟨m, z * 65536 + x, by omega, rfl, rfl, by unfold Hid; rw [HST.out]; omega⟩, by simp [intOf]⟩
        · have hk0 : k = 0 := by omega
          subst hk0
          have hz' := hz.out
          rw [List.drop_zero] at hz'
          have z0 := hv0'.out
          have z1 := hv4'.out
          have z2 := VA.out
          rw [hz'] at z0 z1 z2
          have HFB : Hid (fitsB V = decide (z ≤ 9223372036854775807)) := by
            unfold Hid fitsB; apply decide_eq_decide.2; unfold absI at z2; simp at hn; rw [if_neg (by omega)] at z2; omega
          have HVV : Hid (fitsB V = true → wrap64 z = V) := by
            intro h; have h2 := fits_bd h; unfold absI at z2; simp at hn; rw [if_neg (by omega)] at z2; unfold wrap64; omega
          clear z2 hz'
          go_wp2
          go_ret2
          exact ⟨_, by rw [HFB.out]; rfl, HVV.out, (Below.refl _ _).alloc (Nat.le_refl _) _⟩
    · go_wp2_with fail
      go_loop [4, 5] (fun u i => ∃ (k : Nat) (z : Int), k ≤ ds.length ∧ u = .int .u64 z ∧ i = .int .i64 ((k : Int) - 1) ∧ Hid (val (ds.drop k) = z)) (fun _ i => (intOf i + 1).toNat)
      case atStart => exact ⟨ds.length, 0, Nat.le_refl _, rfl, rfl, by unfold Hid; rw [List.drop_eq_nil_of_le (Nat.le_refl _)]; rfl⟩
      case round =>
        obtain ⟨k, z, hk, rfl, rfl, hz⟩ := hrel
        by_cases h0 : 0 < k
        · obtain ⟨m, rfl⟩ : ∃ m, k = m + 1 := ⟨k - 1, by omega⟩
          obtain ⟨ab, ao, rfl, alt, ac⟩ := ra.at (i := m) (by omega)
          have hzb := drop_lt da (m + 1) 3 (by omega)
          rw [hz.out, pw3] at hzb
          have hst := val_drop ds m
          rw [hz.out] at hst
          have hxb := dig_get da m
          obtain ⟨x, hx⟩ : ∃ x, Hid (ds.getD m 0 = x) := ⟨_, rfl⟩
          rw [hx.out] at ac hst hxb
          have HST : Hid (val (ds.drop m) = x + 65536 * z) := hst
          have hor := or16 hzb.1 hzb.2 hxb.1 hxb.2
          have hwz : IntKind.u64.wrap (z * 65536) = z * 65536 := by rw [IntKind.wrap_u64]; omega
          have em : ((m + 1 : Nat) : Int) - 1 = (m : Int) := by omega
          rw [em]
          clear em hst
          go_wp2
          exact ⟨⟨m, z * 65536 + x, by omega, rfl, rfl, by unfold Hid; rw [HST.out]; omega⟩, by simp [intOf]⟩
        · have hk0 : k = 0 := by omega
          subst hk0
          have hz' := hz.out
          rw [List.drop_zero] at hz'
          have z0 := hv0'.out
          have z1 := hv4'.out
          have z2 := VA.out
          rw [hz'] at z0 z1 z2
          have HFB : Hid (fitsB V = decide (z ≤ 9223372036854775808)) := by
            unfold Hid fitsB; apply decide_eq_decide.2; unfold absI at z2; simp at hn; rw [if_pos (by omega)] at z2; omega
          have HVV : Hid (fitsB V = true → wrap64 (IntKind.u64.wrap (-z)) = V) := by
            intro h; have h2 := fits_bd h; unfold absI at z2; simp at hn; rw [if_pos (by omega)] at z2; rw [IntKind.wrap_u64]; unfold wrap64; omega
          clear z2 hz'
          go_wp2
          go_ret2
          exact ⟨_, by rw [HFB.out]; rfl, HVV.out, (Below.refl _ _).alloc (Nat.le_refl _) _⟩

set_option maxHeartbeats 400000 in
theorem told_any (x : Value) (V : Int) (w : World) (hx : Wd w x V) :
    Calls Tryz.prog 82 #[x] w fun e w' => e = .returned (.tuple #[.int .i64 (toldI V), .bool (fitsB V)]) ∧ Below w.heap.size w w' := by
  obtain ⟨s, ds, rfl, ra, da, ca, va⟩ := id hx
  obtain ⟨oa, cap, rfl, -, -, -, -⟩ := id ra
  have hW : ∀ o, Wd (w.alloc o) (.agg #[.bool (decide (V < 0)), .slice oa ds.length cap]) V := fun o => hx.below (below_alloc w o)
  cases hf : fitsB V
  · have HT : Hid (toldI V = 0) := told_not hf
    have hI := fun o => wint_any _ V _ (hW o)
    rw [hf] at hI
    go_enter Tryz.func82, Tryz.ntmps82
    go_wp2_with fail
    refine (hI _).mono ?_
    rintro e w1 ⟨n, rfl, -, hb⟩
    go_wp2_with fail
    go_ret2
    exact ⟨by rw [HT.out]; rfl, ((Below.refl _ _).alloc (Nat.le_refl _) _).trans (hb.mono (by simp))⟩
  · have HT : Hid (toldI V = V) := told_fits hf
    have hI := fun o => wint_any _ V _ (hW o)
    rw [hf] at hI
    go_enter Tryz.func82, Tryz.ntmps82
    go_wp2_with fail
    refine (hI _).mono ?_
    rintro e w1 ⟨n, rfl, hn, hb⟩
    have hn' := hn trivial
    subst hn'
    clear hn
    go_wp2_with fail
    go_ret2
    exact ⟨by rw [HT.out]; rfl, ((Below.refl _ _).alloc (Nat.le_refl _) _).trans (hb.mono (by simp))⟩
end Go.Proofs.YtlnfabjgcecebaaGreat.Big
