/- Contracts of the reference's Plus. -/
import Derived.Test.YtdfccjhmpgoacaaNSize
import Derived.Deep.RegionHeld3
namespace Go.Proofs.Ytdfccjhmpgoacaa.Big
open Go.RowKit

/-- The cells of a struct result that is not written yet. -/
def RC (W : World) (B : Nat) : Prop := W.cell? ⟨B, 0, none⟩ = some (.bool false) ∧ W.cell? ⟨B, 1, none⟩ = some (.slice none 0 0) ∧ W.frozen? ⟨B, 0, none⟩ = false ∧ W.frozen? ⟨B, 1, none⟩ = false
theorem RC.step {W w1 : World} {B : Nat} (h : RC W B) (l : B < W.heap.size) (hb : Below W.heap.size W w1) : RC w1 B :=
  ⟨keep hb l h.1, keep hb l h.2.1, keepF hb l h.2.2.1, keepF hb l h.2.2.2⟩
theorem RC.new (W : World) : RC (W.alloc (.cells #[.bool false, .slice none 0 0] 44)) W.heap.size := ⟨by simp [go_sem], by simp [go_sem], by simp [go_sem], by simp [go_sem]⟩

theorem Hid.mk {p : Prop} (h : p) : Hid p := h
theorem Wd.set2 {W : World} {B : Nat} {u v x : Value} {V : Int} (h : Wd W x V) (r : RC W B) : Wd ((W.setCell ⟨B, 0, none⟩ u).setCell ⟨B, 1, none⟩ v) x V := by
  obtain ⟨s, ds, h1, h2, h3, h4, h5⟩ := h
  exact ⟨s, ds, h1, h2.set2 r.1 r.2.1, h3, h4, h5⟩

theorem ps_step {w W w1 : World} {na nb : Bool} {oa ob : Option Addr} {ca cb : Nat} {ds es : List Int} (h : W.cell? ⟨w.heap.size, 0, none⟩ = some (.bool na) ∧ W.cell? ⟨w.heap.size, 1, none⟩ = some (.slice oa ds.length ca) ∧ W.cell? ⟨w.heap.size + 1, 0, none⟩ = some (.bool nb) ∧ W.cell? ⟨w.heap.size + 1, 1, none⟩ = some (.slice ob es.length cb) ∧ w.heap.size + 1 + 1 < W.heap.size ∧ Row W (.slice oa ds.length ca) ds ∧ Row W (.slice ob es.length cb) es ∧ Below w.heap.size w W) (hb : Below W.heap.size W w1) : w1.cell? ⟨w.heap.size, 0, none⟩ = some (.bool na) ∧ w1.cell? ⟨w.heap.size, 1, none⟩ = some (.slice oa ds.length ca) ∧ w1.cell? ⟨w.heap.size + 1, 0, none⟩ = some (.bool nb) ∧ w1.cell? ⟨w.heap.size + 1, 1, none⟩ = some (.slice ob es.length cb) ∧ w.heap.size + 1 + 1 < w1.heap.size ∧ Row w1 (.slice oa ds.length ca) ds ∧ Row w1 (.slice ob es.length cb) es ∧ Below w.heap.size w w1 := by
  obtain ⟨h1, h2, h3, h4, l, ra, rb, k⟩ := h
  have hs := hb.size
  exact ⟨keep hb (by omega) h1, keep hb (by omega) h2, keep hb (by omega) h3, keep hb (by omega) h4, by omega, ra.below hb, rb.below hb, below2 k (by omega) hb⟩
theorem ps_drew {w W : World} {na nb : Bool} {oa ob : Option Addr} {ca cb : Nat} {ds es : List Int} (h : W.cell? ⟨w.heap.size, 0, none⟩ = some (.bool na) ∧ W.cell? ⟨w.heap.size, 1, none⟩ = some (.slice oa ds.length ca) ∧ W.cell? ⟨w.heap.size + 1, 0, none⟩ = some (.bool nb) ∧ W.cell? ⟨w.heap.size + 1, 1, none⟩ = some (.slice ob es.length cb) ∧ w.heap.size + 1 + 1 < W.heap.size ∧ Row W (.slice oa ds.length ca) ds ∧ Row W (.slice ob es.length cb) es ∧ Below w.heap.size w W) : W.drew.cell? ⟨w.heap.size, 0, none⟩ = some (.bool na) ∧ W.drew.cell? ⟨w.heap.size, 1, none⟩ = some (.slice oa ds.length ca) ∧ W.drew.cell? ⟨w.heap.size + 1, 0, none⟩ = some (.bool nb) ∧ W.drew.cell? ⟨w.heap.size + 1, 1, none⟩ = some (.slice ob es.length cb) ∧ w.heap.size + 1 + 1 < W.drew.heap.size ∧ Row W.drew (.slice oa ds.length ca) ds ∧ Row W.drew (.slice ob es.length cb) es ∧ Below w.heap.size w W.drew := by
  obtain ⟨h1, h2, h3, h4, l, ra, rb, k⟩ := h
  exact ⟨h1, h2, h3, h4, l, ra.drew, rb.drew, k.drew⟩
theorem ps_start {w : World} {na nb : Bool} {oa ob : Option Addr} {ca cb : Nat} {ds es : List Int} (ra : Row w (.slice oa ds.length ca) ds) (rb : Row w (.slice ob es.length cb) es) :
    (((w.alloc (.cells #[.bool na, .slice oa ds.length ca] 44)).alloc (.cells #[.bool nb, .slice ob es.length cb] 44)).alloc (.cells #[.bool false, .slice none 0 0] 44)).cell? ⟨w.heap.size, 0, none⟩ = some (.bool na) ∧ (((w.alloc (.cells #[.bool na, .slice oa ds.length ca] 44)).alloc (.cells #[.bool nb, .slice ob es.length cb] 44)).alloc (.cells #[.bool false, .slice none 0 0] 44)).cell? ⟨w.heap.size, 1, none⟩ = some (.slice oa ds.length ca) ∧ (((w.alloc (.cells #[.bool na, .slice oa ds.length ca] 44)).alloc (.cells #[.bool nb, .slice ob es.length cb] 44)).alloc (.cells #[.bool false, .slice none 0 0] 44)).cell? ⟨w.heap.size + 1, 0, none⟩ = some (.bool nb) ∧ (((w.alloc (.cells #[.bool na, .slice oa ds.length ca] 44)).alloc (.cells #[.bool nb, .slice ob es.length cb] 44)).alloc (.cells #[.bool false, .slice none 0 0] 44)).cell? ⟨w.heap.size + 1, 1, none⟩ = some (.slice ob es.length cb) ∧ w.heap.size + 1 + 1 < (((w.alloc (.cells #[.bool na, .slice oa ds.length ca] 44)).alloc (.cells #[.bool nb, .slice ob es.length cb] 44)).alloc (.cells #[.bool false, .slice none 0 0] 44)).heap.size ∧ Row (((w.alloc (.cells #[.bool na, .slice oa ds.length ca] 44)).alloc (.cells #[.bool nb, .slice ob es.length cb] 44)).alloc (.cells #[.bool false, .slice none 0 0] 44)) (.slice oa ds.length ca) ds ∧ Row (((w.alloc (.cells #[.bool na, .slice oa ds.length ca] 44)).alloc (.cells #[.bool nb, .slice ob es.length cb] 44)).alloc (.cells #[.bool false, .slice none 0 0] 44)) (.slice ob es.length cb) es ∧ Below w.heap.size w (((w.alloc (.cells #[.bool na, .slice oa ds.length ca] 44)).alloc (.cells #[.bool nb, .slice ob es.length cb] 44)).alloc (.cells #[.bool false, .slice none 0 0] 44)) := by
  refine ⟨by simp [go_sem, World.cell?_alloc_past], by simp [go_sem, World.cell?_alloc_past], by simp [go_sem, World.cell?_alloc_past], by simp [go_sem, World.cell?_alloc_past], by simp, ((ra.alloc _).alloc _).alloc _, ((rb.alloc _).alloc _).alloc _, ?_⟩
  exact (((Below.refl _ _).alloc (Nat.le_refl _) _).alloc (by simp) _).alloc (by simp; omega) _
theorem ps_set {w W : World} {na nb : Bool} {oa ob : Option Addr} {ca cb : Nat} {ds es : List Int} {u v : Value} (h : W.cell? ⟨w.heap.size, 0, none⟩ = some (.bool na) ∧ W.cell? ⟨w.heap.size, 1, none⟩ = some (.slice oa ds.length ca) ∧ W.cell? ⟨w.heap.size + 1, 0, none⟩ = some (.bool nb) ∧ W.cell? ⟨w.heap.size + 1, 1, none⟩ = some (.slice ob es.length cb) ∧ w.heap.size + 1 + 1 < W.heap.size ∧ Row W (.slice oa ds.length ca) ds ∧ Row W (.slice ob es.length cb) es ∧ Below w.heap.size w W) (r : RC W (w.heap.size + 1 + 1)) :
    ((W.setCell ⟨w.heap.size + 1 + 1, 0, none⟩ u).setCell ⟨w.heap.size + 1 + 1, 1, none⟩ v).cell? ⟨w.heap.size, 0, none⟩ = some (.bool na) ∧ ((W.setCell ⟨w.heap.size + 1 + 1, 0, none⟩ u).setCell ⟨w.heap.size + 1 + 1, 1, none⟩ v).cell? ⟨w.heap.size, 1, none⟩ = some (.slice oa ds.length ca) ∧ ((W.setCell ⟨w.heap.size + 1 + 1, 0, none⟩ u).setCell ⟨w.heap.size + 1 + 1, 1, none⟩ v).cell? ⟨w.heap.size + 1, 0, none⟩ = some (.bool nb) ∧ ((W.setCell ⟨w.heap.size + 1 + 1, 0, none⟩ u).setCell ⟨w.heap.size + 1 + 1, 1, none⟩ v).cell? ⟨w.heap.size + 1, 1, none⟩ = some (.slice ob es.length cb) ∧ w.heap.size + 1 + 1 < ((W.setCell ⟨w.heap.size + 1 + 1, 0, none⟩ u).setCell ⟨w.heap.size + 1 + 1, 1, none⟩ v).heap.size ∧ Row ((W.setCell ⟨w.heap.size + 1 + 1, 0, none⟩ u).setCell ⟨w.heap.size + 1 + 1, 1, none⟩ v) (.slice oa ds.length ca) ds ∧ Row ((W.setCell ⟨w.heap.size + 1 + 1, 0, none⟩ u).setCell ⟨w.heap.size + 1 + 1, 1, none⟩ v) (.slice ob es.length cb) es ∧ Below w.heap.size w ((W.setCell ⟨w.heap.size + 1 + 1, 0, none⟩ u).setCell ⟨w.heap.size + 1 + 1, 1, none⟩ v) := by
  obtain ⟨h1, h2, h3, h4, l, ra, rb, k⟩ := h
  exact ⟨set2_other _ _ (by omega) h1, set2_other _ _ (by omega) h2, set2_other _ _ (by omega) h3, set2_other _ _ (by omega) h4, by simpa [World.setCell] using l, ra.set2 r.1 r.2.1, rb.set2 r.1 r.2.1, (k.setCell (by simp; omega) _).setCell (by simp; omega) _⟩
theorem ps_l {w W : World} {na nb : Bool} {oa ob : Option Addr} {ca cb : Nat} {ds es : List Int} (h : W.cell? ⟨w.heap.size, 0, none⟩ = some (.bool na) ∧ W.cell? ⟨w.heap.size, 1, none⟩ = some (.slice oa ds.length ca) ∧ W.cell? ⟨w.heap.size + 1, 0, none⟩ = some (.bool nb) ∧ W.cell? ⟨w.heap.size + 1, 1, none⟩ = some (.slice ob es.length cb) ∧ w.heap.size + 1 + 1 < W.heap.size ∧ Row W (.slice oa ds.length ca) ds ∧ Row W (.slice ob es.length cb) es ∧ Below w.heap.size w W) : w.heap.size + 1 + 1 < W.heap.size := h.2.2.2.2.1
theorem ps_ra {w W : World} {na nb : Bool} {oa ob : Option Addr} {ca cb : Nat} {ds es : List Int} (h : W.cell? ⟨w.heap.size, 0, none⟩ = some (.bool na) ∧ W.cell? ⟨w.heap.size, 1, none⟩ = some (.slice oa ds.length ca) ∧ W.cell? ⟨w.heap.size + 1, 0, none⟩ = some (.bool nb) ∧ W.cell? ⟨w.heap.size + 1, 1, none⟩ = some (.slice ob es.length cb) ∧ w.heap.size + 1 + 1 < W.heap.size ∧ Row W (.slice oa ds.length ca) ds ∧ Row W (.slice ob es.length cb) es ∧ Below w.heap.size w W) : Row W (.slice oa ds.length ca) ds := h.2.2.2.2.2.1
theorem ps_rb {w W : World} {na nb : Bool} {oa ob : Option Addr} {ca cb : Nat} {ds es : List Int} (h : W.cell? ⟨w.heap.size, 0, none⟩ = some (.bool na) ∧ W.cell? ⟨w.heap.size, 1, none⟩ = some (.slice oa ds.length ca) ∧ W.cell? ⟨w.heap.size + 1, 0, none⟩ = some (.bool nb) ∧ W.cell? ⟨w.heap.size + 1, 1, none⟩ = some (.slice ob es.length cb) ∧ w.heap.size + 1 + 1 < W.heap.size ∧ Row W (.slice oa ds.length ca) ds ∧ Row W (.slice ob es.length cb) es ∧ Below w.heap.size w W) : Row W (.slice ob es.length cb) es := h.2.2.2.2.2.2.1

set_option maxHeartbeats 2000000 in
theorem plus_same (n : Bool) (s t : Value) (ds es : List Int) (w : World) (hra0 : Row w s ds) (hrb0 : Row w t es) (hda : Dig ds) (hdb : Dig es) (la : ds.length ≤ 1000) (lb : es.length ≤ 1000) :
    Calls Try.prog 25 #[.agg #[.bool n, s], .agg #[.bool n, t]] w fun e w' => ∃ v, e = .returned v ∧ Wd w' v (turnI n (val ds + val es)) ∧ Below w.heap.size w w' := by
  obtain ⟨oa, ca, rfl, -, -, -, -⟩ := id hra0
  obtain ⟨ob, cb, rfl, -, -, -, -⟩ := id hrb0
  have hS := ps_start (na := n) (nb := n) hra0 hrb0
  have hR : RC (((w.alloc (.cells #[.bool n, .slice oa ds.length ca] 44)).alloc (.cells #[.bool n, .slice ob es.length cb] 44)).alloc (.cells #[.bool false, .slice none 0 0] 44)) (w.heap.size + 1 + 1) := ⟨by simp [go_sem], by simp [go_sem], by simp [go_sem], by simp [go_sem]⟩
  have hR2 : RC (((w.alloc (.cells #[.bool n, .slice oa ds.length ca] 44)).alloc (.cells #[.bool n, .slice ob es.length cb] 44)).alloc (.cells #[.bool false, .slice none 0 0] 44)).drew (w.heap.size + 1 + 1) := hR
  clear hR
  cases n
  · go_enter Try.func25, Try.ntmps25
    go_wp2_with fail
    go_region_held3 (fun w' => w'.cell? ⟨w.heap.size, 0, none⟩ = some (.bool false) ∧ w'.cell? ⟨w.heap.size, 1, none⟩ = some (.slice oa ds.length ca) ∧ w'.cell? ⟨w.heap.size + 1, 0, none⟩ = some (.bool false) ∧ w'.cell? ⟨w.heap.size + 1, 1, none⟩ = some (.slice ob es.length cb) ∧ w.heap.size + 1 + 1 < w'.heap.size ∧ Row w' (.slice oa ds.length ca) ds ∧ Row w' (.slice ob es.length cb) es ∧ Below w.heap.size w w') (first | assumption | exact ps_drew (by assumption) | exact ps_set (by assumption) (by assumption)) (first | (go_at_call 44; refine (rplus_any _ _ ds es _ (ps_ra (by assumption)) (ps_rb (by assumption)) hda hdb la lb).mono ?_; rintro e w1 ⟨v, rfl, os, hro, hdo, hvo, hlo, hb1⟩; have HV := Hid.mk hvo; clear hvo; have rc1 := RC.step (by assumption) (ps_l (by assumption)) hb1; have key := ps_step (by assumption) hb1; obtain ⟨oo, co, rfl, -, -, -, -⟩ := id hro; clear hb1) | (go_at_call 43; refine (trim_any _ _ os _ (by assumption) (by assumption)).mono ?_; rintro e w2 ⟨v, rfl, hwd, hb2⟩; have rc2 := RC.step rc1 (ps_l key) hb2; have key2 := ps_step key hb2; obtain ⟨s2, ds2, rfl, hr2, hd2, hc2, hv2⟩ := id hwd; obtain ⟨o2, c2, rfl, -, -, -, -⟩ := id hr2; obtain ⟨q0, q1, q2, q3⟩ := id rc2; clear hb2))
    all_goals
      have hfin : Wd ((w2.setCell ⟨w.heap.size + 1 + 1, 0, none⟩ (.bool (decide (turnI false (val os) < 0)))).setCell ⟨w.heap.size + 1 + 1, 1, none⟩ (.slice o2 ds2.length c2)) (.agg #[.bool (decide (turnI false (val os) < 0)), .slice o2 ds2.length c2]) (turnI false (val ds + val es)) := by
        have h := hwd.set2 (u := .bool (decide (turnI false (val os) < 0))) (v := .slice o2 ds2.length c2) rc2
        rw [HV.out] at h ⊢
        exact h
      have kfin := key2.2.2.2.2.2.2.2
      clear hwd key key2 rc1 rc2 hS
      go_wp2_with fail
      exact bodyPost_ret (v := .agg #[.bool (decide (turnI false (val os) < 0)), .slice o2 ds2.length c2]) (by simp [results, Try.results25, go_sem, q0, q1]) rfl ⟨_, rfl, hfin, (kfin.setCell (by simp; omega) _).setCell (by simp; omega) _⟩
  · go_enter Try.func25, Try.ntmps25
    go_wp2_with fail
    go_region_held3 (fun w' => w'.cell? ⟨w.heap.size, 0, none⟩ = some (.bool true) ∧ w'.cell? ⟨w.heap.size, 1, none⟩ = some (.slice oa ds.length ca) ∧ w'.cell? ⟨w.heap.size + 1, 0, none⟩ = some (.bool true) ∧ w'.cell? ⟨w.heap.size + 1, 1, none⟩ = some (.slice ob es.length cb) ∧ w.heap.size + 1 + 1 < w'.heap.size ∧ Row w' (.slice oa ds.length ca) ds ∧ Row w' (.slice ob es.length cb) es ∧ Below w.heap.size w w') (first | assumption | exact ps_drew (by assumption) | exact ps_set (by assumption) (by assumption)) (first | (go_at_call 44; refine (rplus_any _ _ ds es _ (ps_ra (by assumption)) (ps_rb (by assumption)) hda hdb la lb).mono ?_; rintro e w1 ⟨v, rfl, os, hro, hdo, hvo, hlo, hb1⟩; have HV := Hid.mk hvo; clear hvo; have rc1 := RC.step (by assumption) (ps_l (by assumption)) hb1; have key := ps_step (by assumption) hb1; obtain ⟨oo, co, rfl, -, -, -, -⟩ := id hro; clear hb1) | (go_at_call 43; refine (trim_any _ _ os _ (by assumption) (by assumption)).mono ?_; rintro e w2 ⟨v, rfl, hwd, hb2⟩; have rc2 := RC.step rc1 (ps_l key) hb2; have key2 := ps_step key hb2; obtain ⟨s2, ds2, rfl, hr2, hd2, hc2, hv2⟩ := id hwd; obtain ⟨o2, c2, rfl, -, -, -, -⟩ := id hr2; obtain ⟨q0, q1, q2, q3⟩ := id rc2; clear hb2))
    all_goals
      have hfin : Wd ((w2.setCell ⟨w.heap.size + 1 + 1, 0, none⟩ (.bool (decide (turnI true (val os) < 0)))).setCell ⟨w.heap.size + 1 + 1, 1, none⟩ (.slice o2 ds2.length c2)) (.agg #[.bool (decide (turnI true (val os) < 0)), .slice o2 ds2.length c2]) (turnI true (val ds + val es)) := by
        have h := hwd.set2 (u := .bool (decide (turnI true (val os) < 0))) (v := .slice o2 ds2.length c2) rc2
        rw [HV.out] at h ⊢
        exact h
      have kfin := key2.2.2.2.2.2.2.2
      clear hwd key key2 rc1 rc2 hS
      go_wp2_with fail
      exact bodyPost_ret (v := .agg #[.bool (decide (turnI true (val os) < 0)), .slice o2 ds2.length c2]) (by simp [results, Try.results25, go_sem, q0, q1]) rfl ⟨_, rfl, hfin, (kfin.setCell (by simp; omega) _).setCell (by simp; omega) _⟩

set_option maxHeartbeats 2000000 in
theorem plus_diff_ge_f (s t : Value) (ds es : List Int) (w : World) (hra0 : Row w s ds) (hrb0 : Row w t es) (hda : Dig ds) (hdb : Dig es) (cna : Canon ds) (cnb : Canon es) (la : ds.length ≤ 1000) (lb : es.length ≤ ds.length) (hge : val es ≤ val ds) :
    Calls Try.prog 25 #[.agg #[.bool false, s], .agg #[.bool true, t]] w fun e w' => ∃ v, e = .returned v ∧ Wd w' v (turnI false (val ds - val es)) ∧ Below w.heap.size w w' := by
  obtain ⟨oa, ca, rfl, -, -, -, -⟩ := id hra0
  obtain ⟨ob, cb, rfl, -, -, -, -⟩ := id hrb0
  have hS := ps_start (na := false) (nb := true) hra0 hrb0
  have hR : RC (((w.alloc (.cells #[.bool false, .slice oa ds.length ca] 44)).alloc (.cells #[.bool true, .slice ob es.length cb] 44)).alloc (.cells #[.bool false, .slice none 0 0] 44)) (w.heap.size + 1 + 1) := ⟨by simp [go_sem], by simp [go_sem], by simp [go_sem], by simp [go_sem]⟩
  have hcm : decide (0 ≤ cmpI (val ds) (val es)) = true := by simp; unfold cmpI; split <;> (try split) <;> omega
  go_enter Try.func25, Try.ntmps25
  go_wp2_with fail
  refine (rsize_any _ _ ds es _ (ps_ra hS) (ps_rb hS) hda hdb cna cnb).mono ?_
  rintro e w0 ⟨rfl, hb0⟩
  have rc0 : RC w0.drew (w.heap.size + 1 + 1) := RC.step hR (ps_l hS) hb0.drew
  have hS0 := ps_step hS hb0
  clear hb0 hR hS
  have hS := hS0
  clear hS0
  go_wp2_with fail
  go_region_held3 (fun w' => w'.cell? ⟨w.heap.size, 0, none⟩ = some (.bool false) ∧ w'.cell? ⟨w.heap.size, 1, none⟩ = some (.slice oa ds.length ca) ∧ w'.cell? ⟨w.heap.size + 1, 0, none⟩ = some (.bool true) ∧ w'.cell? ⟨w.heap.size + 1, 1, none⟩ = some (.slice ob es.length cb) ∧ w.heap.size + 1 + 1 < w'.heap.size ∧ Row w' (.slice oa ds.length ca) ds ∧ Row w' (.slice ob es.length cb) es ∧ Below w.heap.size w w') (first | assumption | exact ps_drew (by assumption) | exact ps_set (by assumption) (by assumption)) (first | (go_at_call 46; refine (rless_any _ _ ds es _ (ps_ra (by assumption)) (ps_rb (by assumption)) hda hdb la lb hge).mono ?_; rintro e w1 ⟨v, rfl, os, hro, hdo, hvo, hlo, hb1⟩; have HV := Hid.mk hvo; clear hvo; have rc1 := RC.step (by assumption) (ps_l (by assumption)) hb1; have key := ps_step (by assumption) hb1; obtain ⟨oo, co, rfl, -, -, -, -⟩ := id hro; clear hb1) | (go_at_call 43; refine (trim_any _ _ os _ (by assumption) (by assumption)).mono ?_; rintro e w2 ⟨v, rfl, hwd, hb2⟩; have rc2 := RC.step rc1 (ps_l key) hb2; have key2 := ps_step key hb2; obtain ⟨s2, ds2, rfl, hr2, hd2, hc2, hv2⟩ := id hwd; obtain ⟨o2, c2, rfl, -, -, -, -⟩ := id hr2; obtain ⟨q0, q1, q2, q3⟩ := id rc2; clear hb2))
  all_goals
    have hfin : Wd ((w2.setCell ⟨w.heap.size + 1 + 1, 0, none⟩ (.bool (decide (turnI false (val os) < 0)))).setCell ⟨w.heap.size + 1 + 1, 1, none⟩ (.slice o2 ds2.length c2)) (.agg #[.bool (decide (turnI false (val os) < 0)), .slice o2 ds2.length c2]) (turnI false (val ds - val es)) := by
      have h := hwd.set2 (u := .bool (decide (turnI false (val os) < 0))) (v := .slice o2 ds2.length c2) rc2
      rw [HV.out] at h ⊢
      exact h
    have kfin := key2.2.2.2.2.2.2.2
    clear hwd key key2 rc1 rc2 hS
    go_wp2_with fail
    exact bodyPost_ret (v := .agg #[.bool (decide (turnI false (val os) < 0)), .slice o2 ds2.length c2]) (by simp [results, Try.results25, go_sem, q0, q1]) rfl ⟨_, rfl, hfin, (kfin.setCell (by simp; omega) _).setCell (by simp; omega) _⟩

set_option maxHeartbeats 2000000 in
theorem plus_diff_ge_t (s t : Value) (ds es : List Int) (w : World) (hra0 : Row w s ds) (hrb0 : Row w t es) (hda : Dig ds) (hdb : Dig es) (cna : Canon ds) (cnb : Canon es) (la : ds.length ≤ 1000) (lb : es.length ≤ ds.length) (hge : val es ≤ val ds) :
    Calls Try.prog 25 #[.agg #[.bool true, s], .agg #[.bool false, t]] w fun e w' => ∃ v, e = .returned v ∧ Wd w' v (turnI true (val ds - val es)) ∧ Below w.heap.size w w' := by
  obtain ⟨oa, ca, rfl, -, -, -, -⟩ := id hra0
  obtain ⟨ob, cb, rfl, -, -, -, -⟩ := id hrb0
  have hS := ps_start (na := true) (nb := false) hra0 hrb0
  have hR : RC (((w.alloc (.cells #[.bool true, .slice oa ds.length ca] 44)).alloc (.cells #[.bool false, .slice ob es.length cb] 44)).alloc (.cells #[.bool false, .slice none 0 0] 44)) (w.heap.size + 1 + 1) := ⟨by simp [go_sem], by simp [go_sem], by simp [go_sem], by simp [go_sem]⟩
  have hcm : decide (0 ≤ cmpI (val ds) (val es)) = true := by simp; unfold cmpI; split <;> (try split) <;> omega
  go_enter Try.func25, Try.ntmps25
  go_wp2_with fail
  refine (rsize_any _ _ ds es _ (ps_ra hS) (ps_rb hS) hda hdb cna cnb).mono ?_
  rintro e w0 ⟨rfl, hb0⟩
  have rc0 : RC w0.drew (w.heap.size + 1 + 1) := RC.step hR (ps_l hS) hb0.drew
  have hS0 := ps_step hS hb0
  clear hb0 hR hS
  have hS := hS0
  clear hS0
  go_wp2_with fail
  go_region_held3 (fun w' => w'.cell? ⟨w.heap.size, 0, none⟩ = some (.bool true) ∧ w'.cell? ⟨w.heap.size, 1, none⟩ = some (.slice oa ds.length ca) ∧ w'.cell? ⟨w.heap.size + 1, 0, none⟩ = some (.bool false) ∧ w'.cell? ⟨w.heap.size + 1, 1, none⟩ = some (.slice ob es.length cb) ∧ w.heap.size + 1 + 1 < w'.heap.size ∧ Row w' (.slice oa ds.length ca) ds ∧ Row w' (.slice ob es.length cb) es ∧ Below w.heap.size w w') (first | assumption | exact ps_drew (by assumption) | exact ps_set (by assumption) (by assumption)) (first | (go_at_call 46; refine (rless_any _ _ ds es _ (ps_ra (by assumption)) (ps_rb (by assumption)) hda hdb la lb hge).mono ?_; rintro e w1 ⟨v, rfl, os, hro, hdo, hvo, hlo, hb1⟩; have HV := Hid.mk hvo; clear hvo; have rc1 := RC.step (by assumption) (ps_l (by assumption)) hb1; have key := ps_step (by assumption) hb1; obtain ⟨oo, co, rfl, -, -, -, -⟩ := id hro; clear hb1) | (go_at_call 43; refine (trim_any _ _ os _ (by assumption) (by assumption)).mono ?_; rintro e w2 ⟨v, rfl, hwd, hb2⟩; have rc2 := RC.step rc1 (ps_l key) hb2; have key2 := ps_step key hb2; obtain ⟨s2, ds2, rfl, hr2, hd2, hc2, hv2⟩ := id hwd; obtain ⟨o2, c2, rfl, -, -, -, -⟩ := id hr2; obtain ⟨q0, q1, q2, q3⟩ := id rc2; clear hb2))
  all_goals
    have hfin : Wd ((w2.setCell ⟨w.heap.size + 1 + 1, 0, none⟩ (.bool (decide (turnI true (val os) < 0)))).setCell ⟨w.heap.size + 1 + 1, 1, none⟩ (.slice o2 ds2.length c2)) (.agg #[.bool (decide (turnI true (val os) < 0)), .slice o2 ds2.length c2]) (turnI true (val ds - val es)) := by
      have h := hwd.set2 (u := .bool (decide (turnI true (val os) < 0))) (v := .slice o2 ds2.length c2) rc2
      rw [HV.out] at h ⊢
      exact h
    have kfin := key2.2.2.2.2.2.2.2
    clear hwd key key2 rc1 rc2 hS
    go_wp2_with fail
    exact bodyPost_ret (v := .agg #[.bool (decide (turnI true (val os) < 0)), .slice o2 ds2.length c2]) (by simp [results, Try.results25, go_sem, q0, q1]) rfl ⟨_, rfl, hfin, (kfin.setCell (by simp; omega) _).setCell (by simp; omega) _⟩

set_option maxHeartbeats 2000000 in
theorem plus_diff_lt_f (s t : Value) (ds es : List Int) (w : World) (hra0 : Row w s ds) (hrb0 : Row w t es) (hda : Dig ds) (hdb : Dig es) (cna : Canon ds) (cnb : Canon es) (la : es.length ≤ 1000) (lb : ds.length ≤ es.length) (hge : val ds < val es) :
    Calls Try.prog 25 #[.agg #[.bool false, s], .agg #[.bool true, t]] w fun e w' => ∃ v, e = .returned v ∧ Wd w' v (turnI true (val es - val ds)) ∧ Below w.heap.size w w' := by
  obtain ⟨oa, ca, rfl, -, -, -, -⟩ := id hra0
  obtain ⟨ob, cb, rfl, -, -, -, -⟩ := id hrb0
  have hS := ps_start (na := false) (nb := true) hra0 hrb0
  have hR : RC (((w.alloc (.cells #[.bool false, .slice oa ds.length ca] 44)).alloc (.cells #[.bool true, .slice ob es.length cb] 44)).alloc (.cells #[.bool false, .slice none 0 0] 44)) (w.heap.size + 1 + 1) := ⟨by simp [go_sem], by simp [go_sem], by simp [go_sem], by simp [go_sem]⟩
  have hcm : decide (0 ≤ cmpI (val ds) (val es)) = false := by simp; rw [cmp_of_lt hge]; omega
  go_enter Try.func25, Try.ntmps25
  go_wp2_with fail
  refine (rsize_any _ _ ds es _ (ps_ra hS) (ps_rb hS) hda hdb cna cnb).mono ?_
  rintro e w0 ⟨rfl, hb0⟩
  have rc0 : RC w0.drew (w.heap.size + 1 + 1) := RC.step hR (ps_l hS) hb0.drew
  have hS0 := ps_step hS hb0
  clear hb0 hR hS
  have hS := hS0
  clear hS0
  go_wp2_with fail
  go_region_held3 (fun w' => w'.cell? ⟨w.heap.size, 0, none⟩ = some (.bool false) ∧ w'.cell? ⟨w.heap.size, 1, none⟩ = some (.slice oa ds.length ca) ∧ w'.cell? ⟨w.heap.size + 1, 0, none⟩ = some (.bool true) ∧ w'.cell? ⟨w.heap.size + 1, 1, none⟩ = some (.slice ob es.length cb) ∧ w.heap.size + 1 + 1 < w'.heap.size ∧ Row w' (.slice oa ds.length ca) ds ∧ Row w' (.slice ob es.length cb) es ∧ Below w.heap.size w w') (first | assumption | exact ps_drew (by assumption) | exact ps_set (by assumption) (by assumption)) (first | (go_at_call 46; refine (rless_any _ _ es ds _ (ps_rb (by assumption)) (ps_ra (by assumption)) hdb hda la lb (by omega)).mono ?_; rintro e w1 ⟨v, rfl, os, hro, hdo, hvo, hlo, hb1⟩; have HV := Hid.mk hvo; clear hvo; have rc1 := RC.step (by assumption) (ps_l (by assumption)) hb1; have key := ps_step (by assumption) hb1; obtain ⟨oo, co, rfl, -, -, -, -⟩ := id hro; clear hb1) | (go_at_call 43; refine (trim_any _ _ os _ (by assumption) (by assumption)).mono ?_; rintro e w2 ⟨v, rfl, hwd, hb2⟩; have rc2 := RC.step rc1 (ps_l key) hb2; have key2 := ps_step key hb2; obtain ⟨s2, ds2, rfl, hr2, hd2, hc2, hv2⟩ := id hwd; obtain ⟨o2, c2, rfl, -, -, -, -⟩ := id hr2; obtain ⟨q0, q1, q2, q3⟩ := id rc2; clear hb2))
  all_goals
    have hfin : Wd ((w2.setCell ⟨w.heap.size + 1 + 1, 0, none⟩ (.bool (decide (turnI true (val os) < 0)))).setCell ⟨w.heap.size + 1 + 1, 1, none⟩ (.slice o2 ds2.length c2)) (.agg #[.bool (decide (turnI true (val os) < 0)), .slice o2 ds2.length c2]) (turnI true (val es - val ds)) := by
      have h := hwd.set2 (u := .bool (decide (turnI true (val os) < 0))) (v := .slice o2 ds2.length c2) rc2
      rw [HV.out] at h ⊢
      exact h
    have kfin := key2.2.2.2.2.2.2.2
    clear hwd key key2 rc1 rc2 hS
    go_wp2_with fail
    exact bodyPost_ret (v := .agg #[.bool (decide (turnI true (val os) < 0)), .slice o2 ds2.length c2]) (by simp [results, Try.results25, go_sem, q0, q1]) rfl ⟨_, rfl, hfin, (kfin.setCell (by simp; omega) _).setCell (by simp; omega) _⟩

set_option maxHeartbeats 2000000 in
theorem plus_diff_lt_t (s t : Value) (ds es : List Int) (w : World) (hra0 : Row w s ds) (hrb0 : Row w t es) (hda : Dig ds) (hdb : Dig es) (cna : Canon ds) (cnb : Canon es) (la : es.length ≤ 1000) (lb : ds.length ≤ es.length) (hge : val ds < val es) :
    Calls Try.prog 25 #[.agg #[.bool true, s], .agg #[.bool false, t]] w fun e w' => ∃ v, e = .returned v ∧ Wd w' v (turnI false (val es - val ds)) ∧ Below w.heap.size w w' := by
  obtain ⟨oa, ca, rfl, -, -, -, -⟩ := id hra0
  obtain ⟨ob, cb, rfl, -, -, -, -⟩ := id hrb0
  have hS := ps_start (na := true) (nb := false) hra0 hrb0
  have hR : RC (((w.alloc (.cells #[.bool true, .slice oa ds.length ca] 44)).alloc (.cells #[.bool false, .slice ob es.length cb] 44)).alloc (.cells #[.bool false, .slice none 0 0] 44)) (w.heap.size + 1 + 1) := ⟨by simp [go_sem], by simp [go_sem], by simp [go_sem], by simp [go_sem]⟩
  have hcm : decide (0 ≤ cmpI (val ds) (val es)) = false := by simp; rw [cmp_of_lt hge]; omega
  go_enter Try.func25, Try.ntmps25
  go_wp2_with fail
  refine (rsize_any _ _ ds es _ (ps_ra hS) (ps_rb hS) hda hdb cna cnb).mono ?_
  rintro e w0 ⟨rfl, hb0⟩
  have rc0 : RC w0.drew (w.heap.size + 1 + 1) := RC.step hR (ps_l hS) hb0.drew
  have hS0 := ps_step hS hb0
  clear hb0 hR hS
  have hS := hS0
  clear hS0
  go_wp2_with fail
  go_region_held3 (fun w' => w'.cell? ⟨w.heap.size, 0, none⟩ = some (.bool true) ∧ w'.cell? ⟨w.heap.size, 1, none⟩ = some (.slice oa ds.length ca) ∧ w'.cell? ⟨w.heap.size + 1, 0, none⟩ = some (.bool false) ∧ w'.cell? ⟨w.heap.size + 1, 1, none⟩ = some (.slice ob es.length cb) ∧ w.heap.size + 1 + 1 < w'.heap.size ∧ Row w' (.slice oa ds.length ca) ds ∧ Row w' (.slice ob es.length cb) es ∧ Below w.heap.size w w') (first | assumption | exact ps_drew (by assumption) | exact ps_set (by assumption) (by assumption)) (first | (go_at_call 46; refine (rless_any _ _ es ds _ (ps_rb (by assumption)) (ps_ra (by assumption)) hdb hda la lb (by omega)).mono ?_; rintro e w1 ⟨v, rfl, os, hro, hdo, hvo, hlo, hb1⟩; have HV := Hid.mk hvo; clear hvo; have rc1 := RC.step (by assumption) (ps_l (by assumption)) hb1; have key := ps_step (by assumption) hb1; obtain ⟨oo, co, rfl, -, -, -, -⟩ := id hro; clear hb1) | (go_at_call 43; refine (trim_any _ _ os _ (by assumption) (by assumption)).mono ?_; rintro e w2 ⟨v, rfl, hwd, hb2⟩; have rc2 := RC.step rc1 (ps_l key) hb2; have key2 := ps_step key hb2; obtain ⟨s2, ds2, rfl, hr2, hd2, hc2, hv2⟩ := id hwd; obtain ⟨o2, c2, rfl, -, -, -, -⟩ := id hr2; obtain ⟨q0, q1, q2, q3⟩ := id rc2; clear hb2))
  all_goals
    have hfin : Wd ((w2.setCell ⟨w.heap.size + 1 + 1, 0, none⟩ (.bool (decide (turnI false (val os) < 0)))).setCell ⟨w.heap.size + 1 + 1, 1, none⟩ (.slice o2 ds2.length c2)) (.agg #[.bool (decide (turnI false (val os) < 0)), .slice o2 ds2.length c2]) (turnI false (val es - val ds)) := by
      have h := hwd.set2 (u := .bool (decide (turnI false (val os) < 0))) (v := .slice o2 ds2.length c2) rc2
      rw [HV.out] at h ⊢
      exact h
    have kfin := key2.2.2.2.2.2.2.2
    clear hwd key key2 rc1 rc2 hS
    go_wp2_with fail
    exact bodyPost_ret (v := .agg #[.bool (decide (turnI false (val os) < 0)), .slice o2 ds2.length c2]) (by simp [results, Try.results25, go_sem, q0, q1]) rfl ⟨_, rfl, hfin, (kfin.setCell (by simp; omega) _).setCell (by simp; omega) _⟩

end Go.Proofs.Ytdfccjhmpgoacaa.Big
