/- What is done to one, by closures; pass; Run, Load, Block, Preempt, Cache. -/
/- What in tells, cases. -/
import Derived.Test.YtjgclehghnmhnaaDoorLfK
import Derived.Deep.RegionHeld3
import Derived.Test.YtjgclehghnmhnaaDoorJ02LCopies
namespace Go.Proofs.YtjgclehghnmhnaaDoor
open Go Go.RowKit

/-- What is left, where the step may follow. -/
theorem opS_eq {s : Nat} {chk : Ac → Int} {f : Ac → Ac} {σ : Sta} {i : Int} {a : Ac} (hf : fndA σ.xs i = some a) (hb : folB s a.st = true) : opS s chk f σ i = if chk a = 0 then { σ with xs := insA (f a) σ.xs } else σ := by
  unfold opS opX
  rw [hf]
  dsimp only
  by_cases h : chk a = 0
  · rw [if_pos h, if_pos (by simp [hb, h])]
  · rw [if_neg h, if_neg (by simp [h])]
theorem opS_no {s : Nat} {chk : Ac → Int} {f : Ac → Ac} {σ : Sta} {i : Int} {a : Ac} (hf : fndA σ.xs i = some a) (hb : folB s a.st = false) : opS s chk f σ i = σ := by
  unfold opS opX
  rw [hf]
  dsimp only
  rw [if_neg (by simp [hb])]
theorem opS_none {s : Nat} {chk : Ac → Int} {f : Ac → Ac} {σ : Sta} {i : Int} (hf : fndA σ.xs i = none) : opS s chk f σ i = σ := by
  unfold opS opX
  rw [hf]

section
variable {w : World} {B S G M N : Nat} {pb : Int → Nat} {σ : Sta}
/-- One has turned, by a step. -/
theorem TM.did (h : TM w B S G M N pb σ) {s : Nat} {chk : Ac → Int} {f : Ac → Ac} (g : Good s chk f σ.xs) {a : Ac} (ha : a ∈ σ.xs) (hb : folB s a.st = true) (h0 : chk a = 0) {w' : World} (hB : But [pb a.id] w w') (hc : Cel w' (pb a.id) (acA (f a)) 44) :
    TM w' B S G M N pb { σ with xs := insA (f a) σ.xs } ∧ bT B S G M pb (insA (f a) σ.xs) = bT B S G M pb σ.xs := by
  have ok := h.ok.op g a.id
  rw [opS_eq (fnd_mem h.ok.srt ha) hb, if_pos h0] at ok
  exact h.upd ha (g.id a) hB hc ok

set_option maxHeartbeats 400000 in
set_option maxRecDepth 100000 in
theorem lodD (h : TM w B S G M N pb σ) {a : Ac} (ha : a ∈ σ.xs) (hb : folB 2 a.st = true) {X : Nat} {t : Int} (hX : w.cell? ⟨X, 0, none⟩ = some (.int .i64 t)) :
    Calls Tryd.prog 49 #[.pointer (some ⟨pb a.id, 0, none⟩), .pointer (some ⟨X, 0, none⟩)] w fun e w' => e = .returned (.int .i64 (lodK t a)) ∧ TM w' B S G M N pb (if lodK t a = 0 then { σ with xs := insA (lodF t a) σ.xs } else σ) ∧ But [pb a.id] w w' := by
  have hc := h.a a ha
  have HD : ∀ W, lodK t a = 0 → But [pb a.id] w W → Cel W (pb a.id) (acA (lodF t a)) 44 → TM W B S G M N pb { σ with xs := insA (lodF t a) σ.xs } := fun W h0 hB hC => (h.did (good_lod _ t) ha hb h0 hB hC).1
  have f4 := hc.fz 4
  have c4 : w.cell? ⟨pb a.id, 4, none⟩ = some (.int .i64 a.th) := hc.cell (j := 4) rfl
  unfold lodK at HD ⊢
  by_cases ht : t < 0
  · rw [if_pos ht, if_neg (by decide)]
    clear HD
    go_enter Tryd.func49, Tryd.ntmps49
    go_wp2_with fail
    go_ret
    exact ⟨rfl, h, But.refl _ _⟩
  · rw [if_neg ht, if_pos rfl]
    have HN := HD (w.setCell ⟨pb a.id, 4, none⟩ (.int .i64 t)) (if_neg ht) ((But.refl _ w).set (p := ⟨pb a.id, 4, none⟩) (by simp) _) (hc.set (j := 4) _)
    clear HD
    go_enter Tryd.func49, Tryd.ntmps49
    go_wp2_with fail
    go_ret
    exact ⟨rfl, HN, (But.refl _ w).set (p := ⟨pb a.id, 4, none⟩) (by simp) _⟩

set_option maxHeartbeats 400000 in
set_option maxRecDepth 100000 in
theorem blkD (h : TM w B S G M N pb σ) {a : Ac} (ha : a ∈ σ.xs) (hb : folB 4 a.st = true) :
    Calls Tryd.prog 50 #[.pointer (some ⟨pb a.id, 0, none⟩)] w fun e w' => e = .returned (.int .i64 (blkK a)) ∧ TM w' B S G M N pb (if blkK a = 0 then { σ with xs := insA (blkF a) σ.xs } else σ) ∧ But [pb a.id] w w' := by
  have hc := h.a a ha
  have HD : ∀ W, blkK a = 0 → But [pb a.id] w W → Cel W (pb a.id) (acA (blkF a)) 44 → TM W B S G M N pb { σ with xs := insA (blkF a) σ.xs } := fun W h0 hB hC => (h.did (good_blk _) ha hb h0 hB hC).1
  have f1 := hc.fz 1
  have f3 := hc.fz 3
  have c1 : w.cell? ⟨pb a.id, 1, none⟩ = some (.int .i64 a.st) := hc.cell (j := 1) rfl
  have c3 : w.cell? ⟨pb a.id, 3, none⟩ = some (.int .i64 a.co) := hc.cell (j := 3) rfl
  have c4 : w.cell? ⟨pb a.id, 4, none⟩ = some (.int .i64 a.th) := hc.cell (j := 4) rfl
  unfold blkK at HD ⊢
  by_cases ht : a.th = 0
  · rw [if_pos ht, if_neg (by decide)]
    have ht' : (a.th == 0) = true := by simpa using ht
    clear HD ht
    go_enter Tryd.func50, Tryd.ntmps50
    go_wp2_with fail
    go_ret
    exact ⟨rfl, h, But.refl _ _⟩
  · rw [if_neg ht, if_pos rfl]
    have ht' : (a.th == 0) = false := by simpa using ht
    have hB : But [pb a.id] w ((w.setCell ⟨pb a.id, 1, none⟩ (.int .i64 3)).setCell ⟨pb a.id, 3, none⟩ (.int .i64 (-1))) := ((But.refl _ w).set (p := ⟨pb a.id, 1, none⟩) (by simp) _).set (p := ⟨pb a.id, 3, none⟩) (by simp) _
    have HN := HD _ (if_neg ht) hB ((hc.set (j := 1) _).set (j := 3) _)
    clear HD ht
    go_enter Tryd.func50, Tryd.ntmps50
    go_wp2_with fail
    go_ret
    exact ⟨rfl, HN, hB⟩

set_option maxHeartbeats 400000 in
set_option maxRecDepth 100000 in
theorem runD (h : TM w B S G M N pb σ) {a : Ac} (ha : a ∈ σ.xs) (hb : folB 1 a.st = true) {X Y : Nat} {c : Int} (hX : w.cell? ⟨X, 0, none⟩ = some (.int .i64 c)) (hY : w.cell? ⟨Y, 0, none⟩ = some (.pointer (some ⟨B, 0, none⟩))) :
    Calls Tryd.prog 47 #[.pointer (some ⟨pb a.id, 0, none⟩), .pointer (some ⟨X, 0, none⟩), .pointer (some ⟨Y, 0, none⟩)] w fun e w' => e = .returned (.int .i64 (runK σ.xs c a)) ∧ TM w' B S G M N pb (if runK σ.xs c a = 0 then { σ with xs := insA (runF c a) σ.xs } else σ) ∧ But [pb a.id] w w' := by
  have hc := h.a a ha
  have HD : ∀ W, runK σ.xs c a = 0 → But [pb a.id] w W → Cel W (pb a.id) (acA (runF c a)) 44 → TM W B S G M N pb { σ with xs := insA (runF c a) σ.xs } := fun W h0 hB hC => (h.did (good_run _ c) ha hb h0 hB hC).1
  have hZ := busy_any h c
  unfold runK at HD ⊢
  by_cases h1 : c < 0 ∨ 64 ≤ c
  · rw [if_pos h1, if_neg (by decide)]
    clear HD hZ
    by_cases h2 : c < 0
    · go_enter Tryd.func47, Tryd.ntmps47
      go_wp2_with fail
      go_ret
      exact ⟨rfl, h, But.refl _ _⟩
    · have h3 : 64 ≤ c := by omega
      clear h1
      go_enter Tryd.func47, Tryd.ntmps47
      go_wp2_with fail
      go_ret
      exact ⟨rfl, h, But.refl _ _⟩
  · rw [if_neg h1]
    have h2 : ¬ c < 0 := by omega
    have h3 : ¬ 64 ≤ c := by omega
    cases hz : busyB σ.xs c
    · rw [hz] at hZ
      have HD := fun W => HD W (by rw [if_neg h1, hz]; rfl)
      rw [if_neg (by simp), if_pos rfl]
      clear h1 hz
      have HK : ∀ W, Below w.heap.size w W → W.cell? ⟨X, 0, none⟩ = some (.int .i64 c) ∧ W.cell? ⟨pb a.id, 1, none⟩ = some (.int .i64 a.st) ∧ W.cell? ⟨pb a.id, 3, none⟩ = some (.int .i64 a.co) ∧ W.frozen? ⟨pb a.id, 1, none⟩ = false ∧ W.frozen? ⟨pb a.id, 3, none⟩ = false ∧ But [pb a.id] w ((W.setCell ⟨pb a.id, 1, none⟩ (.int .i64 2)).setCell ⟨pb a.id, 3, none⟩ (.int .i64 c)) ∧ TM ((W.setCell ⟨pb a.id, 1, none⟩ (.int .i64 2)).setCell ⟨pb a.id, 3, none⟩ (.int .i64 c)) B S G M N pb { σ with xs := insA (runF c a) σ.xs } := fun W hB => by
        have hcW := hc.below hB
        have hb2 : But [pb a.id] w ((W.setCell ⟨pb a.id, 1, none⟩ (.int .i64 2)).setCell ⟨pb a.id, 3, none⟩ (.int .i64 c)) := ((But.of_below hB).set (p := ⟨pb a.id, 1, none⟩) (by simp) _).set (p := ⟨pb a.id, 3, none⟩) (by simp) _
        exact ⟨cell_on hB hX, hcW.cell (j := 1) rfl, hcW.cell (j := 3) rfl, hcW.fz 1, hcW.fz 3, hb2, HD _ hb2 ((hcW.set (j := 1) _).set (j := 3) _)⟩
      clear HD
      go_enter Tryd.func47, Tryd.ntmps47
      go_upto_region 5 with (go_at_call 48; refine hZ.mono ?_; rintro e w1 ⟨rfl, hB1⟩; obtain ⟨x1, x2, x3, x4, x5, x6, x7⟩ := HK w1 hB1)
      have y2 : (w1.setCell ⟨pb a.id, 1, none⟩ (.int .i64 2)).cell? ⟨pb a.id, 3, none⟩ = some (.int .i64 a.co) := by rw [World.cell?_setCell_other _ _ _ _ (by simp)]; exact x3
      have y4 : (w1.setCell ⟨pb a.id, 1, none⟩ (.int .i64 2)).frozen? ⟨pb a.id, 3, none⟩ = false := (World.frozen?_setCell _ _ _ _).trans x5
      go_region
      go_wp2_with fail
      go_ret
      exact ⟨rfl, x7.drew, x6.drew⟩
    · rw [hz] at hZ
      rw [if_pos rfl, if_neg (by decide)]
      clear h1 hz HD
      go_enter Tryd.func47, Tryd.ntmps47
      go_wp2_with (go_at_call 48; refine hZ.mono ?_; rintro e w1 ⟨rfl, hB1⟩)
      go_ret
      exact ⟨rfl, h.below hB1, .of_below hB1⟩

set_option maxHeartbeats 400000 in
set_option maxRecDepth 100000 in
theorem preD (h : TM w B S G M N pb σ) {a : Ac} (ha : a ∈ σ.xs) (hb : folB 8 a.st = true) {X : Nat} {c : Cx} (hX : w.rangeAt X 0 (cxl c)) (hne : X ≠ pb a.id) :
    Calls Tryd.prog 51 #[.pointer (some ⟨pb a.id, 0, none⟩), .pointer (some ⟨X, 0, none⟩)] w fun e w' => e = .returned (.int .i64 (noK a)) ∧ TM w' B S G M N pb (if noK a = 0 then { σ with xs := insA (preF c a) σ.xs } else σ) ∧ But [pb a.id] w w' := by
  have hc := h.a a ha
  have HD : ∀ W, noK a = 0 → But [pb a.id] w W → Cel W (pb a.id) (acA (preF c a)) 44 → TM W B S G M N pb { σ with xs := insA (preF c a) σ.xs } := fun W h0 hB hC => (h.did (good_pre _ c) ha hb h0 hB hC).1
  have f1 := hc.fz 1
  have c1 : w.cell? ⟨pb a.id, 1, none⟩ = some (.int .i64 a.st) := hc.cell (j := 1) rfl
  have h1 : Cel (w.setCell ⟨pb a.id, 1, none⟩ (.int .i64 4)) (pb a.id) (acA { a with st := 4 }) 44 := hc.set (j := 1) (.int .i64 4)
  have f3 := h1.fz 3
  have c3 : (w.setCell ⟨pb a.id, 1, none⟩ (.int .i64 4)).cell? ⟨pb a.id, 3, none⟩ = some (.int .i64 a.co) := h1.cell (j := 3) rfl
  have h2 : Cel ((w.setCell ⟨pb a.id, 1, none⟩ (.int .i64 4)).setCell ⟨pb a.id, 3, none⟩ (.int .i64 (-1))) (pb a.id) (acA { a with st := 4, co := -1 }) 44 := h1.set (j := 3) (.int .i64 (-1))
  have h2d : Cel ((w.setCell ⟨pb a.id, 1, none⟩ (.int .i64 4)).setCell ⟨pb a.id, 3, none⟩ (.int .i64 (-1))).drew (pb a.id) (acA { a with st := 4, co := -1 }) 44 := h2
  have ht := h2d.there5
  have hB1 : But [pb a.id] w (w.setCell ⟨pb a.id, 1, none⟩ (.int .i64 4)) := (But.refl _ w).set (p := ⟨pb a.id, 1, none⟩) (by simp) _
  have hB2 : But [pb a.id] w ((w.setCell ⟨pb a.id, 1, none⟩ (.int .i64 4)).setCell ⟨pb a.id, 3, none⟩ (.int .i64 (-1))) := hB1.set (p := ⟨pb a.id, 3, none⟩) (by simp) _
  have hB3 := hB2.drew.trans (But.setCells (cxl c) 5 _)
  have HN := HD _ rfl hB3 (h2d.pre c)
  have X1 : (w.setCell ⟨pb a.id, 1, none⟩ (.int .i64 4)).rangeAt X 0 (cxl c) := range_but hX hB1 (by simpa using hne)
  have X2 : ((w.setCell ⟨pb a.id, 1, none⟩ (.int .i64 4)).setCell ⟨pb a.id, 3, none⟩ (.int .i64 (-1))).rangeAt X 0 (cxl c) := range_but hX hB2 (by simpa using hne)
  have X3 := range_but hX hB3 (by simpa using hne)
  unfold noK
  rw [if_pos rfl]
  clear HD h1 h2 h2d hc hB1 hB2
  go_enter Tryd.func51, Tryd.ntmps51
  go_upto_region 1 with fail
  refine wp_region_held_drew (S := (fun w' : World => w'.rangeAt X 0 (cxl c))) (by kernel_rfl) (by exact hX) (fun hHeld => ?_)
  refine anyH_take (i := 0) (v := ?_) (some 4) rfl rfl (by kernel_rfl) (fun _ _ _ h => h) (Or.inl ⟨by rfl, ?_⟩) (by assumption) ?_
  rotate_left
  · (intro w hSw; go_simp; all_goals with_reducible rfl)
  try simp only [Act.put, List.setIfInBounds_toArray, List.set_cons_zero, List.set_cons_succ]
  refine anyH_take (i := 1) (v := ?_) (some 5) rfl rfl (by kernel_rfl) (fun _ _ _ h => h) (Or.inl ⟨by rfl, ?_⟩) (by assumption) ?_
  rotate_left
  · (intro w hSw; go_simp; all_goals with_reducible rfl)
  try simp only [Act.put, List.setIfInBounds_toArray, List.set_cons_zero, List.set_cons_succ]
  refine anyH_take (i := 2) (v := ?_) (some 6) rfl rfl (by kernel_rfl) (fun _ _ _ h => h) (Or.inl ⟨by rfl, ?_⟩) (by assumption) ?_
  rotate_left
  · (intro w hSw; go_simp; all_goals with_reducible rfl)
  try simp only [Act.put, List.setIfInBounds_toArray, List.set_cons_zero, List.set_cons_succ]
  refine anyH_take (i := 3) (v := .agg (cxl c).toArray) (some 7) rfl rfl (by kernel_rfl) (fun _ _ _ h => h) (yieldsIf_load_mid (by rfl) 30 (.tmp 1) rfl _ 0 rfl (cxl c) _ (fun w hSw => hSw) Tryd.underlying30 rfl sizeCx) (by assumption) ?_
  try simp only [Act.put, List.setIfInBounds_toArray, List.set_cons_zero, List.set_cons_succ]
  refine anyH_take (i := 4) (v := ?_) (some 8) rfl rfl (by kernel_rfl) (fun _ _ _ h => h) (Or.inl ⟨by rfl, ?_⟩) (by assumption) ?_
  rotate_left
  · (intro w hSw; go_simp; all_goals with_reducible rfl)
  try simp only [Act.put, List.setIfInBounds_toArray, List.set_cons_zero, List.set_cons_succ]
  refine anyH_take (i := 5) (v := ?_) (some 9) rfl rfl (by kernel_rfl) (fun _ _ _ h => h) (Or.inl ⟨by rfl, ?_⟩) (by assumption) ?_
  rotate_left
  · (intro w hSw; go_simp; all_goals with_reducible rfl)
  try simp only [Act.put, List.setIfInBounds_toArray, List.set_cons_zero, List.set_cons_succ]
  refine anyH_one (i := 6) (by kernel_rfl) rfl (fun K hK => ?_)
  go_simp
  refine hK.out _ _ X1 (fun hHeld => ?_)
  clear hK K
  try simp only [Act.put, List.setIfInBounds_toArray, List.set_cons_zero, List.set_cons_succ]
  refine anyH_take (i := 7) (v := ?_) (some 10) rfl rfl (by kernel_rfl) (fun _ _ _ h => h) (Or.inl ⟨by rfl, ?_⟩) (by assumption) ?_
  rotate_left
  · (intro w hSw; go_simp; all_goals with_reducible rfl)
  try simp only [Act.put, List.setIfInBounds_toArray, List.set_cons_zero, List.set_cons_succ]
  refine anyH_take (i := 8) (v := ?_) (some 11) rfl rfl (by kernel_rfl) (fun _ _ _ h => h) (Or.inl ⟨by rfl, ?_⟩) (by assumption) ?_
  rotate_left
  · (intro w hSw; go_simp; all_goals with_reducible rfl)
  try simp only [Act.put, List.setIfInBounds_toArray, List.set_cons_zero, List.set_cons_succ]
  refine anyH_one (i := 9) (by kernel_rfl) rfl (fun K hK => ?_)
  go_simp
  refine hK.out _ _ X2 (fun hHeld => ?_)
  clear hK K
  try simp only [Act.put, List.setIfInBounds_toArray, List.set_cons_zero, List.set_cons_succ]
  refine anyH_take (i := 10) (v := ?_) (some 12) rfl rfl (by kernel_rfl) (fun _ _ _ h => h) (Or.inl ⟨by rfl, ?_⟩) (by assumption) ?_
  rotate_left
  · (intro w hSw; go_simp; all_goals with_reducible rfl)
  try simp only [Act.put, List.setIfInBounds_toArray, List.set_cons_zero, List.set_cons_succ]
  refine anyH_take (i := 11) (v := ?_) (some 13) rfl rfl (by kernel_rfl) (fun _ _ _ h => h) (Or.inl ⟨by rfl, ?_⟩) (by assumption) ?_
  rotate_left
  · (intro w hSw; go_simp; all_goals with_reducible rfl)
  try simp only [Act.put, List.setIfInBounds_toArray, List.set_cons_zero, List.set_cons_succ]
  refine anyH_one (i := 12) (by kernel_rfl) rfl (fun K hK => ?_)
  rw [if_pos (by rfl)]
  refine wp_store_mid 30 (.tmp 13) (.tmp 7) rfl (pb a.id) 5 (cxl c).toArray rfl rfl ht sizeCx (cxl_one c) ?_
  rw [show (cxl c).toArray.toList = cxl c from rfl]
  refine hK.out _ _ X3 (fun hHeld => ?_)
  clear hK K
  try simp only [Act.put]
  refine wpAnyH_done (by kernel_rfl) ?_ _
  go_wp2_with fail
  go_ret
  exact ⟨rfl, HN, hB3⟩

set_option maxHeartbeats 400000 in
set_option maxRecDepth 100000 in
theorem cacD (h : TM w B S G M N pb σ) {a : Ac} (ha : a ∈ σ.xs) (hb : folB 16 a.st = true) :
    Calls Tryd.prog 52 #[.pointer (some ⟨pb a.id, 0, none⟩)] w fun e w' => e = .returned (.int .i64 (noK a)) ∧ TM w' B S G M N pb (if noK a = 0 then { σ with xs := insA (cacF a) σ.xs } else σ) ∧ But [pb a.id] w w' := by
  have hc := h.a a ha
  have HD : ∀ W, noK a = 0 → But [pb a.id] w W → Cel W (pb a.id) (acA (cacF a)) 44 → TM W B S G M N pb { σ with xs := insA (cacF a) σ.xs } := fun W h0 hB hC => (h.did (good_cac _) ha hb h0 hB hC).1
  have hcd : Cel w.drew (pb a.id) (acA a) 44 := hc
  have ht := hcd.there
  have hB : But [pb a.id] w (w.drew.setCells (pb a.id) 0 (c16 (cacF a))) := (But.refl _ w).drew.trans (But.setCells _ 0 _)
  have HN := HD _ rfl hB (hcd.ac (cacF a))
  have X0 : w.cell? ⟨pb a.id, 0, none⟩ = some (.int .i64 a.id) ∧ w.cell? ⟨pb a.id, 2, none⟩ = some (.int .i64 a.sp) := ⟨hc.cell (j := 0) rfl, hc.cell (j := 2) rfl⟩
  have hc1 := hcd.ac (cacF a)
  have X1 : (w.drew.setCells (pb a.id) 0 (c16 (cacF a))).cell? ⟨pb a.id, 0, none⟩ = some (.int .i64 a.id) ∧ (w.drew.setCells (pb a.id) 0 (c16 (cacF a))).cell? ⟨pb a.id, 2, none⟩ = some (.int .i64 a.sp) := ⟨hc1.cell (j := 0) rfl, hc1.cell (j := 2) rfl⟩
  unfold noK
  rw [if_pos rfl]
  clear HD hc hcd hc1
  go_enter Tryd.func52, Tryd.ntmps52
  go_upto_region 1 with fail
  refine wp_region_held_drew (S := (fun w' : World => w'.cell? ⟨pb a.id, 0, none⟩ = some (.int .i64 a.id) ∧ w'.cell? ⟨pb a.id, 2, none⟩ = some (.int .i64 a.sp))) (by kernel_rfl) (by exact X0) (fun hHeld => ?_)
  refine anyH_take (i := 0) (v := ?_) (some 3) rfl rfl (by kernel_rfl) (fun _ _ _ h => h) (Or.inl ⟨by rfl, ?_⟩) (by assumption) ?_
  rotate_left
  · (intro w hSw; obtain ⟨e0, e2⟩ := hSw; go_simp; all_goals with_reducible rfl)
  try simp only [Act.put, List.setIfInBounds_toArray, List.set_cons_zero, List.set_cons_succ]
  refine anyH_take (i := 1) (v := ?_) (some 4) rfl rfl (by kernel_rfl) (fun _ _ _ h => h) (Or.inl ⟨by rfl, ?_⟩) (by assumption) ?_
  rotate_left
  · (intro w hSw; obtain ⟨e0, e2⟩ := hSw; go_simp; all_goals with_reducible rfl)
  try simp only [Act.put, List.setIfInBounds_toArray, List.set_cons_zero, List.set_cons_succ]
  refine anyH_take (i := 2) (v := ?_) (some 5) rfl rfl (by kernel_rfl) (fun _ _ _ h => h) (Or.inl ⟨by rfl, ?_⟩) (by assumption) ?_
  rotate_left
  · (intro w hSw; obtain ⟨e0, e2⟩ := hSw; go_simp; all_goals with_reducible rfl)
  try simp only [Act.put, List.setIfInBounds_toArray, List.set_cons_zero, List.set_cons_succ]
  refine anyH_take (i := 3) (v := ?_) (some 6) rfl rfl (by kernel_rfl) (fun _ _ _ h => h) (Or.inl ⟨by rfl, ?_⟩) (by assumption) ?_
  rotate_left
  · (intro w hSw; obtain ⟨e0, e2⟩ := hSw; go_simp; all_goals with_reducible rfl)
  try simp only [Act.put, List.setIfInBounds_toArray, List.set_cons_zero, List.set_cons_succ]
  refine anyH_take (i := 4) (v := ?_) (some 7) rfl rfl (by kernel_rfl) (fun _ _ _ h => h) (Or.inl ⟨by rfl, ?_⟩) (by assumption) ?_
  rotate_left
  · (intro w hSw; obtain ⟨e0, e2⟩ := hSw; go_simp; all_goals with_reducible rfl)
  try simp only [Act.put, List.setIfInBounds_toArray, List.set_cons_zero, List.set_cons_succ]
  refine anyH_take (i := 5) (v := ?_) (some 8) rfl rfl (by kernel_rfl) (fun _ _ _ h => h) (Or.inl ⟨by rfl, ?_⟩) (by assumption) ?_
  rotate_left
  · (intro w hSw; obtain ⟨e0, e2⟩ := hSw; go_simp; all_goals with_reducible rfl)
  try simp only [Act.put, List.setIfInBounds_toArray, List.set_cons_zero, List.set_cons_succ]
  refine anyH_take (i := 6) (v := ?_) (some 9) rfl rfl (by kernel_rfl) (fun _ _ _ h => h) (Or.inl ⟨by rfl, ?_⟩) (by assumption) ?_
  rotate_left
  · (intro w hSw; obtain ⟨e0, e2⟩ := hSw; go_simp; all_goals with_reducible rfl)
  try simp only [Act.put, List.setIfInBounds_toArray, List.set_cons_zero, List.set_cons_succ]
  refine anyH_take (i := 7) (v := ?_) (some 10) rfl rfl (by kernel_rfl) (fun _ _ _ h => h) (Or.inl ⟨by rfl, ?_⟩) (by assumption) ?_
  rotate_left
  · (intro w hSw; obtain ⟨e0, e2⟩ := hSw; go_simp; all_goals with_reducible rfl)
  try simp only [Act.put, List.setIfInBounds_toArray, List.set_cons_zero, List.set_cons_succ]
  refine anyH_take (i := 8) (v := ?_) (some 11) rfl rfl (by kernel_rfl) (fun _ _ _ h => h) (Or.inl ⟨by rfl, ?_⟩) (by assumption) ?_
  rotate_left
  · (intro w hSw; obtain ⟨e0, e2⟩ := hSw; go_simp; all_goals with_reducible rfl)
  try simp only [Act.put, List.setIfInBounds_toArray, List.set_cons_zero, List.set_cons_succ]
  refine anyH_take (i := 9) (v := ?_) (some 12) rfl rfl (by kernel_rfl) (fun _ _ _ h => h) (Or.inl ⟨by rfl, ?_⟩) (by assumption) ?_
  rotate_left
  · (intro w hSw; obtain ⟨e0, e2⟩ := hSw; go_simp; all_goals with_reducible rfl)
  try simp only [Act.put, List.setIfInBounds_toArray, List.set_cons_zero, List.set_cons_succ]
  refine anyH_take (i := 10) (v := ?_) (some 13) rfl rfl (by kernel_rfl) (fun _ _ _ h => h) (Or.inl ⟨by rfl, ?_⟩) (by assumption) ?_
  rotate_left
  · (intro w hSw; obtain ⟨e0, e2⟩ := hSw; go_simp; all_goals with_reducible rfl)
  try simp only [Act.put, List.setIfInBounds_toArray, List.set_cons_zero, List.set_cons_succ]
  refine anyH_one (i := 11) (by kernel_rfl) rfl (fun K hK => ?_)
  rw [if_pos (by rfl)]
  refine wp_store_mid 44 (.tmp 13) (.tmp 12) rfl (pb a.id) 0 (c16 (cacF a)).toArray rfl rfl ht size16L (c16_one _) ?_
  rw [show (c16 (cacF a)).toArray.toList = c16 (cacF a) from rfl]
  refine hK.out _ _ X1 (fun hHeld => ?_)
  clear hK K
  try simp only [Act.put]
  refine wpAnyH_done (by kernel_rfl) ?_ _
  go_wp2_with fail
  go_ret
  exact ⟨rfl, HN, hB⟩
end
end Go.Proofs.YtjgclehghnmhnaaDoor
namespace Go.Proofs.YtjgclehghnmhnaaDoor
open Go Go.RowKit

theorem fol1 (st : Int) : [(1 : Int)].contains st = folB 1 st := by simp [folB]; rfl
theorem fol2 (st : Int) : [(2 : Int)].contains st = folB 2 st := by simp [folB]; rfl
theorem fol4 (st : Int) : [(2 : Int)].contains st = folB 4 st := by simp [folB]; rfl
theorem fol8 (st : Int) : [(2 : Int)].contains st = folB 8 st := by simp [folB]; rfl
theorem fol16 (st : Int) : [(2 : Int), 3, 4].contains st = folB 16 st := by simp [folB]; rfl
theorem fol32 (st : Int) : [(1 : Int), 5].contains st = folB 32 st := by simp [folB]; rfl
theorem in_told {s : Nat} {sts : List Int} (hs : ∀ st, sts.contains st = folB s st) (σ : Sta) (i : Int) (chk : Ac → Int) (f : Ac → Ac) (z : Int) (v : Ac) (pe : Int) (τ : Sta)
    (hz : inE sts σ.xs i = z) (hv : getV σ.xs i = v) (hp : opE s chk σ.xs i = pe) (ht : opS s chk f σ i = τ) :
    ((z == 0) = false ∧ Hid (pe = z ∧ τ = σ)) ∨ (z = 0 ∧ Hid (v ∈ σ.xs) ∧ Hid (pe = chk v ∧ τ = if chk v = 0 then { σ with xs := insA (f v) σ.xs } else σ)) := by
  cases hf : fndA σ.xs i with
  | none =>
    unfold inE at hz
    unfold opE at hp
    rw [hf] at hz hp
    rw [opS_none hf] at ht
    subst hz hp ht
    exact .inl ⟨rfl, ⟨rfl, rfl⟩⟩
  | some a =>
    rw [(getV_some hf).1] at hv
    subst hv
    unfold inE at hz
    unfold opE at hp
    rw [hf] at hz hp
    replace hz : (if sts.contains a.st = true then (0 : Int) else 5) = z := hz
    replace hp : (if folB s a.st = true then chk a else 5) = pe := hp
    rw [hs] at hz
    by_cases hb : folB s a.st = true
    · rw [if_pos hb] at hz hp
      rw [opS_eq hf hb] at ht
      subst hz hp ht
      exact .inr ⟨rfl, (fnd_some hf).1, ⟨rfl, rfl⟩⟩
    · rw [if_neg hb] at hz hp
      rw [opS_no hf (by simpa using hb)] at ht
      subst hz hp ht
      exact .inl ⟨rfl, ⟨rfl, rfl⟩⟩
theorem len_upd {xs : List Ac} (hs : Srt xs) {a a' : Ac} (ha : a ∈ xs) (e : a'.id = a.id) : (insA a' xs).length = xs.length := by
  have := congrArg List.length (ids_insA (a := a') hs ⟨a, ha, e.symm⟩)
  simpa using this
theorem busy_ref {xs : List Ac} (hL : ∀ a ∈ xs, Lc a) {c : Int} (hc : 0 ≤ c) : busyB xs c = xs.any (fun a => a.st == 2 && a.co == c) := by
  unfold busyB
  rw [Bool.eq_iff_iff, List.any_eq_true, List.any_eq_true]
  constructor
  · rintro ⟨a, ha, h⟩
    have h' : a.co = c := by simpa using h
    refine ⟨a, ha, ?_⟩
    have := (hL a ha).off
    by_cases h2 : a.st = 2
    · simp [h2, h']
    · have := this h2; omega
  · rintro ⟨a, ha, h⟩
    refine ⟨a, ha, ?_⟩
    simp at h ⊢
    exact h.2

section
variable {w : World} {M N : Nat} {R : List Nat} {σ : Sta}
theorem RQ.facts (h : RQ w M R N σ) : σ.xs.length ≤ 4096 ∧ Srt σ.xs := by
  obtain ⟨S, A, K, v, rfl, hm⟩ := h
  exact ⟨hm.len, hm.srt⟩
theorem rin1 (h : RQ w M R N σ) (i x : Int) :
    Calls Tryd.prog 60 #[.pointer (some ⟨M, 0, none⟩), .int .i64 i, .slice (some ⟨w.heap.size, 0, none⟩) 1 1] (w.alloc (.cells #[.int .i64 x] 3)) fun e w' => e = .returned (.tuple #[.agg (acA (getV σ.xs i)), .int .i64 (inE [x] σ.xs i)]) ∧ Below w.heap.size w w' :=
  (rin_any (h.below ((Below.refl _ _).alloc (Nat.le_refl _) _)) i 1 (ir1 w x) (by simp)).mono (fun e w' ⟨e1, b⟩ => ⟨e1, ((Below.refl _ w).alloc (Nat.le_refl _) _).trans (b.mono (by simp))⟩)
theorem rin2 (h : RQ w M R N σ) (i x y : Int) :
    Calls Tryd.prog 60 #[.pointer (some ⟨M, 0, none⟩), .int .i64 i, .slice (some ⟨w.heap.size, 0, none⟩) 2 2] (w.alloc (.cells #[.int .i64 x, .int .i64 y] 3)) fun e w' => e = .returned (.tuple #[.agg (acA (getV σ.xs i)), .int .i64 (inE [x, y] σ.xs i)]) ∧ Below w.heap.size w w' :=
  (rin_any (h.below ((Below.refl _ _).alloc (Nat.le_refl _) _)) i 2 (ir2 w x y) (by simp)).mono (fun e w' ⟨e1, b⟩ => ⟨e1, ((Below.refl _ w).alloc (Nat.le_refl _) _).trans (b.mono (by simp))⟩)
theorem rin3 (h : RQ w M R N σ) (i x y z : Int) :
    Calls Tryd.prog 60 #[.pointer (some ⟨M, 0, none⟩), .int .i64 i, .slice (some ⟨w.heap.size, 0, none⟩) 3 3] (w.alloc (.cells #[.int .i64 x, .int .i64 y, .int .i64 z] 3)) fun e w' => e = .returned (.tuple #[.agg (acA (getV σ.xs i)), .int .i64 (inE [x, y, z] σ.xs i)]) ∧ Below w.heap.size w w' :=
  (rin_any (h.below ((Below.refl _ _).alloc (Nat.le_refl _) _)) i 3 (ir3 w x y z) (by simp)).mono (fun e w' ⟨e1, b⟩ => ⟨e1, ((Below.refl _ w).alloc (Nat.le_refl _) _).trans (b.mono (by simp))⟩)
/-- put, of one with the id of one that is there. -/
theorem rput_upd (h : RQ w M R N σ) {a : Ac} (ha : a ∈ σ.xs) (W : World) (a' : Ac) (e : a'.id = a.id) (b : Below w.heap.size w W) :
    Calls Tryd.prog 58 #[.pointer (some ⟨M, 0, none⟩), .agg (c16 a').toArray] W fun e w' => e = .returned (.tuple #[]) ∧ ∃ R', RQ w' M R' N { σ with xs := insA a' σ.xs } ∧ Step R w R' w' :=
  (rput_any (h.below b) a' (by rw [len_upd h.facts.2 ha e]; exact h.facts.1)).mono (fun e w' ⟨e1, R', q, s⟩ => ⟨e1, R', q, (Step.keep (.of_below b)).trans s⟩)
theorem RQ.back (h : RQ w M R N σ) {W : World} (b : Below w.heap.size w W) : ∃ R', RQ W M R' N σ ∧ Step R w R' W := ⟨R, h.below b, Step.keep (.of_below b)⟩
end
end Go.Proofs.YtjgclehghnmhnaaDoor
