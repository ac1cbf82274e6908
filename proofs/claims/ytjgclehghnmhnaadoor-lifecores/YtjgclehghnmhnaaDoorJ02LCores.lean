/- The document's in. -/
/- What is done to one, by closures; pass; Run, Load, Block, Preempt, Cache. -/
import Derived.Test.YtjgclehghnmhnaaDoorJ01LCores
import Derived.Test.YtjgclehghnmhnaaDoorLfK
import Derived.Deep.RegionHeld3
namespace Go.Proofs.YtjgclehghnmhnaaDoor
open Go Go.RowKit

/-- What in tells of one, asked by states. -/
def inE (sts : List Int) (xs : List Ac) (i : Int) : Int := match fndA xs i with
  | none => 4
  | some a => if sts.contains a.st then 0 else 5
/-- Ints that lie somewhere. -/
def IR (w : World) (a : Option Addr) (l : List Int) : Prop := ∀ j, j < l.length → ∃ b o, a = some ⟨b, o, none⟩ ∧ w.cell? ⟨b, o + j, none⟩ = some (.int .i64 (l.getD j 0))
theorem IR.below {w w' : World} {a : Option Addr} {l : List Int} (h : IR w a l) (hb : Below w.heap.size w w') : IR w' a l := fun j hj => by
  obtain ⟨b, o, e, h0⟩ := h j hj
  exact ⟨b, o, e, cell_on hb h0⟩
theorem ir1 (w : World) (x : Int) : IR (w.alloc (.cells #[.int .i64 x] 3)) (some ⟨w.heap.size, 0, none⟩) [x] := fun j hj => by
  obtain rfl : j = 0 := by simpa using hj
  exact ⟨_, _, rfl, (Cel.new w _ _).cell rfl⟩
theorem ir2 (w : World) (x y : Int) : IR (w.alloc (.cells #[.int .i64 x, .int .i64 y] 3)) (some ⟨w.heap.size, 0, none⟩) [x, y] := fun j hj => by
  simp only [List.length_cons, List.length_nil] at hj
  rcases (by omega : j = 0 ∨ j = 1) with rfl | rfl
  · exact ⟨_, _, rfl, (Cel.new w _ _).cell rfl⟩
  · exact ⟨_, _, rfl, (Cel.new w _ _).cell rfl⟩
theorem ir3 (w : World) (x y z : Int) : IR (w.alloc (.cells #[.int .i64 x, .int .i64 y, .int .i64 z] 3)) (some ⟨w.heap.size, 0, none⟩) [x, y, z] := fun j hj => by
  simp only [List.length_cons, List.length_nil] at hj
  rcases (by omega : j = 0 ∨ j = 1 ∨ j = 2) with rfl | rfl | rfl
  · exact ⟨_, _, rfl, (Cel.new w _ _).cell rfl⟩
  · exact ⟨_, _, rfl, (Cel.new w _ _).cell rfl⟩
  · exact ⟨_, _, rfl, (Cel.new w _ _).cell rfl⟩
theorem getV_some {xs : List Ac} {i : Int} {a : Ac} (h : fndA xs i = some a) : getV xs i = a ∧ getB xs i = true := by
  unfold getV getB
  rw [h]
  exact ⟨rfl, rfl⟩
theorem getV_none {xs : List Ac} {i : Int} (h : fndA xs i = none) : getV xs i = zA ∧ getB xs i = false := by
  unfold getV getB
  rw [h]
  exact ⟨rfl, rfl⟩

section
variable {w : World} {M N : Nat} {R : List Nat} {σ : Sta}
set_option maxHeartbeats 2000000 in
set_option maxRecDepth 100000 in
theorem rin_any (h : RQ w M R N σ) (i : Int) {sl : Option Addr} {sts : List Int} (c : Nat) (hI : IR w sl sts) (hl : sts.length ≤ 4096) :
    Calls Tryd.prog 60 #[.pointer (some ⟨M, 0, none⟩), .int .i64 i, .slice sl sts.length c] w fun e w' => e = .returned (.tuple #[.agg (acA (getV σ.xs i)), .int .i64 (inE sts σ.xs i)]) ∧ Below w.heap.size w w' := by
  have ba : Below w.heap.size w (w.alloc (.cells (acA zA) 47)) := (Below.refl _ _).alloc (Nat.le_refl _) _
  have hG := rget_any (h.below ba) i
  have HI : ∀ W, Below (w.alloc (.cells (acA zA) 47)).heap.size (w.alloc (.cells (acA zA) 47)) W → IR W sl sts ∧ Cel W w.heap.size (acA zA) 47 ∧ Below w.heap.size w W := fun W b => ⟨(hI.below ba).below b, (Cel.new w (acA zA) 47).below b, below2 ba ba.size b⟩
  obtain ⟨z, hz⟩ : ∃ z, Hid (inE sts σ.xs i = z) := ⟨_, rfl⟩
  obtain ⟨v, hv⟩ : ∃ v, Hid (getV σ.xs i = v) := ⟨_, rfl⟩
  obtain ⟨g, hg⟩ : ∃ g, Hid (getB σ.xs i = g) := ⟨_, rfl⟩
  have HE4 : Hid (g = false → z = 4) := fun hg' => by
    have e1 := hg.out
    rw [hg'] at e1
    rw [← hz.out]
    cases hf : fndA σ.xs i with
    | none => unfold inE; rw [hf]
    | some a =>
      rw [(getV_some hf).2] at e1
      cases e1
  have HEK : Hid (g = true → z = if sts.contains v.st then 0 else 5) := fun hg' => by
    have e1 := hg.out
    rw [hg'] at e1
    rw [← hz.out, ← hv.out]
    cases hf : fndA σ.xs i with
    | none =>
      rw [(getV_none hf).2] at e1
      cases e1
    | some a =>
      rw [(getV_some hf).1]
      unfold inE
      rw [hf]
  obtain ⟨n, hN⟩ : ∃ n, Hid (sts.length = n) := ⟨_, rfl⟩
  have HE0 : Hid (∀ k, k < n → sts.getD k 0 = v.st → g = true → z = 0) := fun k hk e hg' => by
    have hk' : k < sts.length := by rw [hN.out]; exact hk
    rw [HEK.out hg', if_pos]
    rw [List.getD_eq_getElem?_getD, List.getElem?_eq_getElem hk'] at e
    rw [List.contains_iff_mem, ← e]
    exact List.getElem_mem hk'
  have HE5 : Hid ((∀ k, k < n → sts.getD k 0 ≠ v.st) → g = true → z = 5) := fun ha hg' => by
    rw [HEK.out hg', if_neg]
    intro hc
    rw [List.contains_iff_mem] at hc
    obtain ⟨k, hk, e⟩ := List.mem_iff_getElem.1 hc
    refine ha k (by rw [← hN.out]; exact hk) ?_
    rw [List.getD_eq_getElem?_getD, List.getElem?_eq_getElem hk]
    exact e
  have hn' : n ≤ 4096 := by rw [← hN.out]; exact hl
  rw [hz.out, hv.out, hN.out]
  rw [hv.out, hg.out] at hG
  clear hI hl ba h HEK
  rw [zA_A] at *
  rw [show acA v = #[.int .i64 v.id, .int .i64 v.st, .int .i64 v.sp, .int .i64 v.co, .int .i64 v.th, .int .i64 v.pg, .int .i64 v.pc, .int .i64 (v.rs 0), .int .i64 (v.rs 1), .int .i64 (v.rs 2), .int .i64 (v.rs 3), .int .i64 (v.rs 4), .int .i64 (v.rs 5), .int .i64 (v.rs 6), .int .i64 (v.rs 7), .int .i64 v.dp] from rfl] at *
  go_enter Tryd.func60, Tryd.ntmps60
  go_upto_region 2 with (go_at_call 18; (with_reducible refine hG.mono ?_); rintro e w1 ⟨rfl, b1⟩; obtain ⟨hI1, hC1, hB1⟩ := HI w1 b1; have hcv := Cel.new w1 (acA v) 47; have bv : Below w1.heap.size w1 (w1.alloc (.cells (acA v) 47)) := (Below.refl _ _).alloc (Nat.le_refl _) _; rw [show acA v = #[.int .i64 v.id, .int .i64 v.st, .int .i64 v.sp, .int .i64 v.co, .int .i64 v.th, .int .i64 v.pg, .int .i64 v.pc, .int .i64 (v.rs 0), .int .i64 (v.rs 1), .int .i64 (v.rs 2), .int .i64 (v.rs 3), .int .i64 (v.rs 4), .int .i64 (v.rs 5), .int .i64 (v.rs 6), .int .i64 (v.rs 7), .int .i64 v.dp] from rfl] at hcv bv)
  have hI2 := hI1.below bv
  have hC2 := hC1.below bv
  have hB2 := below2 hB1 hB1.size bv
  generalize (w1.alloc (.cells #[.int .i64 v.id, .int .i64 v.st, .int .i64 v.sp, .int .i64 v.co, .int .i64 v.th, .int .i64 v.pg, .int .i64 v.pc, .int .i64 (v.rs 0), .int .i64 (v.rs 1), .int .i64 (v.rs 2), .int .i64 (v.rs 3), .int .i64 (v.rs 4), .int .i64 (v.rs 5), .int .i64 (v.rs 6), .int .i64 (v.rs 7), .int .i64 v.dp] 47)) = W1 at *
  generalize w1.heap.size = X at *
  clear hI1 hC1 hB1 bv hG HI b1 w1
  have hrv : W1.rangeAt X 0 (c16 v) := Cel.range (a := v) hcv
  have hth := Cel.there (a := zA) hC2
  have hfin := (Cel.ac (a := zA) v hC2).range
  have hbf : Below w.heap.size w (W1.setCells w.heap.size 0 (c16 v)) := hB2.trans ((But.setCells (c16 v) 0 _).below hB2.size (by simp))
  have hst : W1.cell? ⟨X, 1, none⟩ = some (.int .i64 v.st) := hcv.cell (j := 1) rfl
  clear hcv hC2 hB2
  cases g
  · have HZ : Hid (z = 4) := HE4.out rfl
    clear HE4 HE0 HE5
    go_upto_region 3 with fail
    refine wp_region_lit ?_
    refine wpList_load_mid rfl 47 (.tmp 8) rfl X 0 rfl (c16 v) _ hrv Tryd.underlying47 rfl size16R ?_
    refine wpList_store_mid rfl 47 (.tmp 6) (.tmp 20) rfl w.heap.size 0 (c16 v).toArray rfl rfl hth size16R (c16_one _) ?_
    rw [show (c16 v).toArray.toList = c16 v from rfl]
    generalize World.setCells _ w.heap.size 0 (c16 v) = wf at *
    go_wp2_with fail
    exact bodyPost_ret (results_acR rfl _ _ w.heap.size v (.int .i64 4) rfl rfl hfin) rfl ⟨by rw [HZ.out]; rfl, hbf⟩
  · go_upto_region 5 with fail
    go_loopw [23, 11] (fun x _ wr => ∃ k : Nat, k ≤ n ∧ x = .int .i64 k ∧ (∀ j, j < k → sts.getD j 0 ≠ v.st) ∧ wr = W1) (fun x _ _ => 4096 - (intOf x).toNat)
    case atStart => exact ⟨0, Nat.zero_le _, rfl, fun k hk => by omega, rfl⟩
    case round =>
      obtain ⟨k, hk, rfl, hall, rfl⟩ := hrel
      have HALL := Hid.mk hall
      clear hall
      by_cases hlt : k < n
      · obtain ⟨b, o, rfl, hc⟩ := hI2 k (by rw [hN.out]; exact hlt)
        have hlt' : (k : Int) < (n : Int) := by omega
        by_cases hp : sts.getD k 0 = v.st
        · have HZ : Hid (z = 0) := HE0.out k hlt hp trivial
          rw [hp] at hc
          have hp' : (v.st == v.st) = true := by simp
          clear hp
          go_upto_region 8 with fail
          refine wp_region_lit ?_
          refine wpList_load_mid rfl 47 (.tmp 8) rfl X 0 rfl (c16 v) _ hrv Tryd.underlying47 rfl size16R ?_
          refine wpList_store_mid rfl 47 (.tmp 6) (.tmp 31) rfl w.heap.size 0 (c16 v).toArray rfl rfl hth size16R (c16_one _) ?_
          rw [show (c16 v).toArray.toList = c16 v from rfl]
          generalize World.setCells _ w.heap.size 0 (c16 v) = wf at *
          go_wp2_with fail
          exact bodyPost_ret (results_acR rfl _ _ w.heap.size v (.int .i64 0) rfl rfl hfin) rfl ⟨by rw [HZ.out]; rfl, hbf⟩
        · have hp' : (v.st == sts.getD k 0) = false := by simpa using fun e => hp e.symm
          have HE : Hid (∀ j, j < k + 1 → sts.getD j 0 ≠ v.st) := fun j hj => by
            by_cases e : j = k
            · rw [e]; exact hp
            · exact HALL.out j (by omega)
          clear hp
          generalize sts.getD k 0 = s at *
          go_wp2_with fail
          go_roundw
          case rel => exact ⟨k + 1, by omega, by simp, HE.out, trivial⟩
          case measure =>
            simp [intOf]
            omega
      · obtain rfl : k = n := by omega
        have HZ : Hid (z = 5) := HE5.out HALL.out trivial
        go_upto_region 10 with fail
        refine wp_region_lit ?_
        refine wpList_load_mid rfl 47 (.tmp 8) rfl X 0 rfl (c16 v) _ hrv Tryd.underlying47 rfl size16R ?_
        refine wpList_store_mid rfl 47 (.tmp 6) (.tmp 33) rfl w.heap.size 0 (c16 v).toArray rfl rfl hth size16R (c16_one _) ?_
        rw [show (c16 v).toArray.toList = c16 v from rfl]
        generalize World.setCells _ w.heap.size 0 (c16 v) = wf at *
        go_wp2_with fail
        exact bodyPost_ret (results_acR rfl _ _ w.heap.size v (.int .i64 5) rfl rfl hfin) rfl ⟨by rw [HZ.out]; rfl, hbf⟩
end
end Go.Proofs.YtjgclehghnmhnaaDoor
namespace Go.Proofs.YtjgclehghnmhnaaDoor
open Go Go.RowKit

/-- What is left, where the step may follow. -/
theorem opS_eq {s : Nat} {chk : Ac → Int} {f : Ac → Ac} {σ : Sta} {i : Int} {a : Ac} (hf : fndA σ.xs i = some a) (hb : folB s a.st = true) : opS s chk f σ i = if chk a = 0 then { σ with xs := insA (f a) σ.xs } else σ := by
  unfold opS opX
  rw [hf]
  dsimp only
  by_cases h : chk a = 0
  · rw [if_pos h, if_pos (by simp [hb, h])]
  · rw [if_neg h, if_neg (by simp [h])]
theorem opS_no {s : Nat} {chk : Ac → Int} {f : Ac → Ac} {σ : Sta} {i : Int} {a : Ac} (hf : fndA σ.xs i = some a) (hb : folB s a.st = false) : opS s chk f σ i = σ := by
  unfold opS opX
  rw [hf]
  dsimp only
  rw [if_neg (by simp [hb])]
theorem opS_none {s : Nat} {chk : Ac → Int} {f : Ac → Ac} {σ : Sta} {i : Int} (hf : fndA σ.xs i = none) : opS s chk f σ i = σ := by
  unfold opS opX
  rw [hf]

section
variable {w : World} {B S G M N : Nat} {pb : Int → Nat} {σ : Sta}
/-- One has turned, by a step. -/
theorem TM.did (h : TM w B S G M N pb σ) {s : Nat} {chk : Ac → Int} {f : Ac → Ac} (g : Good s chk f σ.xs) {a : Ac} (ha : a ∈ σ.xs) (hb : folB s a.st = true) (h0 : chk a = 0) {w' : World} (hB : But [pb a.id] w w') (hc : Cel w' (pb a.id) (acA (f a)) 44) :
    TM w' B S G M N pb { σ with xs := insA (f a) σ.xs } ∧ bT B S G M pb (insA (f a) σ.xs) = bT B S G M pb σ.xs := by
  have ok := h.ok.op g a.id
  rw [opS_eq (fnd_mem h.ok.srt ha) hb, if_pos h0] at ok
  exact h.upd ha (g.id a) hB hc ok

set_option maxHeartbeats 400000 in
set_option maxRecDepth 100000 in
theorem lodD (h : TM w B S G M N pb σ) {a : Ac} (ha : a ∈ σ.xs) (hb : folB 2 a.st = true) {X : Nat} {t : Int} (hX : w.cell? ⟨X, 0, none⟩ = some (.int .i64 t)) :
    Calls Tryd.prog 49 #[.pointer (some ⟨pb a.id, 0, none⟩), .pointer (some ⟨X, 0, none⟩)] w fun e w' => e = .returned (.int .i64 (lodK t a)) ∧ TM w' B S G M N pb (if lodK t a = 0 then { σ with xs := insA (lodF t a) σ.xs } else σ) ∧ But [pb a.id] w w' := by
  have hc := h.a a ha
  have HD : ∀ W, lodK t a = 0 → But [pb a.id] w W → Cel W (pb a.id) (acA (lodF t a)) 44 → TM W B S G M N pb { σ with xs := insA (lodF t a) σ.xs } := fun W h0 hB hC => (h.did (good_lod _ t) ha hb h0 hB hC).1
  have f4 := hc.fz 4
  have c4 : w.cell? ⟨pb a.id, 4, none⟩ = some (.int .i64 a.th) := hc.cell (j := 4) rfl
  unfold lodK at HD ⊢
  by_cases ht : t < 0
  · rw [if_pos ht, if_neg (by decide)]
    clear HD
    go_enter Tryd.func49, Tryd.ntmps49
    go_wp2_with fail
    go_ret
    exact ⟨rfl, h, But.refl _ _⟩
  · rw [if_neg ht, if_pos rfl]
    have HN := HD (w.setCell ⟨pb a.id, 4, none⟩ (.int .i64 t)) (if_neg ht) ((But.refl _ w).set (p := ⟨pb a.id, 4, none⟩) (by simp) _) (hc.set (j := 4) _)
    clear HD
    go_enter Tryd.func49, Tryd.ntmps49
    go_wp2_with fail
    go_ret
    exact ⟨rfl, HN, (But.refl _ w).set (p := ⟨pb a.id, 4, none⟩) (by simp) _⟩

set_option maxHeartbeats 400000 in
set_option maxRecDepth 100000 in
theorem blkD (h : TM w B S G M N pb σ) {a : Ac} (ha : a ∈ σ.xs) (hb : folB 4 a.st = true) :
    Calls Tryd.prog 50 #[.pointer (some ⟨pb a.id, 0, none⟩)] w fun e w' => e = .returned (.int .i64 (blkK a)) ∧ TM w' B S G M N pb (if blkK a = 0 then { σ with xs := insA (blkF a) σ.xs } else σ) ∧ But [pb a.id] w w' := by
  have hc := h.a a ha
  have HD : ∀ W, blkK a = 0 → But [pb a.id] w W → Cel W (pb a.id) (acA (blkF a)) 44 → TM W B S G M N pb { σ with xs := insA (blkF a) σ.xs } := fun W h0 hB hC => (h.did (good_blk _) ha hb h0 hB hC).1
  have f1 := hc.fz 1
  have f3 := hc.fz 3
  have c1 : w.cell? ⟨pb a.id, 1, none⟩ = some (.int .i64 a.st) := hc.cell (j := 1) rfl
  have c3 : w.cell? ⟨pb a.id, 3, none⟩ = some (.int .i64 a.co) := hc.cell (j := 3) rfl
  have c4 : w.cell? ⟨pb a.id, 4, none⟩ = some (.int .i64 a.th) := hc.cell (j := 4) rfl
  unfold blkK at HD ⊢
  by_cases ht : a.th = 0
  · rw [if_pos ht, if_neg (by decide)]
    have ht' : (a.th == 0) = true := by simpa using ht
    clear HD ht
    go_enter Tryd.func50, Tryd.ntmps50
    go_wp2_with fail
    go_ret
    exact ⟨rfl, h, But.refl _ _⟩
  · rw [if_neg ht, if_pos rfl]
    have ht' : (a.th == 0) = false := by simpa using ht
    have hB : But [pb a.id] w ((w.setCell ⟨pb a.id, 1, none⟩ (.int .i64 3)).setCell ⟨pb a.id, 3, none⟩ (.int .i64 (-1))) := ((But.refl _ w).set (p := ⟨pb a.id, 1, none⟩) (by simp) _).set (p := ⟨pb a.id, 3, none⟩) (by simp) _
    have HN := HD _ (if_neg ht) hB ((hc.set (j := 1) _).set (j := 3) _)
    clear HD ht
    go_enter Tryd.func50, Tryd.ntmps50
    go_wp2_with fail
    go_ret
    exact ⟨rfl, HN, hB⟩

set_option maxHeartbeats 400000 in
set_option maxRecDepth 100000 in
theorem runD (h : TM w B S G M N pb σ) {a : Ac} (ha : a ∈ σ.xs) (hb : folB 1 a.st = true) {X Y : Nat} {c : Int} (hX : w.cell? ⟨X, 0, none⟩ = some (.int .i64 c)) (hY : w.cell? ⟨Y, 0, none⟩ = some (.pointer (some ⟨B, 0, none⟩))) :
    Calls Tryd.prog 47 #[.pointer (some ⟨pb a.id, 0, none⟩), .pointer (some ⟨X, 0, none⟩), .pointer (some ⟨Y, 0, none⟩)] w fun e w' => e = .returned (.int .i64 (runK σ.xs c a)) ∧ TM w' B S G M N pb (if runK σ.xs c a = 0 then { σ with xs := insA (runF c a) σ.xs } else σ) ∧ But [pb a.id] w w' := by
  have hc := h.a a ha
  have HD : ∀ W, runK σ.xs c a = 0 → But [pb a.id] w W → Cel W (pb a.id) (acA (runF c a)) 44 → TM W B S G M N pb { σ with xs := insA (runF c a) σ.xs } := fun W h0 hB hC => (h.did (good_run _ c) ha hb h0 hB hC).1
  have hZ := busy_any h c
  unfold runK at HD ⊢
  by_cases h1 : c < 0 ∨ 64 ≤ c
  · rw [if_pos h1, if_neg (by decide)]
    clear HD hZ
    by_cases h2 : c < 0
    · go_enter Tryd.func47, Tryd.ntmps47
      go_wp2_with fail
      go_ret
      exact ⟨rfl, h, But.refl _ _⟩
    · have h3 : 64 ≤ c := by omega
      clear h1
      go_enter Tryd.func47, Tryd.ntmps47
      go_wp2_with fail
      go_ret
      exact ⟨rfl, h, But.refl _ _⟩
  · rw [if_neg h1]
    have h2 : ¬ c < 0 := by omega
    have h3 : ¬ 64 ≤ c := by omega
    cases hz : busyB σ.xs c
    · rw [hz] at hZ
      have HD := fun W => HD W (by rw [if_neg h1, hz]; rfl)
      rw [if_neg (by simp), if_pos rfl]
      clear h1 hz
      have HK : ∀ W, Below w.heap.size w W → W.cell? ⟨X, 0, none⟩ = some (.int .i64 c) ∧ W.cell? ⟨pb a.id, 1, none⟩ = some (.int .i64 a.st) ∧ W.cell? ⟨pb a.id, 3, none⟩ = some (.int .i64 a.co) ∧ W.frozen? ⟨pb a.id, 1, none⟩ = false ∧ W.frozen? ⟨pb a.id, 3, none⟩ = false ∧ But [pb a.id] w ((W.setCell ⟨pb a.id, 1, none⟩ (.int .i64 2)).setCell ⟨pb a.id, 3, none⟩ (.int .i64 c)) ∧ TM ((W.setCell ⟨pb a.id, 1, none⟩ (.int .i64 2)).setCell ⟨pb a.id, 3, none⟩ (.int .i64 c)) B S G M N pb { σ with xs := insA (runF c a) σ.xs } := fun W hB => by
        have hcW := hc.below hB
        have hb2 : But [pb a.id] w ((W.setCell ⟨pb a.id, 1, none⟩ (.int .i64 2)).setCell ⟨pb a.id, 3, none⟩ (.int .i64 c)) := ((But.of_below hB).set (p := ⟨pb a.id, 1, none⟩) (by simp) _).set (p := ⟨pb a.id, 3, none⟩) (by simp) _
        exact ⟨cell_on hB hX, hcW.cell (j := 1) rfl, hcW.cell (j := 3) rfl, hcW.fz 1, hcW.fz 3, hb2, HD _ hb2 ((hcW.set (j := 1) _).set (j := 3) _)⟩
      clear HD
      go_enter Tryd.func47, Tryd.ntmps47
      go_upto_region 5 with (go_at_call 48; refine hZ.mono ?_; rintro e w1 ⟨rfl, hB1⟩; obtain ⟨x1, x2, x3, x4, x5, x6, x7⟩ := HK w1 hB1)
      have y2 : (w1.setCell ⟨pb a.id, 1, none⟩ (.int .i64 2)).cell? ⟨pb a.id, 3, none⟩ = some (.int .i64 a.co) := by rw [World.cell?_setCell_other _ _ _ _ (by simp)]; exact x3
      have y4 : (w1.setCell ⟨pb a.id, 1, none⟩ (.int .i64 2)).frozen? ⟨pb a.id, 3, none⟩ = false := (World.frozen?_setCell _ _ _ _).trans x5
      go_region
      go_wp2_with fail
      go_ret
      exact ⟨rfl, x7.drew, x6.drew⟩
    · rw [hz] at hZ
      rw [if_pos rfl, if_neg (by decide)]
      clear h1 hz HD
      go_enter Tryd.func47, Tryd.ntmps47
      go_wp2_with (go_at_call 48; refine hZ.mono ?_; rintro e w1 ⟨rfl, hB1⟩)
      go_ret
      exact ⟨rfl, h.below hB1, .of_below hB1⟩

set_option maxHeartbeats 400000 in
set_option maxRecDepth 100000 in
theorem preD (h : TM w B S G M N pb σ) {a : Ac} (ha : a ∈ σ.xs) (hb : folB 8 a.st = true) {X : Nat} {c : Cx} (hX : w.rangeAt X 0 (cxl c)) (hne : X ≠ pb a.id) :
    Calls Tryd.prog 51 #[.pointer (some ⟨pb a.id, 0, none⟩), .pointer (some ⟨X, 0, none⟩)] w fun e w' => e = .returned (.int .i64 (noK a)) ∧ TM w' B S G M N pb (if noK a = 0 then { σ with xs := insA (preF c a) σ.xs } else σ) ∧ But [pb a.id] w w' := by
  have hc := h.a a ha
  have HD : ∀ W, noK a = 0 → But [pb a.id] w W → Cel W (pb a.id) (acA (preF c a)) 44 → TM W B S G M N pb { σ with xs := insA (preF c a) σ.xs } := fun W h0 hB hC => (h.did (good_pre _ c) ha hb h0 hB hC).1
  have f1 := hc.fz 1
  have c1 : w.cell? ⟨pb a.id, 1, none⟩ = some (.int .i64 a.st) := hc.cell (j := 1) rfl
  have h1 : Cel (w.setCell ⟨pb a.id, 1, none⟩ (.int .i64 4)) (pb a.id) (acA { a with st := 4 }) 44 := hc.set (j := 1) (.int .i64 4)
  have f3 := h1.fz 3
  have c3 : (w.setCell ⟨pb a.id, 1, none⟩ (.int .i64 4)).cell? ⟨pb a.id, 3, none⟩ = some (.int .i64 a.co) := h1.cell (j := 3) rfl
  have h2 : Cel ((w.setCell ⟨pb a.id, 1, none⟩ (.int .i64 4)).setCell ⟨pb a.id, 3, none⟩ (.int .i64 (-1))) (pb a.id) (acA { a with st := 4, co := -1 }) 44 := h1.set (j := 3) (.int .i64 (-1))
  have h2d : Cel ((w.setCell ⟨pb a.id, 1, none⟩ (.int .i64 4)).setCell ⟨pb a.id, 3, none⟩ (.int .i64 (-1))).drew (pb a.id) (acA { a with st := 4, co := -1 }) 44 := h2
  have ht := h2d.there5
  have hB1 : But [pb a.id] w (w.setCell ⟨pb a.id, 1, none⟩ (.int .i64 4)) := (But.refl _ w).set (p := ⟨pb a.id, 1, none⟩) (by simp) _
  have hB2 : But [pb a.id] w ((w.setCell ⟨pb a.id, 1, none⟩ (.int .i64 4)).setCell ⟨pb a.id, 3, none⟩ (.int .i64 (-1))) := hB1.set (p := ⟨pb a.id, 3, none⟩) (by simp) _
  have hB3 := hB2.drew.trans (But.setCells (cxl c) 5 _)
  have HN := HD _ rfl hB3 (h2d.pre c)
  have X1 : (w.setCell ⟨pb a.id, 1, none⟩ (.int .i64 4)).rangeAt X 0 (cxl c) := range_but hX hB1 (by simpa using hne)
  have X2 : ((w.setCell ⟨pb a.id, 1, none⟩ (.int .i64 4)).setCell ⟨pb a.id, 3, none⟩ (.int .i64 (-1))).rangeAt X 0 (cxl c) := range_but hX hB2 (by simpa using hne)
  have X3 := range_but hX hB3 (by simpa using hne)
  unfold noK
  rw [if_pos rfl]
  clear HD h1 h2 h2d hc hB1 hB2
  go_enter Tryd.func51, Tryd.ntmps51
  go_upto_region 1 with fail
  refine wp_region_held_drew (S := (fun w' : World => w'.rangeAt X 0 (cxl c))) (by kernel_rfl) (by exact hX) (fun hHeld => ?_)
  refine anyH_take (i := 0) (v := ?_) (some 4) rfl rfl (by kernel_rfl) (fun _ _ _ h => h) (Or.inl ⟨by rfl, ?_⟩) (by assumption) ?_
  rotate_left
  · (intro w hSw; go_simp; all_goals with_reducible rfl)
  try simp only [Act.put, List.setIfInBounds_toArray, List.set_cons_zero, List.set_cons_succ]
  refine anyH_take (i := 1) (v := ?_) (some 5) rfl rfl (by kernel_rfl) (fun _ _ _ h => h) (Or.inl ⟨by rfl, ?_⟩) (by assumption) ?_
  rotate_left
  · (intro w hSw; go_simp; all_goals with_reducible rfl)
  try simp only [Act.put, List.setIfInBounds_toArray, List.set_cons_zero, List.set_cons_succ]
  refine anyH_take (i := 2) (v := ?_) (some 6) rfl rfl (by kernel_rfl) (fun _ _ _ h => h) (Or.inl ⟨by rfl, ?_⟩) (by assumption) ?_
  rotate_left
  · (intro w hSw; go_simp; all_goals with_reducible rfl)
  try simp only [Act.put, List.setIfInBounds_toArray, List.set_cons_zero, List.set_cons_succ]
  refine anyH_take (i := 3) (v := .agg (cxl c).toArray) (some 7) rfl rfl (by kernel_rfl) (fun _ _ _ h => h) (yieldsIf_load_mid (by rfl) 30 (.tmp 1) rfl _ 0 rfl (cxl c) _ (fun w hSw => hSw) Tryd.underlying30 rfl sizeCx) (by assumption) ?_
  try simp only [Act.put, List.setIfInBounds_toArray, List.set_cons_zero, List.set_cons_succ]
  refine anyH_take (i := 4) (v := ?_) (some 8) rfl rfl (by kernel_rfl) (fun _ _ _ h => h) (Or.inl ⟨by rfl, ?_⟩) (by assumption) ?_
  rotate_left
  · (intro w hSw; go_simp; all_goals with_reducible rfl)
  try simp only [Act.put, List.setIfInBounds_toArray, List.set_cons_zero, List.set_cons_succ]
  refine anyH_take (i := 5) (v := ?_) (some 9) rfl rfl (by kernel_rfl) (fun _ _ _ h => h) (Or.inl ⟨by rfl, ?_⟩) (by assumption) ?_
  rotate_left
  · (intro w hSw; go_simp; all_goals with_reducible rfl)
  try simp only [Act.put, List.setIfInBounds_toArray, List.set_cons_zero, List.set_cons_succ]
  refine anyH_one (i := 6) (by kernel_rfl) rfl (fun K hK => ?_)
  go_simp
  refine hK.out _ _ X1 (fun hHeld => ?_)
  clear hK K
  try simp only [Act.put, List.setIfInBounds_toArray, List.set_cons_zero, List.set_cons_succ]
  refine anyH_take (i := 7) (v := ?_) (some 10) rfl rfl (by kernel_rfl) (fun _ _ _ h => h) (Or.inl ⟨by rfl, ?_⟩) (by assumption) ?_
  rotate_left
  · (intro w hSw; go_simp; all_goals with_reducible rfl)
  try simp only [Act.put, List.setIfInBounds_toArray, List.set_cons_zero, List.set_cons_succ]
  refine anyH_take (i := 8) (v := ?_) (some 11) rfl rfl (by kernel_rfl) (fun _ _ _ h => h) (Or.inl ⟨by rfl, ?_⟩) (by assumption) ?_
  rotate_left
  · (intro w hSw; go_simp; all_goals with_reducible rfl)
  try simp only [Act.put, List.setIfInBounds_toArray, List.set_cons_zero, List.set_cons_succ]
  refine anyH_one (i := 9) (by kernel_rfl) rfl (fun K hK => ?_)
  go_simp
  refine hK.out _ _ X2 (fun hHeld => ?_)
  clear hK K
  try simp only [Act.put, List.setIfInBounds_toArray, List.set_cons_zero, List.set_cons_succ]
  refine anyH_take (i := 10) (v := ?_) (some 12) rfl rfl (by kernel_rfl) (fun _ _ _ h => h) (Or.inl ⟨by rfl, ?_⟩) (by assumption) ?_
  rotate_left
  · (intro w hSw; go_simp; all_goals with_reducible rfl)
  try simp only [Act.put, List.setIfInBounds_toArray, List.set_cons_zero, List.set_cons_succ]
  refine anyH_take (i := 11) (v := ?_) (some 13) rfl rfl (by kernel_rfl) (fun _ _ _ h => h) (Or.inl ⟨by rfl, ?_⟩) (by assumption) ?_
  rotate_left
  · (intro w hSw; go_simp; all_goals with_reducible rfl)
  try simp only [Act.put, List.setIfInBounds_toArray, List.set_cons_zero, List.set_cons_succ]
  refine anyH_one (i := 12) (by kernel_rfl) rfl (fun K hK => ?_)
  rw [if_pos (by rfl)]
  refine wp_store_mid 30 (.tmp 13) (.tmp 7) rfl (pb a.id) 5 (cxl c).toArray rfl rfl ht sizeCx (cxl_one c) ?_
  rw [show (cxl c).toArray.toList = cxl c from rfl]
  refine hK.out _ _ X3 (fun hHeld => ?_)
  clear hK K
  try simp only [Act.put]
  refine wpAnyH_done (by kernel_rfl) ?_ _
  go_wp2_with fail
  go_ret
  exact ⟨rfl, HN, hB3⟩

set_option maxHeartbeats 400000 in
set_option maxRecDepth 100000 in
theorem cacD (h : TM w B S G M N pb σ) {a : Ac} (ha : a ∈ σ.xs) (hb : folB 16 a.st = true) :
    Calls Tryd.prog 52 #[.pointer (some ⟨pb a.id, 0, none⟩)] w fun e w' => e = .returned (.int .i64 (noK a)) ∧ TM w' B S G M N pb (if noK a = 0 then { σ with xs := insA (cacF a) σ.xs } else σ) ∧ But [pb a.id] w w' := by
  have hc := h.a a ha
  have HD : ∀ W, noK a = 0 → But [pb a.id] w W → Cel W (pb a.id) (acA (cacF a)) 44 → TM W B S G M N pb { σ with xs := insA (cacF a) σ.xs } := fun W h0 hB hC => (h.did (good_cac _) ha hb h0 hB hC).1
  have hcd : Cel w.drew (pb a.id) (acA a) 44 := hc
  have ht := hcd.there
  have hB : But [pb a.id] w (w.drew.setCells (pb a.id) 0 (c16 (cacF a))) := (But.refl _ w).drew.trans (But.setCells _ 0 _)
  have HN := HD _ rfl hB (hcd.ac (cacF a))
  have X0 : w.cell? ⟨pb a.id, 0, none⟩ = some (.int .i64 a.id) ∧ w.cell? ⟨pb a.id, 2, none⟩ = some (.int .i64 a.sp) := ⟨hc.cell (j := 0) rfl, hc.cell (j := 2) rfl⟩
  have hc1 := hcd.ac (cacF a)
  have X1 : (w.drew.setCells (pb a.id) 0 (c16 (cacF a))).cell? ⟨pb a.id, 0, none⟩ = some (.int .i64 a.id) ∧ (w.drew.setCells (pb a.id) 0 (c16 (cacF a))).cell? ⟨pb a.id, 2, none⟩ = some (.int .i64 a.sp) := ⟨hc1.cell (j := 0) rfl, hc1.cell (j := 2) rfl⟩
  unfold noK
  rw [if_pos rfl]
  clear HD hc hcd hc1
  go_enter Tryd.func52, Tryd.ntmps52
  go_upto_region 1 with fail
  refine wp_region_held_drew (S := (fun w' : World => w'.cell? ⟨pb a.id, 0, none⟩ = some (.int .i64 a.id) ∧ w'.cell? ⟨pb a.id, 2, none⟩ = some (.int .i64 a.sp))) (by kernel_rfl) (by exact X0) (fun hHeld => ?_)
  refine anyH_take (i := 0) (v := ?_) (some 3) rfl rfl (by kernel_rfl) (fun _ _ _ h => h) (Or.inl ⟨by rfl, ?_⟩) (by assumption) ?_
  rotate_left
  · (intro w hSw; obtain ⟨e0, e2⟩ := hSw; go_simp; all_goals with_reducible rfl)
  try simp only [Act.put, List.setIfInBounds_toArray, List.set_cons_zero, List.set_cons_succ]
  refine anyH_take (i := 1) (v := ?_) (some 4) rfl rfl (by kernel_rfl) (fun _ _ _ h => h) (Or.inl ⟨by rfl, ?_⟩) (by assumption) ?_
  rotate_left
  · (intro w hSw; obtain ⟨e0, e2⟩ := hSw; go_simp; all_goals with_reducible rfl)
  try simp only [Act.put, List.setIfInBounds_toArray, List.set_cons_zero, List.set_cons_succ]
  refine anyH_take (i := 2) (v := ?_) (some 5) rfl rfl (by kernel_rfl) (fun _ _ _ h => h) (Or.inl ⟨by rfl, ?_⟩) (by assumption) ?_
  rotate_left
  · (intro w hSw; obtain ⟨e0, e2⟩ := hSw; go_simp; all_goals with_reducible rfl)
  try simp only [Act.put, List.setIfInBounds_toArray, List.set_cons_zero, List.set_cons_succ]
  refine anyH_take (i := 3) (v := ?_) (some 6) rfl rfl (by kernel_rfl) (fun _ _ _ h => h) (Or.inl ⟨by rfl, ?_⟩) (by assumption) ?_
  rotate_left
  · (intro w hSw; obtain ⟨e0, e2⟩ := hSw; go_simp; all_goals with_reducible rfl)
  try simp only [Act.put, List.setIfInBounds_toArray, List.set_cons_zero, List.set_cons_succ]
  refine anyH_take (i := 4) (v := ?_) (some 7) rfl rfl (by kernel_rfl) (fun _ _ _ h => h) (Or.inl ⟨by rfl, ?_⟩) (by assumption) ?_
  rotate_left
  · (intro w hSw; obtain ⟨e0, e2⟩ := hSw; go_simp; all_goals with_reducible rfl)
  try simp only [Act.put, List.setIfInBounds_toArray, List.set_cons_zero, List.set_cons_succ]
  refine anyH_take (i := 5) (v := ?_) (some 8) rfl rfl (by kernel_rfl) (fun _ _ _ h => h) (Or.inl ⟨by rfl, ?_⟩) (by assumption) ?_
  rotate_left
  · (intro w hSw; obtain ⟨e0, e2⟩ := hSw; go_simp; all_goals with_reducible rfl)
  try simp only [Act.put, List.setIfInBounds_toArray, List.set_cons_zero, List.set_cons_succ]
  refine anyH_take (i := 6) (v := ?_) (some 9) rfl rfl (by kernel_rfl) (fun _ _ _ h => h) (Or.inl ⟨by rfl, ?_⟩) (by assumption) ?_
  rotate_left
  · (intro w hSw; obtain ⟨e0, e2⟩ := hSw; go_simp; all_goals with_reducible rfl)
  try simp only [Act.put, List.setIfInBounds_toArray, List.set_cons_zero, List.set_cons_succ]
  refine anyH_take (i := 7) (v := ?_) (some 10) rfl rfl (by kernel_rfl) (fun _ _ _ h => h) (Or.inl ⟨by rfl, ?_⟩) (by assumption) ?_
  rotate_left
  · (intro w hSw; obtain ⟨e0, e2⟩ := hSw; go_simp; all_goals with_reducible rfl)
  try simp only [Act.put, List.setIfInBounds_toArray, List.set_cons_zero, List.set_cons_succ]
  refine anyH_take (i := 8) (v := ?_) (some 11) rfl rfl (by kernel_rfl) (fun _ _ _ h => h) (Or.inl ⟨by rfl, ?_⟩) (by assumption) ?_
  rotate_left
  · (intro w hSw; obtain ⟨e0, e2⟩ := hSw; go_simp; all_goals with_reducible rfl)
  try simp only [Act.put, List.setIfInBounds_toArray, List.set_cons_zero, List.set_cons_succ]
  refine anyH_take (i := 9) (v := ?_) (some 12) rfl rfl (by kernel_rfl) (fun _ _ _ h => h) (Or.inl ⟨by rfl, ?_⟩) (by assumption) ?_
  rotate_left
  · (intro w hSw; obtain ⟨e0, e2⟩ := hSw; go_simp; all_goals with_reducible rfl)
  try simp only [Act.put, List.setIfInBounds_toArray, List.set_cons_zero, List.set_cons_succ]
  refine anyH_take (i := 10) (v := ?_) (some 13) rfl rfl (by kernel_rfl) (fun _ _ _ h => h) (Or.inl ⟨by rfl, ?_⟩) (by assumption) ?_
  rotate_left
  · (intro w hSw; obtain ⟨e0, e2⟩ := hSw; go_simp; all_goals with_reducible rfl)
  try simp only [Act.put, List.setIfInBounds_toArray, List.set_cons_zero, List.set_cons_succ]
  refine anyH_one (i := 11) (by kernel_rfl) rfl (fun K hK => ?_)
  rw [if_pos (by rfl)]
  refine wp_store_mid 44 (.tmp 13) (.tmp 12) rfl (pb a.id) 0 (c16 (cacF a)).toArray rfl rfl ht size16L (c16_one _) ?_
  rw [show (c16 (cacF a)).toArray.toList = c16 (cacF a) from rfl]
  refine hK.out _ _ X1 (fun hHeld => ?_)
  clear hK K
  try simp only [Act.put]
  refine wpAnyH_done (by kernel_rfl) ?_ _
  go_wp2_with fail
  go_ret
  exact ⟨rfl, HN, hB⟩
end
end Go.Proofs.YtjgclehghnmhnaaDoor
