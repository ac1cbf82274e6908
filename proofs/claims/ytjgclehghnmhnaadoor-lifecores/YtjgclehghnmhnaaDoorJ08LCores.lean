/- The document's Load. -/
/- The document's Block. -/
import Derived.Test.YtjgclehghnmhnaaDoorJ03LCores
namespace Go.Proofs.YtjgclehghnmhnaaDoor
open Go Go.RowKit

section
variable {w : World} {M N : Nat} {R : List Nat} {σ : Sta}
set_option maxHeartbeats 2000000 in
set_option maxRecDepth 100000 in
theorem rload_any (h : RQ w M R N σ) (i t : Int) :
    Calls Tryd.prog 34 #[.pointer (some ⟨M, 0, none⟩), .int .i64 i, .int .i64 t] w fun e w' => e = .returned (.int .i64 (opE 2 (lodK t) σ.xs i)) ∧ ∃ R', RQ w' M R' N (opS 2 (lodK t) (lodF t) σ i) ∧ Step R w R' w' := by
  have hI := rin1 h i 2
  obtain ⟨z, hz⟩ : ∃ z, Hid (inE [2] σ.xs i = z) := ⟨_, rfl⟩
  obtain ⟨v, hv⟩ : ∃ v, Hid (getV σ.xs i = v) := ⟨_, rfl⟩
  obtain ⟨pe, hpe⟩ : ∃ pe, Hid (opE 2 (lodK t) σ.xs i = pe) := ⟨_, rfl⟩
  obtain ⟨τ, hτ⟩ : ∃ τ, Hid (opS 2 (lodK t) (lodF t) σ i = τ) := ⟨_, rfl⟩
  have HC := Hid.mk (in_told fol2 σ i _ _ z v pe τ hz.out hv.out hpe.out hτ.out)
  rw [hpe.out, hτ.out]
  rw [hz.out, hv.out] at hI
  have HP := fun (a' : Ac) (ha : v ∈ σ.xs) (e : a'.id = v.id) W b => rput_upd h ha W a' e b
  have HK := fun W b => RQ.back h (W := W) b
  clear hz hv hpe hτ
  go_enter Tryd.func34, Tryd.ntmps34
  go_upto_region 1 with fail
  refine wp_region_lit ?_
  iterate 11 go_step
  go_at_call 60
  with_reducible refine hI.mono ?_
  rintro e w1 ⟨rfl, b1⟩
  dsimp only
  iterate 13 go_step
  have hB1 : Below w.heap.size w w1 := b1
  have hz0 := Cel.new w1 (acA zA) 47
  have hth := hz0.there
  have hcv : Cel ((w1.alloc (.cells (acA zA) 47)).setCells w1.heap.size 0 (c16 v)) w1.heap.size (acA v) 47 := hz0.ac _
  have hB2 : Below w.heap.size w ((w1.alloc (.cells (acA zA) 47)).setCells w1.heap.size 0 (c16 v)) := (hB1.alloc hB1.size (.cells (acA zA) 47)).trans ((But.setCells _ 0 _).below (by have := hB1.size; simp; omega) (by simpa using hB1.size))
  have hXs : w.heap.size ≤ w1.heap.size := hB1.size
  rw [zA_A] at *
  refine wpList_store_mid rfl 47 (.tmp 7) (.tmp 14) rfl w1.heap.size 0 (c16 v).toArray rfl rfl hth size16R (c16_one _) ?_
  rw [show (c16 v).toArray.toList = c16 v from rfl]
  generalize (World.setCells _ w1.heap.size 0 (c16 v)) = W1 at *
  generalize w1.heap.size = X at *
  generalize (Value.agg (acA v)) = ga at *
  clear hI hB1 b1 hz0 hth w1
  rcases HC.out with ⟨hz', HZ⟩ | ⟨rfl, hm, HZ⟩
  · have hz1 : ¬ z = 0 := by simpa using hz'
    go_wp2_with fail
    go_ret
    exact ⟨by rw [HZ.out.1]; rfl, by rw [HZ.out.2]; exact HK _ hB2⟩
  · have hk : lodK t v = if t < 0 then 2 else 0 := rfl
    rw [hk] at HZ
    by_cases ht : t < 0
    · rw [if_pos ht, if_neg (by decide)] at HZ
      clear hk HP
      go_wp2_with fail
      go_ret
      exact ⟨by rw [HZ.out.1]; rfl, by rw [HZ.out.2]; exact HK _ hB2⟩
    · rw [if_neg ht, if_pos rfl] at HZ
      clear hk HK
      have n4 : W1.cell? ⟨X, 4, none⟩ = some (.int .i64 v.th) := hcv.cell (j := 4) rfl
      have f4 := hcv.fz 4
      have hc1 : Cel (W1.setCell ⟨X, 4, none⟩ (.int .i64 t)) X (acA (lodF t v)) 47 := hcv.set (j := 4) _
      have bX : Below w.heap.size w (W1.setCell ⟨X, 4, none⟩ (.int .i64 t)) := hB2.trans (((But.refl [X] W1).set (p := ⟨X, 4, none⟩) (by simp) _).below hB2.size (by simpa using hXs))
      have hP := HP (lodF t v) hm.out rfl _ bX
      have hrv := hc1.range
      clear HP hcv hc1 bX
      go_upto_region 7 with fail
      generalize (W1.setCell ⟨X, 4, none⟩ (.int .i64 t)) = W2 at *
      go_upto_region 7 with fail
      refine wp_region_lit ?_
      iterate 3 go_step
      refine wpList_load_mid rfl 47 (.tmp 7) rfl X 0 rfl (c16 (lodF t v)) _ hrv Tryd.underlying47 rfl size16R ?_
      go_wp2_with (go_at_call 58; (refine hP.mono ?_); rintro e w3 ⟨rfl, R', q, s⟩)
      go_ret
      exact ⟨by rw [HZ.out.1]; rfl, R', by rw [HZ.out.2]; exact q, s⟩
end
end Go.Proofs.YtjgclehghnmhnaaDoor
namespace Go.Proofs.YtjgclehghnmhnaaDoor
open Go Go.RowKit

section
variable {w : World} {M N : Nat} {R : List Nat} {σ : Sta}
set_option maxHeartbeats 2000000 in
set_option maxRecDepth 100000 in
theorem rblock_any (h : RQ w M R N σ) (i : Int) :
    Calls Tryd.prog 35 #[.pointer (some ⟨M, 0, none⟩), .int .i64 i] w fun e w' => e = .returned (.int .i64 (opE 4 blkK σ.xs i)) ∧ ∃ R', RQ w' M R' N (opS 4 blkK blkF σ i) ∧ Step R w R' w' := by
  have hI := rin1 h i 2
  obtain ⟨z, hz⟩ : ∃ z, Hid (inE [2] σ.xs i = z) := ⟨_, rfl⟩
  obtain ⟨v, hv⟩ : ∃ v, Hid (getV σ.xs i = v) := ⟨_, rfl⟩
  obtain ⟨pe, hpe⟩ : ∃ pe, Hid (opE 4 blkK σ.xs i = pe) := ⟨_, rfl⟩
  obtain ⟨τ, hτ⟩ : ∃ τ, Hid (opS 4 blkK blkF σ i = τ) := ⟨_, rfl⟩
  have HC := Hid.mk (in_told fol4 σ i _ _ z v pe τ hz.out hv.out hpe.out hτ.out)
  rw [hpe.out, hτ.out]
  rw [hz.out, hv.out] at hI
  have HP := fun (a' : Ac) (ha : v ∈ σ.xs) (e : a'.id = v.id) W b => rput_upd h ha W a' e b
  have HK := fun W b => RQ.back h (W := W) b
  clear hz hv hpe hτ
  go_enter Tryd.func35, Tryd.ntmps35
  go_upto_region 1 with fail
  refine wp_region_lit ?_
  iterate 11 go_step
  go_at_call 60
  with_reducible refine hI.mono ?_
  rintro e w1 ⟨rfl, b1⟩
  dsimp only
  iterate 13 go_step
  have hB1 : Below w.heap.size w w1 := b1
  have hz0 := Cel.new w1 (acA zA) 47
  have hth := hz0.there
  have hcv : Cel ((w1.alloc (.cells (acA zA) 47)).setCells w1.heap.size 0 (c16 v)) w1.heap.size (acA v) 47 := hz0.ac _
  have hB2 : Below w.heap.size w ((w1.alloc (.cells (acA zA) 47)).setCells w1.heap.size 0 (c16 v)) := (hB1.alloc hB1.size (.cells (acA zA) 47)).trans ((But.setCells _ 0 _).below (by have := hB1.size; simp; omega) (by simpa using hB1.size))
  have hXs : w.heap.size ≤ w1.heap.size := hB1.size
  rw [zA_A] at *
  refine wpList_store_mid rfl 47 (.tmp 5) (.tmp 12) rfl w1.heap.size 0 (c16 v).toArray rfl rfl hth size16R (c16_one _) ?_
  rw [show (c16 v).toArray.toList = c16 v from rfl]
  generalize (World.setCells _ w1.heap.size 0 (c16 v)) = W1 at *
  generalize w1.heap.size = X at *
  generalize (Value.agg (acA v)) = ga at *
  clear hI hB1 b1 hz0 hth w1
  rcases HC.out with ⟨hz', HZ⟩ | ⟨rfl, hm, HZ⟩
  · have hz1 : ¬ z = 0 := by simpa using hz'
    go_wp2_with fail
    go_ret
    exact ⟨by rw [HZ.out.1]; rfl, by rw [HZ.out.2]; exact HK _ hB2⟩
  · have hk : blkK v = if v.th = 0 then 5 else 0 := rfl
    rw [hk] at HZ
    have n4 : W1.cell? ⟨X, 4, none⟩ = some (.int .i64 v.th) := hcv.cell (j := 4) rfl
    by_cases ht : v.th = 0
    · rw [if_pos ht, if_neg (by decide)] at HZ
      have ht' : (v.th == 0) = true := by simpa using ht
      clear hk HP ht
      go_wp2_with fail
      go_ret
      exact ⟨by rw [HZ.out.1]; rfl, by rw [HZ.out.2]; exact HK _ hB2⟩
    · rw [if_neg ht, if_pos rfl] at HZ
      have ht' : (v.th == 0) = false := by simpa using ht
      clear hk HK ht
      have n1 : W1.cell? ⟨X, 1, none⟩ = some (.int .i64 v.st) := hcv.cell (j := 1) rfl
      have f1 := hcv.fz 1
      have n3 : W1.cell? ⟨X, 3, none⟩ = some (.int .i64 v.co) := hcv.cell (j := 3) rfl
      have f3 := hcv.fz 3
      have hc1 := hcv.set (j := 1) (.int .i64 3)
      have hc2 : Cel ((W1.setCell ⟨X, 1, none⟩ (.int .i64 3)).setCell ⟨X, 3, none⟩ (.int .i64 (-1))) X (acA (blkF v)) 47 := hc1.set (j := 3) _
      have bX : Below w.heap.size w ((W1.setCell ⟨X, 1, none⟩ (.int .i64 3)).setCell ⟨X, 3, none⟩ (.int .i64 (-1))) := hB2.trans ((((But.refl [X] W1).set (p := ⟨X, 1, none⟩) (by simp) _).set (p := ⟨X, 3, none⟩) (by simp) _).below hB2.size (by simpa using hXs))
      have hP := HP (blkF v) hm.out rfl _ bX
      have hrv := hc2.range
      clear HP hcv hc1 hc2 bX
      go_upto_region 7 with fail
      generalize ((W1.setCell ⟨X, 1, none⟩ (.int .i64 3)).setCell ⟨X, 3, none⟩ (.int .i64 (-1))) = W2 at *
      go_upto_region 7 with fail
      refine wp_region_lit ?_
      iterate 3 go_step
      refine wpList_load_mid rfl 47 (.tmp 5) rfl X 0 rfl (c16 (blkF v)) _ hrv Tryd.underlying47 rfl size16R ?_
      go_wp2_with (go_at_call 58; (refine hP.mono ?_); rintro e w3 ⟨rfl, R', q, s⟩)
      go_ret
      exact ⟨by rw [HZ.out.1]; rfl, R', by rw [HZ.out.2]; exact q, s⟩
end
end Go.Proofs.YtjgclehghnmhnaaDoor
