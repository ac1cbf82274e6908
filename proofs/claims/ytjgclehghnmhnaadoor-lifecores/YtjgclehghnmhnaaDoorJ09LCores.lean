/- The document's Cache. -/
/- The document's Run. -/
import Derived.Test.YtjgclehghnmhnaaDoorJ03LCores
namespace Go.Proofs.YtjgclehghnmhnaaDoor
open Go Go.RowKit

section
variable {w : World} {M N : Nat} {R : List Nat} {σ : Sta}
set_option maxHeartbeats 2000000 in
set_option maxRecDepth 100000 in
theorem rcache_any (h : RQ w M R N σ) (i : Int) :
    Calls Tryd.prog 37 #[.pointer (some ⟨M, 0, none⟩), .int .i64 i] w fun e w' => e = .returned (.int .i64 (opE 16 noK σ.xs i)) ∧ ∃ R', RQ w' M R' N (opS 16 noK cacF σ i) ∧ Step R w R' w' := by
  have hI := rin3 h i 2 3 4
  obtain ⟨z, hz⟩ : ∃ z, Hid (inE [2, 3, 4] σ.xs i = z) := ⟨_, rfl⟩
  obtain ⟨v, hv⟩ : ∃ v, Hid (getV σ.xs i = v) := ⟨_, rfl⟩
  obtain ⟨pe, hpe⟩ : ∃ pe, Hid (opE 16 noK σ.xs i = pe) := ⟨_, rfl⟩
  obtain ⟨τ, hτ⟩ : ∃ τ, Hid (opS 16 noK cacF σ i = τ) := ⟨_, rfl⟩
  have HC := Hid.mk (in_told fol16 σ i _ _ z v pe τ hz.out hv.out hpe.out hτ.out)
  rw [hpe.out, hτ.out]
  rw [hz.out, hv.out] at hI
  have HP := fun (a' : Ac) (ha : v ∈ σ.xs) (e : a'.id = v.id) W b => rput_upd h ha W a' e b
  have HK := fun W b => RQ.back h (W := W) b
  clear hz hv hpe hτ
  go_enter Tryd.func37, Tryd.ntmps37
  go_upto_region 1 with fail
  refine wp_region_lit ?_
  iterate 11 go_step
  go_at_call 60
  with_reducible refine hI.mono ?_
  rintro e w1 ⟨rfl, b1⟩
  dsimp only
  iterate 13 go_step
  have hB1 : Below w.heap.size w w1 := b1
  have hz0 := Cel.new w1 (acA zA) 47
  have hth := hz0.there
  have hcv : Cel ((w1.alloc (.cells (acA zA) 47)).setCells w1.heap.size 0 (c16 v)) w1.heap.size (acA v) 47 := hz0.ac _
  have hB2 : Below w.heap.size w ((w1.alloc (.cells (acA zA) 47)).setCells w1.heap.size 0 (c16 v)) := (hB1.alloc hB1.size (.cells (acA zA) 47)).trans ((But.setCells _ 0 _).below (by have := hB1.size; simp; omega) (by simpa using hB1.size))
  have hXs : w.heap.size ≤ w1.heap.size := hB1.size
  rw [zA_A] at *
  refine wpList_store_mid rfl 47 (.tmp 5) (.tmp 12) rfl w1.heap.size 0 (c16 v).toArray rfl rfl hth size16R (c16_one _) ?_
  rw [show (c16 v).toArray.toList = c16 v from rfl]
  generalize (World.setCells _ w1.heap.size 0 (c16 v)) = W1 at *
  generalize w1.heap.size = X at *
  generalize (Value.agg (acA v)) = ga at *
  clear hI hB1 b1 hz0 hth w1
  rcases HC.out with ⟨hz', HZ⟩ | ⟨rfl, hm, HZ⟩
  · have hz1 : ¬ z = 0 := by simpa using hz'
    go_wp2_with fail
    go_ret
    exact ⟨by rw [HZ.out.1]; rfl, by rw [HZ.out.2]; exact HK _ hB2⟩
  · rw [show noK v = 0 from rfl, if_pos rfl] at HZ
    have hP : Calls Tryd.prog 58 #[.pointer (some ⟨M, 0, none⟩), .agg #[.int .i64 v.id, .int .i64 5, .int .i64 v.sp, .int .i64 (-1), .int .i64 0, .int .i64 0, .int .i64 0, .int .i64 0, .int .i64 0, .int .i64 0, .int .i64 0, .int .i64 0, .int .i64 0, .int .i64 0, .int .i64 0, .int .i64 0]] W1 fun e w' => e = .returned (.tuple #[]) ∧ ∃ R', RQ w' M R' N { σ with xs := insA (cacF v) σ.xs } ∧ Step R w R' w' := HP (cacF v) hm.out rfl _ hB2
    have n0 : W1.cell? ⟨X, 0, none⟩ = some (.int .i64 v.id) := hcv.cell (j := 0) rfl
    have n2 : W1.cell? ⟨X, 2, none⟩ = some (.int .i64 v.sp) := hcv.cell (j := 2) rfl
    clear HP HK hcv hB2
    go_wp2_with (go_at_call 58; (with_reducible refine hP.mono ?_); rintro e w3 ⟨rfl, R', q, s⟩)
    go_ret
    exact ⟨by rw [HZ.out.1]; rfl, R', by rw [HZ.out.2]; exact q, s⟩
end
end Go.Proofs.YtjgclehghnmhnaaDoor
namespace Go.Proofs.YtjgclehghnmhnaaDoor
open Go Go.RowKit

section
variable {w : World} {M N : Nat} {R : List Nat} {σ : Sta}
set_option maxHeartbeats 2000000 in
set_option maxRecDepth 100000 in
theorem rrun_any (h : RQ w M R N σ) (hL : ∀ a ∈ σ.xs, Lc a) (i c : Int) :
    Calls Tryd.prog 33 #[.pointer (some ⟨M, 0, none⟩), .int .i64 i, .int .i64 c] w fun e w' => e = .returned (.int .i64 (opE 1 (runK σ.xs c) σ.xs i)) ∧ ∃ R', RQ w' M R' N (opS 1 (runK σ.xs c) (runF c) σ i) ∧ Step R w R' w' := by
  have hrow : ∃ sl cc, (∀ W, Below w.heap.size w W → W.cell? ⟨M, 1, none⟩ = some (.slice sl σ.xs.length cc) ∧ AV W sl σ.xs) ∧ σ.xs.length ≤ 4096 := by
    obtain ⟨S, A, K, v, rfl, hm⟩ := h
    obtain ⟨sl, cc, rfl, he⟩ := hm.shape
    exact ⟨sl, cc, fun W b => ⟨(hm.below b).c1, he.below b⟩, hm.len⟩
  have hI := rin1 h i 1
  obtain ⟨z, hz⟩ : ∃ z, Hid (inE [1] σ.xs i = z) := ⟨_, rfl⟩
  obtain ⟨v, hv⟩ : ∃ v, Hid (getV σ.xs i = v) := ⟨_, rfl⟩
  obtain ⟨pe, hpe⟩ : ∃ pe, Hid (opE 1 (runK σ.xs c) σ.xs i = pe) := ⟨_, rfl⟩
  obtain ⟨τ, hτ⟩ : ∃ τ, Hid (opS 1 (runK σ.xs c) (runF c) σ i = τ) := ⟨_, rfl⟩
  have HC := Hid.mk (in_told fol1 σ i _ _ z v pe τ hz.out hv.out hpe.out hτ.out)
  rw [hpe.out, hτ.out]
  rw [hz.out, hv.out] at hI
  have HP := fun (a' : Ac) (ha : v ∈ σ.xs) (e : a'.id = v.id) W b => rput_upd h ha W a' e b
  have HK := fun W b => RQ.back h (W := W) b
  clear hz hv hpe hτ
  go_enter Tryd.func33, Tryd.ntmps33
  go_upto_region 1 with fail
  refine wp_region_lit ?_
  iterate 11 go_step
  go_at_call 60
  with_reducible refine hI.mono ?_
  rintro e w1 ⟨rfl, b1⟩
  dsimp only
  iterate 13 go_step
  have hB1 : Below w.heap.size w w1 := b1
  have hz0 := Cel.new w1 (acA zA) 47
  have hth := hz0.there
  have hcv : Cel ((w1.alloc (.cells (acA zA) 47)).setCells w1.heap.size 0 (c16 v)) w1.heap.size (acA v) 47 := hz0.ac _
  have hB2 : Below w.heap.size w ((w1.alloc (.cells (acA zA) 47)).setCells w1.heap.size 0 (c16 v)) := (hB1.alloc hB1.size (.cells (acA zA) 47)).trans ((But.setCells _ 0 _).below (by have := hB1.size; simp; omega) (by simpa using hB1.size))
  have hXs : w.heap.size ≤ w1.heap.size := hB1.size
  rw [zA_A] at *
  refine wpList_store_mid rfl 47 (.tmp 7) (.tmp 16) rfl w1.heap.size 0 (c16 v).toArray rfl rfl hth size16R (c16_one _) ?_
  rw [show (c16 v).toArray.toList = c16 v from rfl]
  generalize (World.setCells _ w1.heap.size 0 (c16 v)) = W1 at *
  generalize w1.heap.size = X at *
  generalize (Value.agg (acA v)) = ga at *
  clear hI hB1 b1 hz0 hth w1
  rcases HC.out with ⟨hz', HZ⟩ | ⟨rfl, hm, HZ⟩
  · have hz1 : ¬ z = 0 := by simpa using hz'
    go_wp2_with fail
    go_ret
    exact ⟨by rw [HZ.out.1]; rfl, by rw [HZ.out.2]; exact HK _ hB2⟩
  · have hk : runK σ.xs c v = if c < 0 ∨ 64 ≤ c then 2 else if busyB σ.xs c then 3 else 0 := rfl
    rw [hk] at HZ
    by_cases hc : c < 0 ∨ 64 ≤ c
    · rw [if_pos hc, if_neg (by decide)] at HZ
      clear hk HP hrow
      by_cases hc1 : c < 0
      · clear hc
        go_wp2_with fail
        go_ret
        exact ⟨by rw [HZ.out.1]; rfl, by rw [HZ.out.2]; exact HK _ hB2⟩
      · have hc2 : 63 < c := by omega
        clear hc
        go_wp2_with fail
        go_ret
        exact ⟨by rw [HZ.out.1]; rfl, by rw [HZ.out.2]; exact HK _ hB2⟩
    · rw [if_neg hc] at HZ
      have hc1 : ¬ c < 0 := fun e => hc (.inl e)
      have hc2 : ¬ 63 < c := fun e => hc (.inr (by omega))
      have HBU : Hid (busyB σ.xs c = σ.xs.any (fun x => x.st == 2 && x.co == c)) := busy_ref hL (by omega)
      obtain ⟨bz, hbz⟩ : ∃ bz, Hid (busyB σ.xs c = bz) := ⟨_, rfl⟩
      rw [hbz.out] at HZ
      have HZ3 : Hid (bz = true → pe = 3 ∧ τ = σ) := fun e => by
        have hz' := HZ.out
        rw [if_pos e, if_neg (by decide)] at hz'
        exact hz'
      have HZ0 : Hid (bz = false → pe = 0 ∧ τ = { σ with xs := insA (runF c v) σ.xs }) := fun e => by
        have hz' := HZ.out
        rw [if_neg (by rw [e]; decide), if_pos rfl] at hz'
        exact hz'
      have HF : Hid (∀ j, j < σ.xs.length → ((ac σ.xs j).st == 2 && (ac σ.xs j).co == c) = true → bz = true) := fun j hj e => by
        rw [← hbz.out, HBU.out, List.any_eq_true]
        exact ⟨_, ac_mem hj, e⟩
      have HN : Hid ((∀ j, j < σ.xs.length → ((ac σ.xs j).st == 2 && (ac σ.xs j).co == c) = false) → bz = false) := fun ha => by
        rw [← hbz.out, HBU.out, List.any_eq_false]
        intro x hx
        obtain ⟨k, hk, rfl⟩ := List.mem_iff_getElem.1 hx
        have h1 := ha k hk
        rw [ac_of (List.getElem?_eq_getElem hk)] at h1
        simp [h1]
      clear hc hk HBU hbz HZ HC
      obtain ⟨sl, cc, hrow, hl4⟩ := hrow
      obtain ⟨n, hN⟩ : ∃ n, Hid (σ.xs.length = n) := ⟨_, rfl⟩
      rw [hN.out] at hrow hl4 HF HN
      obtain ⟨m1, he1⟩ := hrow W1 hB2
      clear h hL hrow
      go_upto_region 7 with fail
      go_loopw [32, 10] (fun v _ wr => ∃ j : Nat, j ≤ n ∧ v = .int .i64 j ∧ (∀ k, k < j → ((ac σ.xs k).st == 2 && (ac σ.xs k).co == c) = false) ∧ Below W1.heap.size W1 wr) (fun v _ _ => 4096 - (intOf v).toNat)
      case atStart => exact ⟨0, Nat.zero_le _, rfl, fun k hk => by omega, Below.refl _ _⟩
      case round =>
        obtain ⟨j, hj, rfl, hall, hb⟩ := hrel
        have HALL := Hid.mk hall
        clear hall
        by_cases hlt : j < n
        · obtain ⟨b, o, rfl, hc⟩ := he1.below hb j (by rw [hN.out]; exact hlt)
          have hxr : wr.rangeAt b (o + j * 16) (c16 (ac σ.xs j)) := hc
          have hlt' : (j : Int) < (n : Int) := by omega
          have hz0 := Cel.new wr (acA zA) 47
          have hth := hz0.there
          have hcx : Cel ((wr.alloc (.cells (acA zA) 47)).setCells wr.heap.size 0 (c16 (ac σ.xs j))) wr.heap.size (acA (ac σ.xs j)) 47 := hz0.ac _
          have B1 : Below W1.heap.size W1 ((wr.alloc (.cells (acA zA) 47)).setCells wr.heap.size 0 (c16 (ac σ.xs j))) := (hb.alloc hb.size (.cells (acA zA) 47)).trans ((But.setCells _ 0 _).below (by have := hb.size; simp; omega) (by simpa using hb.size))
          have HF1 := HF.out j hlt
          have HE : Hid (((ac σ.xs j).st == 2 && (ac σ.xs j).co == c) = false → ∀ k, k < j + 1 → ((ac σ.xs k).st == 2 && (ac σ.xs k).co == c) = false) := fun e k hk => by
            by_cases h : k = j
            · rw [h]; exact e
            · exact HALL.out k (by omega)
          clear hc hz0
          generalize ac σ.xs j = x at *
          have HF2 := Hid.mk HF1
          clear HF1
          rw [zA_A] at *
          go_upto_region 8 with fail
          refine wp_region_lit ?_
          iterate 3 go_step
          refine wpList_load_mid rfl 47 (.tmp 34) rfl b (o + j * 16) rfl (c16 x) _ hxr Tryd.underlying47 rfl size16R ?_
          iterate 3 go_step
          refine wpList_store_mid rfl 47 (.tmp 10) (.tmp 35) rfl wr.heap.size 0 (c16 x).toArray rfl rfl hth size16R (c16_one _) ?_
          rw [show (c16 x).toArray.toList = c16 x from rfl]
          generalize (World.setCells _ wr.heap.size 0 (c16 x)) = w1 at *
          generalize wr.heap.size = Y at *
          generalize (Value.agg (c16 x).toArray) = gx at *
          have n1 : w1.cell? ⟨Y, 1, none⟩ = some (.int .i64 x.st) := hcx.cell (j := 1) rfl
          have n3 : w1.cell? ⟨Y, 3, none⟩ = some (.int .i64 x.co) := hcx.cell (j := 3) rfl
          clear hcx hth hxr
          by_cases h2 : x.st = 2
          · by_cases h3 : x.co = c
            · have h2' : (x.st == 2) = true := by simpa using h2
              have h3' : (x.co == c) = true := by simpa using h3
              have HZ := Hid.mk (HZ3.out (HF2.out (by rw [h2', h3']; rfl)))
              have hB3 := hB2.trans (B1.mono hB2.size)
              clear h2 h3 HF HN HE HF2 HZ3 HZ0
              go_wp2_with fail
              go_ret
              exact ⟨by rw [HZ.out.1]; rfl, by rw [HZ.out.2]; exact HK _ hB3⟩
            · have h2' : (x.st == 2) = true := by simpa using h2
              have h3' : (x.co == c) = false := by simpa using h3
              have HE1 := Hid.mk (HE.out (by rw [h2', h3']; rfl))
              clear h2 h3 HF HN HE HF2
              go_wp2_with fail
              go_roundw
              case rel => exact ⟨j + 1, by omega, by simp, HE1.out, B1⟩
              case measure =>
                simp [intOf]
                omega
          · have h2' : (x.st == 2) = false := by simpa using h2
            have HE1 := Hid.mk (HE.out (by rw [h2']; rfl))
            clear h2 HF HN HE HF2
            go_wp2_with fail
            go_roundw
            case rel => exact ⟨j + 1, by omega, by simp, HE1.out, B1⟩
            case measure =>
              simp [intOf]
              omega
        · obtain rfl : j = n := by omega
          have HZ := Hid.mk (HZ0.out (HN.out HALL.out))
          have hcw := hcv.below hb
          have hBw := hB2.trans (hb.mono hB2.size)
          have n1 : wr.cell? ⟨X, 1, none⟩ = some (.int .i64 v.st) := hcw.cell (j := 1) rfl
          have f1 := hcw.fz 1
          have n3 : wr.cell? ⟨X, 3, none⟩ = some (.int .i64 v.co) := hcw.cell (j := 3) rfl
          have f3 := hcw.fz 3
          have hd1 := hcw.set (j := 1) (.int .i64 2)
          have hd2 : Cel ((wr.setCell ⟨X, 1, none⟩ (.int .i64 2)).setCell ⟨X, 3, none⟩ (.int .i64 c)) X (acA (runF c v)) 47 := hd1.set (j := 3) _
          have bX : Below w.heap.size w ((wr.setCell ⟨X, 1, none⟩ (.int .i64 2)).setCell ⟨X, 3, none⟩ (.int .i64 c)) := hBw.trans ((((But.refl [X] wr).set (p := ⟨X, 1, none⟩) (by simp) _).set (p := ⟨X, 3, none⟩) (by simp) _).below hBw.size (by simpa using hXs))
          have hP := HP (runF c v) hm.out rfl _ bX
          have hrv := hd2.range
          clear HP HF HN HZ3 HZ0 hcv hcw hd1 hd2 bX
          go_upto_region 13 with fail
          generalize ((wr.setCell ⟨X, 1, none⟩ (.int .i64 2)).setCell ⟨X, 3, none⟩ (.int .i64 c)) = W2 at *
          go_upto_region 13 with fail
          refine wp_region_lit ?_
          iterate 3 go_step
          refine wpList_load_mid rfl 47 (.tmp 7) rfl X 0 rfl (c16 (runF c v)) _ hrv Tryd.underlying47 rfl size16R ?_
          go_wp2_with (go_at_call 58; (refine hP.mono ?_); rintro e w3 ⟨rfl, R', q, s⟩)
          go_ret
          exact ⟨by rw [HZ.out.1]; rfl, R', by rw [HZ.out.2]; exact q, s⟩
end
end Go.Proofs.YtjgclehghnmhnaaDoor
