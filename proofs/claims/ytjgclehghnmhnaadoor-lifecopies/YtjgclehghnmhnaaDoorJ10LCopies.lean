/- The document's Run. -/
/- The document's Preempt. -/
import Derived.Test.YtjgclehghnmhnaaDoorJ03LCopies
namespace Go.Proofs.YtjgclehghnmhnaaDoor
open Go Go.RowKit

section
variable {w : World} {M N : Nat} {R : List Nat} {σ : Sta}
set_option maxHeartbeats 2000000 in
set_option maxRecDepth 100000 in
theorem rrun_any (h : RQ w M R N σ) (hL : ∀ a ∈ σ.xs, Lc a) (i c : Int) :
    Calls Tryd.prog 33 #[.pointer (some ⟨M, 0, none⟩), .int .i64 i, .int .i64 c] w fun e w' => e = .returned (.int .i64 (opE 1 (runK σ.xs c) σ.xs i)) ∧ ∃ R', RQ w' M R' N (opS 1 (runK σ.xs c) (runF c) σ i) ∧ Step R w R' w' := by
  have hrow : ∃ sl cc, (∀ W, Below w.heap.size w W → W.cell? ⟨M, 1, none⟩ = some (.slice sl σ.xs.length cc) ∧ AV W sl σ.xs) ∧ σ.xs.length ≤ 4096 := by
    obtain ⟨S, A, K, v, rfl, hm⟩ := h
    obtain ⟨sl, cc, rfl, he⟩ := hm.shape
    exact ⟨sl, cc, fun W b => ⟨(hm.below b).c1, he.below b⟩, hm.len⟩
  have hI := rin1 h i 1
  obtain ⟨z, hz⟩ : ∃ z, Hid (inE [1] σ.xs i = z) := ⟨_, rfl⟩
  obtain ⟨v, hv⟩ : ∃ v, Hid (getV σ.xs i = v) := ⟨_, rfl⟩
  obtain ⟨pe, hpe⟩ : ∃ pe, Hid (opE 1 (runK σ.xs c) σ.xs i = pe) := ⟨_, rfl⟩
  obtain ⟨τ, hτ⟩ : ∃ τ, Hid (opS 1 (runK σ.xs c) (runF c) σ i = τ) := ⟨_, rfl⟩
  have HC := Hid.mk (in_told fol1 σ i _ _ z v pe τ hz.out hv.out hpe.out hτ.out)
  rw [hpe.out, hτ.out]
  rw [hz.out, hv.out] at hI
  have HP := fun (a' : Ac) (ha : v ∈ σ.xs) (e : a'.id = v.id) W b => rput_upd h ha W a' e b
  have HK := fun W b => RQ.back h (W := W) b
  clear hz hv hpe hτ
  go_enter Tryd.func33, Tryd.ntmps33
  go_upto_region 1 with fail
  refine wp_region_lit ?_
  iterate 11 go_step
  go_at_call 60
  with_reducible refine hI.mono ?_
  rintro e w1 ⟨rfl, b1⟩
  dsimp only
  iterate 13 go_step
  have hB1 : Below w.heap.size w w1 := b1
  have hz0 := Cel.new w1 (acA zA) 47
  have hth := hz0.there
  have hcv : Cel ((w1.alloc (.cells (acA zA) 47)).setCells w1.heap.size 0 (c16 v)) w1.heap.size (acA v) 47 := hz0.ac _
  have hB2 : Below w.heap.size w ((w1.alloc (.cells (acA zA) 47)).setCells w1.heap.size 0 (c16 v)) := (hB1.alloc hB1.size (.cells (acA zA) 47)).trans ((But.setCells _ 0 _).below (by have := hB1.size; simp; omega) (by simpa using hB1.size))
  have hXs : w.heap.size ≤ w1.heap.size := hB1.size
  rw [zA_A] at *
  refine wpList_store_mid rfl 47 (.tmp 7) (.tmp 16) rfl w1.heap.size 0 (c16 v).toArray rfl rfl hth size16R (c16_one _) ?_
  rw [show (c16 v).toArray.toList = c16 v from rfl]
  generalize (World.setCells _ w1.heap.size 0 (c16 v)) = W1 at *
  generalize w1.heap.size = X at *
  generalize (Value.agg (acA v)) = ga at *
  clear hI hB1 b1 hz0 hth w1
  rcases HC.out with ⟨hz', HZ⟩ | ⟨rfl, hm, HZ⟩
  · have hz1 : ¬ z = 0 := by simpa using hz'
    go_wp2_with fail
    go_ret
    exact ⟨by rw [HZ.out.1]; rfl, by rw [HZ.out.2]; exact HK _ hB2⟩
  · have hk : runK σ.xs c v = if c < 0 ∨ 64 ≤ c then 2 else if busyB σ.xs c then 3 else 0 := rfl
    rw [hk] at HZ
    by_cases hc : c < 0 ∨ 64 ≤ c
    · rw [if_pos hc, if_neg (by decide)] at HZ
      clear hk HP hrow
      by_cases hc1 : c < 0
      · clear hc
        go_wp2_with fail
        go_ret
        exact ⟨by rw [HZ.out.1]; rfl, by rw [HZ.out.2]; exact HK _ hB2⟩
      · have hc2 : 63 < c := by omega
        clear hc
        go_wp2_with fail
        go_ret
        exact ⟨by rw [HZ.out.1]; rfl, by rw [HZ.out.2]; exact HK _ hB2⟩
    · rw [if_neg hc] at HZ
      have hc1 : ¬ c < 0 := fun e => hc (.inl e)
      have hc2 : ¬ 63 < c := fun e => hc (.inr (by omega))
      have HBU : Hid (busyB σ.xs c = σ.xs.any (fun x => x.st == 2 && x.co == c)) := busy_ref hL (by omega)
      obtain ⟨bz, hbz⟩ : ∃ bz, Hid (busyB σ.xs c = bz) := ⟨_, rfl⟩
      rw [hbz.out] at HZ
      have HZ3 : Hid (bz = true → pe = 3 ∧ τ = σ) := fun e => by
        have hz' := HZ.out
        rw [if_pos e, if_neg (by decide)] at hz'
        exact hz'
      have HZ0 : Hid (bz = false → pe = 0 ∧ τ = { σ with xs := insA (runF c v) σ.xs }) := fun e => by
        have hz' := HZ.out
        rw [if_neg (by rw [e]; decide), if_pos rfl] at hz'
        exact hz'
      have HF : Hid (∀ j, j < σ.xs.length → ((ac σ.xs j).st == 2 && (ac σ.xs j).co == c) = true → bz = true) := fun j hj e => by
        rw [← hbz.out, HBU.out, List.any_eq_true]
        exact ⟨_, ac_mem hj, e⟩
      have HN : Hid ((∀ j, j < σ.xs.length → ((ac σ.xs j).st == 2 && (ac σ.xs j).co == c) = false) → bz = false) := fun ha => by
        rw [← hbz.out, HBU.out, List.any_eq_false]
        intro x hx
        obtain ⟨k, hk, rfl⟩ := List.mem_iff_getElem.1 hx
        have h1 := ha k hk
        rw [ac_of (List.getElem?_eq_getElem hk)] at h1
        simp [h1]
      clear hc hk HBU hbz HZ HC
      obtain ⟨sl, cc, hrow, hl4⟩ := hrow
      obtain ⟨n, hN⟩ : ∃ n, Hid (σ.xs.length = n) := ⟨_, rfl⟩
      rw [hN.out] at hrow hl4 HF HN
      obtain ⟨m1, he1⟩ := hrow W1 hB2
      clear h hL hrow
      go_upto_region 7 with fail
      go_loopw [32, 10] (fun v _ wr => ∃ j : Nat, j ≤ n ∧ v = .int .i64 j ∧ (∀ k, k < j → ((ac σ.xs k).st == 2 && (ac σ.xs k).co == c) = false) ∧ Below W1.heap.size W1 wr) (fun v _ _ => 4096 - (intOf v).toNat)
      case atStart => exact ⟨0, Nat.zero_le _, rfl, fun k hk => by omega, Below.refl _ _⟩
      case round =>
        obtain ⟨j, hj, rfl, hall, hb⟩ := hrel
        have HALL := Hid.mk hall
        clear hall
        by_cases hlt : j < n
        · obtain ⟨b, o, rfl, hc⟩ := he1.below hb j (by rw [hN.out]; exact hlt)
          have hxr : wr.rangeAt b (o + j * 16) (c16 (ac σ.xs j)) := hc
          have hlt' : (j : Int) < (n : Int) := by omega
          have hz0 := Cel.new wr (acA zA) 47
          have hth := hz0.there
          have hcx : Cel ((wr.alloc (.cells (acA zA) 47)).setCells wr.heap.size 0 (c16 (ac σ.xs j))) wr.heap.size (acA (ac σ.xs j)) 47 := hz0.ac _
          have B1 : Below W1.heap.size W1 ((wr.alloc (.cells (acA zA) 47)).setCells wr.heap.size 0 (c16 (ac σ.xs j))) := (hb.alloc hb.size (.cells (acA zA) 47)).trans ((But.setCells _ 0 _).below (by have := hb.size; simp; omega) (by simpa using hb.size))
          have HF1 := HF.out j hlt
          have HE : Hid (((ac σ.xs j).st == 2 && (ac σ.xs j).co == c) = false → ∀ k, k < j + 1 → ((ac σ.xs k).st == 2 && (ac σ.xs k).co == c) = false) := fun e k hk => by
            by_cases h : k = j
            · rw [h]; exact e
            · exact HALL.out k (by omega)
          clear hc hz0
          generalize ac σ.xs j = x at *
          have HF2 := Hid.mk HF1
          clear HF1
          rw [zA_A] at *
          go_upto_region 8 with fail
          refine wp_region_lit ?_
          iterate 3 go_step
          refine wpList_load_mid rfl 47 (.tmp 34) rfl b (o + j * 16) rfl (c16 x) _ hxr Tryd.underlying47 rfl size16R ?_
          iterate 3 go_step
          refine wpList_store_mid rfl 47 (.tmp 10) (.tmp 35) rfl wr.heap.size 0 (c16 x).toArray rfl rfl hth size16R (c16_one _) ?_
          rw [show (c16 x).toArray.toList = c16 x from rfl]
          generalize (World.setCells _ wr.heap.size 0 (c16 x)) = w1 at *
          generalize wr.heap.size = Y at *
          generalize (Value.agg (c16 x).toArray) = gx at *
          have n1 : w1.cell? ⟨Y, 1, none⟩ = some (.int .i64 x.st) := hcx.cell (j := 1) rfl
          have n3 : w1.cell? ⟨Y, 3, none⟩ = some (.int .i64 x.co) := hcx.cell (j := 3) rfl
          clear hcx hth hxr
          by_cases h2 : x.st = 2
          · by_cases h3 : x.co = c
            · have h2' : (x.st == 2) = true := by simpa using h2
              have h3' : (x.co == c) = true := by simpa using h3
              have HZ := Hid.mk (HZ3.out (HF2.out (by rw [h2', h3']; rfl)))
              have hB3 := hB2.trans (B1.mono hB2.size)
              clear h2 h3 HF HN HE HF2 HZ3 HZ0
              go_wp2_with fail
              go_ret
              exact ⟨by rw [HZ.out.1]; rfl, by rw [HZ.out.2]; exact HK _ hB3⟩
            · have h2' : (x.st == 2) = true := by simpa using h2
              have h3' : (x.co == c) = false := by simpa using h3
              have HE1 := Hid.mk (HE.out (by rw [h2', h3']; rfl))
              clear h2 h3 HF HN HE HF2
              go_wp2_with fail
              go_roundw
              case rel => exact ⟨j + 1, by omega, by simp, HE1.out, B1⟩
              case measure =>
                simp [intOf]
                omega
          · have h2' : (x.st == 2) = false := by simpa using h2
            have HE1 := Hid.mk (HE.out (by rw [h2']; rfl))
            clear h2 HF HN HE HF2
            go_wp2_with fail
            go_roundw
            case rel => exact ⟨j + 1, by omega, by simp, HE1.out, B1⟩
            case measure =>
              simp [intOf]
              omega
        · obtain rfl : j = n := by omega
          have HZ := Hid.mk (HZ0.out (HN.out HALL.out))
          have hcw := hcv.below hb
          have hBw := hB2.trans (hb.mono hB2.size)
          have n1 : wr.cell? ⟨X, 1, none⟩ = some (.int .i64 v.st) := hcw.cell (j := 1) rfl
          have f1 := hcw.fz 1
          have n3 : wr.cell? ⟨X, 3, none⟩ = some (.int .i64 v.co) := hcw.cell (j := 3) rfl
          have f3 := hcw.fz 3
          have hd1 := hcw.set (j := 1) (.int .i64 2)
          have hd2 : Cel ((wr.setCell ⟨X, 1, none⟩ (.int .i64 2)).setCell ⟨X, 3, none⟩ (.int .i64 c)) X (acA (runF c v)) 47 := hd1.set (j := 3) _
          have bX : Below w.heap.size w ((wr.setCell ⟨X, 1, none⟩ (.int .i64 2)).setCell ⟨X, 3, none⟩ (.int .i64 c)) := hBw.trans ((((But.refl [X] wr).set (p := ⟨X, 1, none⟩) (by simp) _).set (p := ⟨X, 3, none⟩) (by simp) _).below hBw.size (by simpa using hXs))
          have hP := HP (runF c v) hm.out rfl _ bX
          have hrv := hd2.range
          clear HP HF HN HZ3 HZ0 hcv hcw hd1 hd2 bX
          go_upto_region 13 with fail
          generalize ((wr.setCell ⟨X, 1, none⟩ (.int .i64 2)).setCell ⟨X, 3, none⟩ (.int .i64 c)) = W2 at *
          go_upto_region 13 with fail
          refine wp_region_lit ?_
          iterate 3 go_step
          refine wpList_load_mid rfl 47 (.tmp 7) rfl X 0 rfl (c16 (runF c v)) _ hrv Tryd.underlying47 rfl size16R ?_
          go_wp2_with (go_at_call 58; (refine hP.mono ?_); rintro e w3 ⟨rfl, R', q, s⟩)
          go_ret
          exact ⟨by rw [HZ.out.1]; rfl, R', by rw [HZ.out.2]; exact q, s⟩
end
end Go.Proofs.YtjgclehghnmhnaaDoor
namespace Go.Proofs.YtjgclehghnmhnaaDoor
open Go Go.RowKit

section
variable {w : World} {M N : Nat} {R : List Nat} {σ : Sta}
set_option maxHeartbeats 2000000 in
set_option maxRecDepth 100000 in
theorem rpre_any (h : RQ w M R N σ) (i : Int) (c : Cx) :
    Calls Tryd.prog 36 #[.pointer (some ⟨M, 0, none⟩), .int .i64 i, .agg (cxa c)] w fun e w' => e = .returned (.int .i64 (opE 8 noK σ.xs i)) ∧ ∃ R', RQ w' M R' N (opS 8 noK (preF c) σ i) ∧ Step R w R' w' := by
  have bc : Below w.heap.size w (w.alloc (.cells (cxa c) 30)) := (Below.refl _ _).alloc (Nat.le_refl _) _
  have hcb := Cel.new w (cxa c) 30
  have hI := rin1 (h.below bc) i 2
  obtain ⟨z, hz⟩ : ∃ z, Hid (inE [2] σ.xs i = z) := ⟨_, rfl⟩
  obtain ⟨v, hv⟩ : ∃ v, Hid (getV σ.xs i = v) := ⟨_, rfl⟩
  obtain ⟨pe, hpe⟩ : ∃ pe, Hid (opE 8 noK σ.xs i = pe) := ⟨_, rfl⟩
  obtain ⟨τ, hτ⟩ : ∃ τ, Hid (opS 8 noK (preF c) σ i = τ) := ⟨_, rfl⟩
  have HC := Hid.mk (in_told fol8 σ i _ _ z v pe τ hz.out hv.out hpe.out hτ.out)
  rw [hpe.out, hτ.out]
  rw [hz.out, hv.out] at hI
  have HP := fun (a' : Ac) (ha : v ∈ σ.xs) (e : a'.id = v.id) W b => rput_upd h ha W a' e b
  have HK := fun W b => RQ.back h (W := W) b
  have HS1 : Hid ((w.alloc (.cells (cxa c) 30)).heap.size = w.heap.size + 1) := by
    show _ = _
    simp
  rw [HS1.out] at hI
  clear hz hv hpe hτ
  go_enter Tryd.func36, Tryd.ntmps36
  go_upto_region 1 with fail
  refine wp_region_lit ?_
  iterate 11 go_step
  go_at_call 60
  with_reducible refine hI.mono ?_
  rintro e w1 ⟨rfl, b1⟩
  dsimp only
  iterate 13 go_step
  have b2 : Below (w.alloc (.cells (cxa c) 30)).heap.size (w.alloc (.cells (cxa c) 30)) w1 := by rw [HS1.out]; exact b1
  have hB1 : Below w.heap.size w w1 := below2 bc bc.size b2
  have hcb1 := hcb.below b2
  have hz0 := Cel.new w1 (acA zA) 47
  have hth := hz0.there
  have hcv : Cel ((w1.alloc (.cells (acA zA) 47)).setCells w1.heap.size 0 (c16 v)) w1.heap.size (acA v) 47 := hz0.ac _
  have hB2 : Below w.heap.size w ((w1.alloc (.cells (acA zA) 47)).setCells w1.heap.size 0 (c16 v)) := (hB1.alloc hB1.size (.cells (acA zA) 47)).trans ((But.setCells _ 0 _).below (by have := hB1.size; simp; omega) (by simpa using hB1.size))
  have hXs : w.heap.size < w1.heap.size := hcb1.lt
  rw [zA_A] at *
  refine wpList_store_mid rfl 47 (.tmp 7) (.tmp 14) rfl w1.heap.size 0 (c16 v).toArray rfl rfl hth size16R (c16_one _) ?_
  rw [show (c16 v).toArray.toList = c16 v from rfl]
  have hcb2 : Cel ((w1.alloc (.cells #[.int .i64 0, .int .i64 0, .int .i64 0, .int .i64 0, .int .i64 0, .int .i64 0, .int .i64 0, .int .i64 0, .int .i64 0, .int .i64 0, .int .i64 0, .int .i64 0, .int .i64 0, .int .i64 0, .int .i64 0, .int .i64 0] 47)).setCells w1.heap.size 0 (c16 v)) w.heap.size (cxa c) 30 := (hcb1.below ((Below.refl _ w1).alloc (Nat.le_refl _) _)).but (But.setCells _ 0 _) (by have := hcb1.lt; simp; omega)
  generalize (World.setCells _ w1.heap.size 0 (c16 v)) = W1 at *
  generalize w1.heap.size = X at *
  generalize (Value.agg (acA v)) = ga at *
  clear hI hB1 b1 b2 hz0 hth hcb hcb1 bc w1
  rcases HC.out with ⟨hz', HZ⟩ | ⟨rfl, hm, HZ⟩
  · have hz1 : ¬ z = 0 := by simpa using hz'
    go_wp2_with fail
    go_ret
    exact ⟨by rw [HZ.out.1]; rfl, by rw [HZ.out.2]; exact HK _ hB2⟩
  · rw [show noK v = 0 from rfl, if_pos rfl] at HZ
    have n1 : W1.cell? ⟨X, 1, none⟩ = some (.int .i64 v.st) := hcv.cell (j := 1) rfl
    have f1 := hcv.fz 1
    have h1 : Cel (W1.setCell ⟨X, 1, none⟩ (.int .i64 4)) X (acA { v with st := 4 }) 47 := hcv.set (j := 1) _
    have n3 : (W1.setCell ⟨X, 1, none⟩ (.int .i64 4)).cell? ⟨X, 3, none⟩ = some (.int .i64 v.co) := h1.cell (j := 3) rfl
    have f3 := h1.fz 3
    have h2 : Cel ((W1.setCell ⟨X, 1, none⟩ (.int .i64 4)).setCell ⟨X, 3, none⟩ (.int .i64 (-1))) X (acA { v with st := 4, co := -1 }) 47 := h1.set (j := 3) _
    have h2d : Cel ((W1.setCell ⟨X, 1, none⟩ (.int .i64 4)).setCell ⟨X, 3, none⟩ (.int .i64 (-1))).drew X (acA { v with st := 4, co := -1 }) 47 := h2
    have ht := h2d.there5
    have hB3 : But [X] W1 (W1.setCell ⟨X, 1, none⟩ (.int .i64 4)) := ((But.refl [X] W1).set (p := ⟨X, 1, none⟩) (by simp) _)
    have hB4 : But [X] W1 ((W1.setCell ⟨X, 1, none⟩ (.int .i64 4)).setCell ⟨X, 3, none⟩ (.int .i64 (-1))) := hB3.set (p := ⟨X, 3, none⟩) (by simp) _
    have hB5 : But [X] W1 (((W1.setCell ⟨X, 1, none⟩ (.int .i64 4)).setCell ⟨X, 3, none⟩ (.int .i64 (-1))).drew.setCells X 5 (cxl c)) := hB4.drew.trans (But.setCells (cxl c) 5 _)
    have h3 : Cel (((W1.setCell ⟨X, 1, none⟩ (.int .i64 4)).setCell ⟨X, 3, none⟩ (.int .i64 (-1))).drew.setCells X 5 (cxl c)) X (acA (preF c v)) 47 := Cel.cx _ _ _ _ _ _ _ _ _ _ _ h2d
    have hne : w.heap.size ≠ X := by omega
    have X0 : W1.rangeAt w.heap.size 0 (cxl c) := fun j u hu => by
      rw [Nat.zero_add]
      exact hcb2.cell (by rw [show cxa c = (cxl c).toArray from rfl]; simpa using hu)
    have X1 : (W1.setCell ⟨X, 1, none⟩ (.int .i64 4)).rangeAt w.heap.size 0 (cxl c) := range_but X0 hB3 (by simpa using hne)
    have X2 : ((W1.setCell ⟨X, 1, none⟩ (.int .i64 4)).setCell ⟨X, 3, none⟩ (.int .i64 (-1))).rangeAt w.heap.size 0 (cxl c) := range_but X0 hB4 (by simpa using hne)
    have X3 : (((W1.setCell ⟨X, 1, none⟩ (.int .i64 4)).setCell ⟨X, 3, none⟩ (.int .i64 (-1))).drew.setCells X 5 (cxl c)).rangeAt w.heap.size 0 (cxl c) := range_but X0 hB5 (by simpa using hne)
    have bX : Below w.heap.size w (((W1.setCell ⟨X, 1, none⟩ (.int .i64 4)).setCell ⟨X, 3, none⟩ (.int .i64 (-1))).drew.setCells X 5 (cxl c)) := hB2.trans (hB5.below hB2.size (by simpa using Nat.le_of_lt hXs))
    have hP := HP (preF c v) hm.out rfl _ bX
    have hrv := h3.range
    clear HP HK hcv h1 h2 h2d h3 hB3 hB4 hB5 bX hcb2 hB2
    go_upto_region 4 with fail
    refine wp_region_held_drew (S := (fun w' : World => w'.rangeAt w.heap.size 0 (cxl c))) (by kernel_rfl) (by exact X0) (fun hHeld => ?_)
    refine anyH_take (i := 0) (v := .agg (cxl c).toArray) (some 19) rfl rfl (by kernel_rfl) (fun _ _ _ h => h) (yieldsIf_load_mid (by rfl) 30 (.tmp 5) rfl _ 0 rfl (cxl c) _ (fun w hSw => hSw) Tryd.underlying30 rfl sizeCx) (by assumption) ?_
    try simp only [Act.put, List.setIfInBounds_toArray, List.set_cons_zero, List.set_cons_succ]
    refine anyH_take (i := 1) (v := ?_) (some 20) rfl rfl (by kernel_rfl) (fun _ _ _ h => h) (Or.inl ⟨by rfl, ?_⟩) (by assumption) ?_
    rotate_left
    · (intro w hSw; go_simp; all_goals with_reducible rfl)
    try simp only [Act.put, List.setIfInBounds_toArray, List.set_cons_zero, List.set_cons_succ]
    refine anyH_one (i := 2) (by kernel_rfl) rfl (fun K hK => ?_)
    go_simp
    refine hK.out _ _ X1 (fun hHeld => ?_)
    clear hK K
    try simp only [Act.put, List.setIfInBounds_toArray, List.set_cons_zero, List.set_cons_succ]
    refine anyH_take (i := 3) (v := ?_) (some 21) rfl rfl (by kernel_rfl) (fun _ _ _ h => h) (Or.inl ⟨by rfl, ?_⟩) (by assumption) ?_
    rotate_left
    · (intro w hSw; go_simp; all_goals with_reducible rfl)
    try simp only [Act.put, List.setIfInBounds_toArray, List.set_cons_zero, List.set_cons_succ]
    refine anyH_one (i := 4) (by kernel_rfl) rfl (fun K hK => ?_)
    go_simp
    refine hK.out _ _ X2 (fun hHeld => ?_)
    clear hK K
    try simp only [Act.put, List.setIfInBounds_toArray, List.set_cons_zero, List.set_cons_succ]
    refine anyH_take (i := 5) (v := ?_) (some 22) rfl rfl (by kernel_rfl) (fun _ _ _ h => h) (Or.inl ⟨by rfl, ?_⟩) (by assumption) ?_
    rotate_left
    · (intro w hSw; go_simp; all_goals with_reducible rfl)
    try simp only [Act.put, List.setIfInBounds_toArray, List.set_cons_zero, List.set_cons_succ]
    refine anyH_one (i := 6) (by kernel_rfl) rfl (fun K hK => ?_)
    rw [if_pos (by rfl)]
    refine wp_store_mid 30 (.tmp 22) (.tmp 19) rfl X 5 (cxl c).toArray rfl rfl ht sizeCx (cxl_one c) ?_
    rw [show (cxl c).toArray.toList = cxl c from rfl]
    refine hK.out _ _ X3 (fun hHeld => ?_)
    clear hK K
    try simp only [Act.put]
    refine wpAnyH_done (by kernel_rfl) ?_ _
    go_upto_region 5 with fail
    refine wp_region_lit ?_
    iterate 3 go_step
    refine wpList_load_mid rfl 47 (.tmp 7) rfl X 0 rfl (c16 (preF c v)) _ hrv Tryd.underlying47 rfl size16R ?_
    go_wp2_with (go_at_call 58; (refine hP.mono ?_); rintro e w3 ⟨rfl, R', q, s⟩)
    go_ret
    exact ⟨by rw [HZ.out.1]; rfl, R', by rw [HZ.out.2]; exact q, s⟩
end
end Go.Proofs.YtjgclehghnmhnaaDoor
