/- The document's Preempt. -/
/- pass. -/
import Derived.Test.YtjgclehghnmhnaaDoorJ03LCores
import Derived.Test.YtjgclehghnmhnaaDoorJ02LCores
namespace Go.Proofs.YtjgclehghnmhnaaDoor
open Go Go.RowKit

section
variable {w : World} {M N : Nat} {R : List Nat} {σ : Sta}
set_option maxHeartbeats 2000000 in
set_option maxRecDepth 100000 in
theorem rpre_any (h : RQ w M R N σ) (i : Int) (c : Cx) :
    Calls Tryd.prog 36 #[.pointer (some ⟨M, 0, none⟩), .int .i64 i, .agg (cxa c)] w fun e w' => e = .returned (.int .i64 (opE 8 noK σ.xs i)) ∧ ∃ R', RQ w' M R' N (opS 8 noK (preF c) σ i) ∧ Step R w R' w' := by
  have bc : Below w.heap.size w (w.alloc (.cells (cxa c) 30)) := (Below.refl _ _).alloc (Nat.le_refl _) _
  have hcb := Cel.new w (cxa c) 30
  have hI := rin1 (h.below bc) i 2
  obtain ⟨z, hz⟩ : ∃ z, Hid (inE [2] σ.xs i = z) := ⟨_, rfl⟩
  obtain ⟨v, hv⟩ : ∃ v, Hid (getV σ.xs i = v) := ⟨_, rfl⟩
  obtain ⟨pe, hpe⟩ : ∃ pe, Hid (opE 8 noK σ.xs i = pe) := ⟨_, rfl⟩
  obtain ⟨τ, hτ⟩ : ∃ τ, Hid (opS 8 noK (preF c) σ i = τ) := ⟨_, rfl⟩
  have HC := Hid.mk (in_told fol8 σ i _ _ z v pe τ hz.out hv.out hpe.out hτ.out)
  rw [hpe.out, hτ.out]
  rw [hz.out, hv.out] at hI
  have HP := fun (a' : Ac) (ha : v ∈ σ.xs) (e : a'.id = v.id) W b => rput_upd h ha W a' e b
  have HK := fun W b => RQ.back h (W := W) b
  have HS1 : Hid ((w.alloc (.cells (cxa c) 30)).heap.size = w.heap.size + 1) := by
    show _ = _
    simp
  rw [HS1.out] at hI
  clear hz hv hpe hτ
  go_enter Tryd.func36, Tryd.ntmps36
  go_upto_region 1 with fail
  refine wp_region_lit ?_
  iterate 11 go_step
  go_at_call 60
  with_reducible refine hI.mono ?_
  rintro e w1 ⟨rfl, b1⟩
  dsimp only
  iterate 13 go_step
  have b2 : Below (w.alloc (.cells (cxa c) 30)).heap.size (w.alloc (.cells (cxa c) 30)) w1 := by rw [HS1.out]; exact b1
  have hB1 : Below w.heap.size w w1 := below2 bc bc.size b2
  have hcb1 := hcb.below b2
  have hz0 := Cel.new w1 (acA zA) 47
  have hth := hz0.there
  have hcv : Cel ((w1.alloc (.cells (acA zA) 47)).setCells w1.heap.size 0 (c16 v)) w1.heap.size (acA v) 47 := hz0.ac _
  have hB2 : Below w.heap.size w ((w1.alloc (.cells (acA zA) 47)).setCells w1.heap.size 0 (c16 v)) := (hB1.alloc hB1.size (.cells (acA zA) 47)).trans ((But.setCells _ 0 _).below (by have := hB1.size; simp; omega) (by simpa using hB1.size))
  have hXs : w.heap.size < w1.heap.size := hcb1.lt
  rw [zA_A] at *
  refine wpList_store_mid rfl 47 (.tmp 7) (.tmp 14) rfl w1.heap.size 0 (c16 v).toArray rfl rfl hth size16R (c16_one _) ?_
  rw [show (c16 v).toArray.toList = c16 v from rfl]
  have hcb2 : Cel ((w1.alloc (.cells #[.int .i64 0, .int .i64 0, .int .i64 0, .int .i64 0, .int .i64 0, .int .i64 0, .int .i64 0, .int .i64 0, .int .i64 0, .int .i64 0, .int .i64 0, .int .i64 0, .int .i64 0, .int .i64 0, .int .i64 0, .int .i64 0] 47)).setCells w1.heap.size 0 (c16 v)) w.heap.size (cxa c) 30 := (hcb1.below ((Below.refl _ w1).alloc (Nat.le_refl _) _)).but (But.setCells _ 0 _) (by have := hcb1.lt; simp; omega)
  generalize (World.setCells _ w1.heap.size 0 (c16 v)) = W1 at *
  generalize w1.heap.size = X at *
  generalize (Value.agg (acA v)) = ga at *
  clear hI hB1 b1 b2 hz0 hth hcb hcb1 bc w1
  rcases HC.out with ⟨hz', HZ⟩ | ⟨rfl, hm, HZ⟩
  · have hz1 : ¬ z = 0 := by simpa using hz'
    go_wp2_with fail
    go_ret
    exact ⟨by rw [HZ.out.1]; rfl, by rw [HZ.out.2]; exact HK _ hB2⟩
  · rw [show noK v = 0 from rfl, if_pos rfl] at HZ
    have n1 : W1.cell? ⟨X, 1, none⟩ = some (.int .i64 v.st) := hcv.cell (j := 1) rfl
    have f1 := hcv.fz 1
    have h1 : Cel (W1.setCell ⟨X, 1, none⟩ (.int .i64 4)) X (acA { v with st := 4 }) 47 := hcv.set (j := 1) _
    have n3 : (W1.setCell ⟨X, 1, none⟩ (.int .i64 4)).cell? ⟨X, 3, none⟩ = some (.int .i64 v.co) := h1.cell (j := 3) rfl
    have f3 := h1.fz 3
    have h2 : Cel ((W1.setCell ⟨X, 1, none⟩ (.int .i64 4)).setCell ⟨X, 3, none⟩ (.int .i64 (-1))) X (acA { v with st := 4, co := -1 }) 47 := h1.set (j := 3) _
    have h2d : Cel ((W1.setCell ⟨X, 1, none⟩ (.int .i64 4)).setCell ⟨X, 3, none⟩ (.int .i64 (-1))).drew X (acA { v with st := 4, co := -1 }) 47 := h2
    have ht := h2d.there5
    have hB3 : But [X] W1 (W1.setCell ⟨X, 1, none⟩ (.int .i64 4)) := ((But.refl [X] W1).set (p := ⟨X, 1, none⟩) (by simp) _)
    have hB4 : But [X] W1 ((W1.setCell ⟨X, 1, none⟩ (.int .i64 4)).setCell ⟨X, 3, none⟩ (.int .i64 (-1))) := hB3.set (p := ⟨X, 3, none⟩) (by simp) _
    have hB5 : But [X] W1 (((W1.setCell ⟨X, 1, none⟩ (.int .i64 4)).setCell ⟨X, 3, none⟩ (.int .i64 (-1))).drew.setCells X 5 (cxl c)) := hB4.drew.trans (But.setCells (cxl c) 5 _)
    have h3 : Cel (((W1.setCell ⟨X, 1, none⟩ (.int .i64 4)).setCell ⟨X, 3, none⟩ (.int .i64 (-1))).drew.setCells X 5 (cxl c)) X (acA (preF c v)) 47 := Cel.cx _ _ _ _ _ _ _ _ _ _ _ h2d
    have hne : w.heap.size ≠ X := by omega
    have X0 : W1.rangeAt w.heap.size 0 (cxl c) := fun j u hu => by
      rw [Nat.zero_add]
      exact hcb2.cell (by rw [show cxa c = (cxl c).toArray from rfl]; simpa using hu)
    have X1 : (W1.setCell ⟨X, 1, none⟩ (.int .i64 4)).rangeAt w.heap.size 0 (cxl c) := range_but X0 hB3 (by simpa using hne)
    have X2 : ((W1.setCell ⟨X, 1, none⟩ (.int .i64 4)).setCell ⟨X, 3, none⟩ (.int .i64 (-1))).rangeAt w.heap.size 0 (cxl c) := range_but X0 hB4 (by simpa using hne)
    have X3 : (((W1.setCell ⟨X, 1, none⟩ (.int .i64 4)).setCell ⟨X, 3, none⟩ (.int .i64 (-1))).drew.setCells X 5 (cxl c)).rangeAt w.heap.size 0 (cxl c) := range_but X0 hB5 (by simpa using hne)
    have bX : Below w.heap.size w (((W1.setCell ⟨X, 1, none⟩ (.int .i64 4)).setCell ⟨X, 3, none⟩ (.int .i64 (-1))).drew.setCells X 5 (cxl c)) := hB2.trans (hB5.below hB2.size (by simpa using Nat.le_of_lt hXs))
    have hP := HP (preF c v) hm.out rfl _ bX
    have hrv := h3.range
    clear HP HK hcv h1 h2 h2d h3 hB3 hB4 hB5 bX hcb2 hB2
    go_upto_region 4 with fail
    refine wp_region_held_drew (S := (fun w' : World => w'.rangeAt w.heap.size 0 (cxl c))) (by kernel_rfl) (by exact X0) (fun hHeld => ?_)
    refine anyH_take (i := 0) (v := .agg (cxl c).toArray) (some 19) rfl rfl (by kernel_rfl) (fun _ _ _ h => h) (yieldsIf_load_mid (by rfl) 30 (.tmp 5) rfl _ 0 rfl (cxl c) _ (fun w hSw => hSw) Tryd.underlying30 rfl sizeCx) (by assumption) ?_
    try simp only [Act.put, List.setIfInBounds_toArray, List.set_cons_zero, List.set_cons_succ]
    refine anyH_take (i := 1) (v := ?_) (some 20) rfl rfl (by kernel_rfl) (fun _ _ _ h => h) (Or.inl ⟨by rfl, ?_⟩) (by assumption) ?_
    rotate_left
    · (intro w hSw; go_simp; all_goals with_reducible rfl)
    try simp only [Act.put, List.setIfInBounds_toArray, List.set_cons_zero, List.set_cons_succ]
    refine anyH_one (i := 2) (by kernel_rfl) rfl (fun K hK => ?_)
    go_simp
    refine hK.out _ _ X1 (fun hHeld => ?_)
    clear hK K
    try simp only [Act.put, List.setIfInBounds_toArray, List.set_cons_zero, List.set_cons_succ]
    refine anyH_take (i := 3) (v := ?_) (some 21) rfl rfl (by kernel_rfl) (fun _ _ _ h => h) (Or.inl ⟨by rfl, ?_⟩) (by assumption) ?_
    rotate_left
    · (intro w hSw; go_simp; all_goals with_reducible rfl)
    try simp only [Act.put, List.setIfInBounds_toArray, List.set_cons_zero, List.set_cons_succ]
    refine anyH_one (i := 4) (by kernel_rfl) rfl (fun K hK => ?_)
    go_simp
    refine hK.out _ _ X2 (fun hHeld => ?_)
    clear hK K
    try simp only [Act.put, List.setIfInBounds_toArray, List.set_cons_zero, List.set_cons_succ]
    refine anyH_take (i := 5) (v := ?_) (some 22) rfl rfl (by kernel_rfl) (fun _ _ _ h => h) (Or.inl ⟨by rfl, ?_⟩) (by assumption) ?_
    rotate_left
    · (intro w hSw; go_simp; all_goals with_reducible rfl)
    try simp only [Act.put, List.setIfInBounds_toArray, List.set_cons_zero, List.set_cons_succ]
    refine anyH_one (i := 6) (by kernel_rfl) rfl (fun K hK => ?_)
    rw [if_pos (by rfl)]
    refine wp_store_mid 30 (.tmp 22) (.tmp 19) rfl X 5 (cxl c).toArray rfl rfl ht sizeCx (cxl_one c) ?_
    rw [show (cxl c).toArray.toList = cxl c from rfl]
    refine hK.out _ _ X3 (fun hHeld => ?_)
    clear hK K
    try simp only [Act.put]
    refine wpAnyH_done (by kernel_rfl) ?_ _
    go_upto_region 5 with fail
    refine wp_region_lit ?_
    iterate 3 go_step
    refine wpList_load_mid rfl 47 (.tmp 7) rfl X 0 rfl (c16 (preF c v)) _ hrv Tryd.underlying47 rfl size16R ?_
    go_wp2_with (go_at_call 58; (refine hP.mono ?_); rintro e w3 ⟨rfl, R', q, s⟩)
    go_ret
    exact ⟨by rw [HZ.out.1]; rfl, R', by rw [HZ.out.2]; exact q, s⟩
end
end Go.Proofs.YtjgclehghnmhnaaDoor
namespace Go.Proofs.YtjgclehghnmhnaaDoor
open Go Go.RowKit

section
variable {w : World} {B S G M N : Nat} {pb : Int → Nat} {σ : Sta}

set_option maxHeartbeats 400000 in
set_option maxRecDepth 100000 in
theorem pass_lod (h : TM w B S G M N pb σ) {i : Int} (hi : In64 i) (hV : Env w) {X : Nat} {t : Int} (hX : w.cell? ⟨X, 0, none⟩ = some (.int .i64 t)) :
    Calls Tryd.prog 45 #[.func (.func 46) #[.pointer (some ⟨B, 0, none⟩)] #[], .int .i64 i, .int .u8 2, .func (.func 49) #[] #[.pointer (some ⟨X, 0, none⟩)]] w fun e w' => e = .returned (.int .i64 (opE 2 (lodK t) σ.xs i)) ∧ TM w' B S G M N pb (opS 2 (lodK t) (lodF t) σ i) ∧ But (bT B S G M pb σ.xs) w w' := by
  unfold opE
  cases hf : fndA σ.xs i with
  | none =>
    have hA := ask_none (s := 2) h hi hf
    rw [opS_none hf]
    clear hf
    dsimp only
    go_enter Tryd.func45, Tryd.ntmps45
    go_wp2_with (go_at_call 46; refine hA.mono ?_; rintro e w' ⟨rfl, hw⟩; subst w')
    go_ret
    exact ⟨rfl, h, But.refl _ _⟩
  | some a =>
    have hA := ask_some (s := 2) h hf (by simp [stepB]) hV.f
    obtain ⟨ha, rfl⟩ := fnd_some hf
    cases hb : folB 2 a.st
    · rw [hb] at hA
      dsimp only
      rw [hb, if_neg (by simp)]
      rw [if_neg (by simp)] at hA
      rw [opS_no hf hb]
      clear hf hb
      go_enter Tryd.func45, Tryd.ntmps45
      go_wp2_with (go_at_call 46; refine hA.mono ?_; rintro e w' ⟨rfl, hw⟩; subst w')
      go_ret
      exact ⟨rfl, h, But.refl _ _⟩
    · have hD := lodD h ha hb hX
      rw [hb] at hA
      dsimp only
      rw [hb, if_pos rfl]
      rw [if_pos rfl] at hA
      rw [opS_eq hf hb]
      clear hf hb
      generalize (if (lodK t) a = 0 then { σ with xs := insA ((lodF t) a) σ.xs } else σ) = σ1 at hD ⊢
      generalize (lodK t) a = ea at hD ⊢
      go_enter Tryd.func45, Tryd.ntmps45
      go_wp2_with (first
        | (go_at_call 46; refine hA.mono ?_; rintro e w' ⟨rfl, hw⟩; subst w')
        | (go_at_call 49; (with_reducible refine hD.mono ?_); rintro e w1 ⟨rfl, h1, hb1⟩))
      go_ret
      exact ⟨rfl, h1, hb1.mono (fun x hx => by rw [List.mem_singleton.1 hx]; exact bT_mem ha)⟩

set_option maxHeartbeats 400000 in
set_option maxRecDepth 100000 in
theorem pass_blk (h : TM w B S G M N pb σ) {i : Int} (hi : In64 i) (hV : Env w) :
    Calls Tryd.prog 45 #[.func (.func 46) #[.pointer (some ⟨B, 0, none⟩)] #[], .int .i64 i, .int .u8 4, .func (.func 50) #[] #[]] w fun e w' => e = .returned (.int .i64 (opE 4 (blkK) σ.xs i)) ∧ TM w' B S G M N pb (opS 4 (blkK) (blkF) σ i) ∧ But (bT B S G M pb σ.xs) w w' := by
  unfold opE
  cases hf : fndA σ.xs i with
  | none =>
    have hA := ask_none (s := 4) h hi hf
    rw [opS_none hf]
    clear hf
    dsimp only
    go_enter Tryd.func45, Tryd.ntmps45
    go_wp2_with (go_at_call 46; refine hA.mono ?_; rintro e w' ⟨rfl, hw⟩; subst w')
    go_ret
    exact ⟨rfl, h, But.refl _ _⟩
  | some a =>
    have hA := ask_some (s := 4) h hf (by simp [stepB]) hV.f
    obtain ⟨ha, rfl⟩ := fnd_some hf
    cases hb : folB 4 a.st
    · rw [hb] at hA
      dsimp only
      rw [hb, if_neg (by simp)]
      rw [if_neg (by simp)] at hA
      rw [opS_no hf hb]
      clear hf hb
      go_enter Tryd.func45, Tryd.ntmps45
      go_wp2_with (go_at_call 46; refine hA.mono ?_; rintro e w' ⟨rfl, hw⟩; subst w')
      go_ret
      exact ⟨rfl, h, But.refl _ _⟩
    · have hD := blkD h ha hb
      rw [hb] at hA
      dsimp only
      rw [hb, if_pos rfl]
      rw [if_pos rfl] at hA
      rw [opS_eq hf hb]
      clear hf hb
      generalize (if (blkK) a = 0 then { σ with xs := insA ((blkF) a) σ.xs } else σ) = σ1 at hD ⊢
      generalize (blkK) a = ea at hD ⊢
      go_enter Tryd.func45, Tryd.ntmps45
      go_wp2_with (first
        | (go_at_call 46; refine hA.mono ?_; rintro e w' ⟨rfl, hw⟩; subst w')
        | (go_at_call 50; (with_reducible refine hD.mono ?_); rintro e w1 ⟨rfl, h1, hb1⟩))
      go_ret
      exact ⟨rfl, h1, hb1.mono (fun x hx => by rw [List.mem_singleton.1 hx]; exact bT_mem ha)⟩

set_option maxHeartbeats 400000 in
set_option maxRecDepth 100000 in
theorem pass_run (h : TM w B S G M N pb σ) {i : Int} (hi : In64 i) (hV : Env w) {X Y : Nat} {c : Int} (hX : w.cell? ⟨X, 0, none⟩ = some (.int .i64 c)) (hY : w.cell? ⟨Y, 0, none⟩ = some (.pointer (some ⟨B, 0, none⟩))) :
    Calls Tryd.prog 45 #[.func (.func 46) #[.pointer (some ⟨B, 0, none⟩)] #[], .int .i64 i, .int .u8 1, .func (.func 47) #[] #[.pointer (some ⟨X, 0, none⟩), .pointer (some ⟨Y, 0, none⟩)]] w fun e w' => e = .returned (.int .i64 (opE 1 (runK σ.xs c) σ.xs i)) ∧ TM w' B S G M N pb (opS 1 (runK σ.xs c) (runF c) σ i) ∧ But (bT B S G M pb σ.xs) w w' := by
  unfold opE
  cases hf : fndA σ.xs i with
  | none =>
    have hA := ask_none (s := 1) h hi hf
    rw [opS_none hf]
    clear hf
    dsimp only
    go_enter Tryd.func45, Tryd.ntmps45
    go_wp2_with (go_at_call 46; refine hA.mono ?_; rintro e w' ⟨rfl, hw⟩; subst w')
    go_ret
    exact ⟨rfl, h, But.refl _ _⟩
  | some a =>
    have hA := ask_some (s := 1) h hf (by simp [stepB]) hV.f
    obtain ⟨ha, rfl⟩ := fnd_some hf
    cases hb : folB 1 a.st
    · rw [hb] at hA
      dsimp only
      rw [hb, if_neg (by simp)]
      rw [if_neg (by simp)] at hA
      rw [opS_no hf hb]
      clear hf hb
      go_enter Tryd.func45, Tryd.ntmps45
      go_wp2_with (go_at_call 46; refine hA.mono ?_; rintro e w' ⟨rfl, hw⟩; subst w')
      go_ret
      exact ⟨rfl, h, But.refl _ _⟩
    · have hD := runD h ha hb hX hY
      rw [hb] at hA
      dsimp only
      rw [hb, if_pos rfl]
      rw [if_pos rfl] at hA
      rw [opS_eq hf hb]
      clear hf hb
      generalize (if (runK σ.xs c) a = 0 then { σ with xs := insA ((runF c) a) σ.xs } else σ) = σ1 at hD ⊢
      generalize (runK σ.xs c) a = ea at hD ⊢
      go_enter Tryd.func45, Tryd.ntmps45
      go_wp2_with (first
        | (go_at_call 46; refine hA.mono ?_; rintro e w' ⟨rfl, hw⟩; subst w')
        | (go_at_call 47; (with_reducible refine hD.mono ?_); rintro e w1 ⟨rfl, h1, hb1⟩))
      go_ret
      exact ⟨rfl, h1, hb1.mono (fun x hx => by rw [List.mem_singleton.1 hx]; exact bT_mem ha)⟩

set_option maxHeartbeats 400000 in
set_option maxRecDepth 100000 in
theorem pass_pre (h : TM w B S G M N pb σ) {i : Int} (hi : In64 i) (hV : Env w) {X : Nat} {c : Cx} (hX : w.rangeAt X 0 (cxl c)) (hne : X ∉ bT B S G M pb σ.xs) :
    Calls Tryd.prog 45 #[.func (.func 46) #[.pointer (some ⟨B, 0, none⟩)] #[], .int .i64 i, .int .u8 8, .func (.func 51) #[] #[.pointer (some ⟨X, 0, none⟩)]] w fun e w' => e = .returned (.int .i64 (opE 8 (noK) σ.xs i)) ∧ TM w' B S G M N pb (opS 8 (noK) (preF c) σ i) ∧ But (bT B S G M pb σ.xs) w w' := by
  unfold opE
  cases hf : fndA σ.xs i with
  | none =>
    have hA := ask_none (s := 8) h hi hf
    rw [opS_none hf]
    clear hf
    dsimp only
    go_enter Tryd.func45, Tryd.ntmps45
    go_wp2_with (go_at_call 46; refine hA.mono ?_; rintro e w' ⟨rfl, hw⟩; subst w')
    go_ret
    exact ⟨rfl, h, But.refl _ _⟩
  | some a =>
    have hA := ask_some (s := 8) h hf (by simp [stepB]) hV.f
    obtain ⟨ha, rfl⟩ := fnd_some hf
    cases hb : folB 8 a.st
    · rw [hb] at hA
      dsimp only
      rw [hb, if_neg (by simp)]
      rw [if_neg (by simp)] at hA
      rw [opS_no hf hb]
      clear hf hb
      go_enter Tryd.func45, Tryd.ntmps45
      go_wp2_with (go_at_call 46; refine hA.mono ?_; rintro e w' ⟨rfl, hw⟩; subst w')
      go_ret
      exact ⟨rfl, h, But.refl _ _⟩
    · have hD := preD h ha hb hX (fun e => hne (e ▸ bT_mem ha))
      rw [hb] at hA
      dsimp only
      rw [hb, if_pos rfl]
      rw [if_pos rfl] at hA
      rw [opS_eq hf hb]
      clear hf hb
      generalize (if (noK) a = 0 then { σ with xs := insA ((preF c) a) σ.xs } else σ) = σ1 at hD ⊢
      generalize (noK) a = ea at hD ⊢
      go_enter Tryd.func45, Tryd.ntmps45
      go_wp2_with (first
        | (go_at_call 46; refine hA.mono ?_; rintro e w' ⟨rfl, hw⟩; subst w')
        | (go_at_call 51; (with_reducible refine hD.mono ?_); rintro e w1 ⟨rfl, h1, hb1⟩))
      go_ret
      exact ⟨rfl, h1, hb1.mono (fun x hx => by rw [List.mem_singleton.1 hx]; exact bT_mem ha)⟩

set_option maxHeartbeats 400000 in
set_option maxRecDepth 100000 in
theorem pass_cac (h : TM w B S G M N pb σ) {i : Int} (hi : In64 i) (hV : Env w) :
    Calls Tryd.prog 45 #[.func (.func 46) #[.pointer (some ⟨B, 0, none⟩)] #[], .int .i64 i, .int .u8 16, .func (.func 52) #[] #[]] w fun e w' => e = .returned (.int .i64 (opE 16 (noK) σ.xs i)) ∧ TM w' B S G M N pb (opS 16 (noK) (cacF) σ i) ∧ But (bT B S G M pb σ.xs) w w' := by
  unfold opE
  cases hf : fndA σ.xs i with
  | none =>
    have hA := ask_none (s := 16) h hi hf
    rw [opS_none hf]
    clear hf
    dsimp only
    go_enter Tryd.func45, Tryd.ntmps45
    go_wp2_with (go_at_call 46; refine hA.mono ?_; rintro e w' ⟨rfl, hw⟩; subst w')
    go_ret
    exact ⟨rfl, h, But.refl _ _⟩
  | some a =>
    have hA := ask_some (s := 16) h hf (by simp [stepB]) hV.f
    obtain ⟨ha, rfl⟩ := fnd_some hf
    cases hb : folB 16 a.st
    · rw [hb] at hA
      dsimp only
      rw [hb, if_neg (by simp)]
      rw [if_neg (by simp)] at hA
      rw [opS_no hf hb]
      clear hf hb
      go_enter Tryd.func45, Tryd.ntmps45
      go_wp2_with (go_at_call 46; refine hA.mono ?_; rintro e w' ⟨rfl, hw⟩; subst w')
      go_ret
      exact ⟨rfl, h, But.refl _ _⟩
    · have hD := cacD h ha hb
      rw [hb] at hA
      dsimp only
      rw [hb, if_pos rfl]
      rw [if_pos rfl] at hA
      rw [opS_eq hf hb]
      clear hf hb
      generalize (if (noK) a = 0 then { σ with xs := insA ((cacF) a) σ.xs } else σ) = σ1 at hD ⊢
      generalize (noK) a = ea at hD ⊢
      go_enter Tryd.func45, Tryd.ntmps45
      go_wp2_with (first
        | (go_at_call 46; refine hA.mono ?_; rintro e w' ⟨rfl, hw⟩; subst w')
        | (go_at_call 52; (with_reducible refine hD.mono ?_); rintro e w1 ⟨rfl, h1, hb1⟩))
      go_ret
      exact ⟨rfl, h1, hb1.mono (fun x hx => by rw [List.mem_singleton.1 hx]; exact bT_mem ha)⟩
end
end Go.Proofs.YtjgclehghnmhnaaDoor
