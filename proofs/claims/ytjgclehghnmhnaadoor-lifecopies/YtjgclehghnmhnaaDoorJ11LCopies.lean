/- pass. -/
/- Run, Load, Block, Preempt, Cache, Discard. -/
import Derived.Test.YtjgclehghnmhnaaDoorJ03LCopies
namespace Go.Proofs.YtjgclehghnmhnaaDoor
open Go Go.RowKit

section
variable {w : World} {B S G M N : Nat} {pb : Int → Nat} {σ : Sta}

set_option maxHeartbeats 400000 in
set_option maxRecDepth 100000 in
theorem pass_lod (h : TM w B S G M N pb σ) {i : Int} (hi : In64 i) (hV : Env w) {X : Nat} {t : Int} (hX : w.cell? ⟨X, 0, none⟩ = some (.int .i64 t)) :
    Calls Tryd.prog 45 #[.func (.func 46) #[.pointer (some ⟨B, 0, none⟩)] #[], .int .i64 i, .int .u8 2, .func (.func 49) #[] #[.pointer (some ⟨X, 0, none⟩)]] w fun e w' => e = .returned (.int .i64 (opE 2 (lodK t) σ.xs i)) ∧ TM w' B S G M N pb (opS 2 (lodK t) (lodF t) σ i) ∧ But (bT B S G M pb σ.xs) w w' := by
  unfold opE
  cases hf : fndA σ.xs i with
  | none =>
    have hA := ask_none (s := 2) h hi hf
    rw [opS_none hf]
    clear hf
    dsimp only
    go_enter Tryd.func45, Tryd.ntmps45
    go_wp2_with (go_at_call 46; refine hA.mono ?_; rintro e w' ⟨rfl, hw⟩; subst w')
    go_ret
    exact ⟨rfl, h, But.refl _ _⟩
  | some a =>
    have hA := ask_some (s := 2) h hf (by simp [stepB]) hV.f
    obtain ⟨ha, rfl⟩ := fnd_some hf
    cases hb : folB 2 a.st
    · rw [hb] at hA
      dsimp only
      rw [hb, if_neg (by simp)]
      rw [if_neg (by simp)] at hA
      rw [opS_no hf hb]
      clear hf hb
      go_enter Tryd.func45, Tryd.ntmps45
      go_wp2_with (go_at_call 46; refine hA.mono ?_; rintro e w' ⟨rfl, hw⟩; subst w')
      go_ret
      exact ⟨rfl, h, But.refl _ _⟩
    · have hD := lodD h ha hb hX
      rw [hb] at hA
      dsimp only
      rw [hb, if_pos rfl]
      rw [if_pos rfl] at hA
      rw [opS_eq hf hb]
      clear hf hb
      generalize (if (lodK t) a = 0 then { σ with xs := insA ((lodF t) a) σ.xs } else σ) = σ1 at hD ⊢
      generalize (lodK t) a = ea at hD ⊢
      go_enter Tryd.func45, Tryd.ntmps45
      go_wp2_with (first
        | (go_at_call 46; refine hA.mono ?_; rintro e w' ⟨rfl, hw⟩; subst w')
        | (go_at_call 49; (with_reducible refine hD.mono ?_); rintro e w1 ⟨rfl, h1, hb1⟩))
      go_ret
      exact ⟨rfl, h1, hb1.mono (fun x hx => by rw [List.mem_singleton.1 hx]; exact bT_mem ha)⟩

set_option maxHeartbeats 400000 in
set_option maxRecDepth 100000 in
theorem pass_blk (h : TM w B S G M N pb σ) {i : Int} (hi : In64 i) (hV : Env w) :
    Calls Tryd.prog 45 #[.func (.func 46) #[.pointer (some ⟨B, 0, none⟩)] #[], .int .i64 i, .int .u8 4, .func (.func 50) #[] #[]] w fun e w' => e = .returned (.int .i64 (opE 4 (blkK) σ.xs i)) ∧ TM w' B S G M N pb (opS 4 (blkK) (blkF) σ i) ∧ But (bT B S G M pb σ.xs) w w' := by
  unfold opE
  cases hf : fndA σ.xs i with
  | none =>
    have hA := ask_none (s := 4) h hi hf
    rw [opS_none hf]
    clear hf
    dsimp only
    go_enter Tryd.func45, Tryd.ntmps45
    go_wp2_with (go_at_call 46; refine hA.mono ?_; rintro e w' ⟨rfl, hw⟩; subst w')
    go_ret
    exact ⟨rfl, h, But.refl _ _⟩
  | some a =>
    have hA := ask_some (s := 4) h hf (by simp [stepB]) hV.f
    obtain ⟨ha, rfl⟩ := fnd_some hf
    cases hb : folB 4 a.st
    · rw [hb] at hA
      dsimp only
      rw [hb, if_neg (by simp)]
      rw [if_neg (by simp)] at hA
      rw [opS_no hf hb]
      clear hf hb
      go_enter Tryd.func45, Tryd.ntmps45
      go_wp2_with (go_at_call 46; refine hA.mono ?_; rintro e w' ⟨rfl, hw⟩; subst w')
      go_ret
      exact ⟨rfl, h, But.refl _ _⟩
    · have hD := blkD h ha hb
      rw [hb] at hA
      dsimp only
      rw [hb, if_pos rfl]
      rw [if_pos rfl] at hA
      rw [opS_eq hf hb]
      clear hf hb
      generalize (if (blkK) a = 0 then { σ with xs := insA ((blkF) a) σ.xs } else σ) = σ1 at hD ⊢
      generalize (blkK) a = ea at hD ⊢
      go_enter Tryd.func45, Tryd.ntmps45
      go_wp2_with (first
        | (go_at_call 46; refine hA.mono ?_; rintro e w' ⟨rfl, hw⟩; subst w')
        | (go_at_call 50; (with_reducible refine hD.mono ?_); rintro e w1 ⟨rfl, h1, hb1⟩))
      go_ret
      exact ⟨rfl, h1, hb1.mono (fun x hx => by rw [List.mem_singleton.1 hx]; exact bT_mem ha)⟩

set_option maxHeartbeats 400000 in
set_option maxRecDepth 100000 in
theorem pass_run (h : TM w B S G M N pb σ) {i : Int} (hi : In64 i) (hV : Env w) {X Y : Nat} {c : Int} (hX : w.cell? ⟨X, 0, none⟩ = some (.int .i64 c)) (hY : w.cell? ⟨Y, 0, none⟩ = some (.pointer (some ⟨B, 0, none⟩))) :
    Calls Tryd.prog 45 #[.func (.func 46) #[.pointer (some ⟨B, 0, none⟩)] #[], .int .i64 i, .int .u8 1, .func (.func 47) #[] #[.pointer (some ⟨X, 0, none⟩), .pointer (some ⟨Y, 0, none⟩)]] w fun e w' => e = .returned (.int .i64 (opE 1 (runK σ.xs c) σ.xs i)) ∧ TM w' B S G M N pb (opS 1 (runK σ.xs c) (runF c) σ i) ∧ But (bT B S G M pb σ.xs) w w' := by
  unfold opE
  cases hf : fndA σ.xs i with
  | none =>
    have hA := ask_none (s := 1) h hi hf
    rw [opS_none hf]
    clear hf
    dsimp only
    go_enter Tryd.func45, Tryd.ntmps45
    go_wp2_with (go_at_call 46; refine hA.mono ?_; rintro e w' ⟨rfl, hw⟩; subst w')
    go_ret
    exact ⟨rfl, h, But.refl _ _⟩
  | some a =>
    have hA := ask_some (s := 1) h hf (by simp [stepB]) hV.f
    obtain ⟨ha, rfl⟩ := fnd_some hf
    cases hb : folB 1 a.st
    · rw [hb] at hA
      dsimp only
      rw [hb, if_neg (by simp)]
      rw [if_neg (by simp)] at hA
      rw [opS_no hf hb]
      clear hf hb
      go_enter Tryd.func45, Tryd.ntmps45
      go_wp2_with (go_at_call 46; refine hA.mono ?_; rintro e w' ⟨rfl, hw⟩; subst w')
      go_ret
      exact ⟨rfl, h, But.refl _ _⟩
    · have hD := runD h ha hb hX hY
      rw [hb] at hA
      dsimp only
      rw [hb, if_pos rfl]
      rw [if_pos rfl] at hA
      rw [opS_eq hf hb]
      clear hf hb
      generalize (if (runK σ.xs c) a = 0 then { σ with xs := insA ((runF c) a) σ.xs } else σ) = σ1 at hD ⊢
      generalize (runK σ.xs c) a = ea at hD ⊢
      go_enter Tryd.func45, Tryd.ntmps45
      go_wp2_with (first
        | (go_at_call 46; refine hA.mono ?_; rintro e w' ⟨rfl, hw⟩; subst w')
        | (go_at_call 47; (with_reducible refine hD.mono ?_); rintro e w1 ⟨rfl, h1, hb1⟩))
      go_ret
      exact ⟨rfl, h1, hb1.mono (fun x hx => by rw [List.mem_singleton.1 hx]; exact bT_mem ha)⟩

set_option maxHeartbeats 400000 in
set_option maxRecDepth 100000 in
theorem pass_pre (h : TM w B S G M N pb σ) {i : Int} (hi : In64 i) (hV : Env w) {X : Nat} {c : Cx} (hX : w.rangeAt X 0 (cxl c)) (hne : X ∉ bT B S G M pb σ.xs) :
    Calls Tryd.prog 45 #[.func (.func 46) #[.pointer (some ⟨B, 0, none⟩)] #[], .int .i64 i, .int .u8 8, .func (.func 51) #[] #[.pointer (some ⟨X, 0, none⟩)]] w fun e w' => e = .returned (.int .i64 (opE 8 (noK) σ.xs i)) ∧ TM w' B S G M N pb (opS 8 (noK) (preF c) σ i) ∧ But (bT B S G M pb σ.xs) w w' := by
  unfold opE
  cases hf : fndA σ.xs i with
  | none =>
    have hA := ask_none (s := 8) h hi hf
    rw [opS_none hf]
    clear hf
    dsimp only
    go_enter Tryd.func45, Tryd.ntmps45
    go_wp2_with (go_at_call 46; refine hA.mono ?_; rintro e w' ⟨rfl, hw⟩; subst w')
    go_ret
    exact ⟨rfl, h, But.refl _ _⟩
  | some a =>
    have hA := ask_some (s := 8) h hf (by simp [stepB]) hV.f
    obtain ⟨ha, rfl⟩ := fnd_some hf
    cases hb : folB 8 a.st
    · rw [hb] at hA
      dsimp only
      rw [hb, if_neg (by simp)]
      rw [if_neg (by simp)] at hA
      rw [opS_no hf hb]
      clear hf hb
      go_enter Tryd.func45, Tryd.ntmps45
      go_wp2_with (go_at_call 46; refine hA.mono ?_; rintro e w' ⟨rfl, hw⟩; subst w')
      go_ret
      exact ⟨rfl, h, But.refl _ _⟩
    · have hD := preD h ha hb hX (fun e => hne (e ▸ bT_mem ha))
      rw [hb] at hA
      dsimp only
      rw [hb, if_pos rfl]
      rw [if_pos rfl] at hA
      rw [opS_eq hf hb]
      clear hf hb
      generalize (if (noK) a = 0 then { σ with xs := insA ((preF c) a) σ.xs } else σ) = σ1 at hD ⊢
      generalize (noK) a = ea at hD ⊢
      go_enter Tryd.func45, Tryd.ntmps45
      go_wp2_with (first
        | (go_at_call 46; refine hA.mono ?_; rintro e w' ⟨rfl, hw⟩; subst w')
        | (go_at_call 51; (with_reducible refine hD.mono ?_); rintro e w1 ⟨rfl, h1, hb1⟩))
      go_ret
      exact ⟨rfl, h1, hb1.mono (fun x hx => by rw [List.mem_singleton.1 hx]; exact bT_mem ha)⟩

set_option maxHeartbeats 400000 in
set_option maxRecDepth 100000 in
theorem pass_cac (h : TM w B S G M N pb σ) {i : Int} (hi : In64 i) (hV : Env w) :
    Calls Tryd.prog 45 #[.func (.func 46) #[.pointer (some ⟨B, 0, none⟩)] #[], .int .i64 i, .int .u8 16, .func (.func 52) #[] #[]] w fun e w' => e = .returned (.int .i64 (opE 16 (noK) σ.xs i)) ∧ TM w' B S G M N pb (opS 16 (noK) (cacF) σ i) ∧ But (bT B S G M pb σ.xs) w w' := by
  unfold opE
  cases hf : fndA σ.xs i with
  | none =>
    have hA := ask_none (s := 16) h hi hf
    rw [opS_none hf]
    clear hf
    dsimp only
    go_enter Tryd.func45, Tryd.ntmps45
    go_wp2_with (go_at_call 46; refine hA.mono ?_; rintro e w' ⟨rfl, hw⟩; subst w')
    go_ret
    exact ⟨rfl, h, But.refl _ _⟩
  | some a =>
    have hA := ask_some (s := 16) h hf (by simp [stepB]) hV.f
    obtain ⟨ha, rfl⟩ := fnd_some hf
    cases hb : folB 16 a.st
    · rw [hb] at hA
      dsimp only
      rw [hb, if_neg (by simp)]
      rw [if_neg (by simp)] at hA
      rw [opS_no hf hb]
      clear hf hb
      go_enter Tryd.func45, Tryd.ntmps45
      go_wp2_with (go_at_call 46; refine hA.mono ?_; rintro e w' ⟨rfl, hw⟩; subst w')
      go_ret
      exact ⟨rfl, h, But.refl _ _⟩
    · have hD := cacD h ha hb
      rw [hb] at hA
      dsimp only
      rw [hb, if_pos rfl]
      rw [if_pos rfl] at hA
      rw [opS_eq hf hb]
      clear hf hb
      generalize (if (noK) a = 0 then { σ with xs := insA ((cacF) a) σ.xs } else σ) = σ1 at hD ⊢
      generalize (noK) a = ea at hD ⊢
      go_enter Tryd.func45, Tryd.ntmps45
      go_wp2_with (first
        | (go_at_call 46; refine hA.mono ?_; rintro e w' ⟨rfl, hw⟩; subst w')
        | (go_at_call 52; (with_reducible refine hD.mono ?_); rintro e w1 ⟨rfl, h1, hb1⟩))
      go_ret
      exact ⟨rfl, h1, hb1.mono (fun x hx => by rw [List.mem_singleton.1 hx]; exact bT_mem ha)⟩
end
end Go.Proofs.YtjgclehghnmhnaaDoor
namespace Go.Proofs.YtjgclehghnmhnaaDoor
open Go Go.RowKit

theorem opS_bT {B S G M : Nat} {pb : Int → Nat} {σ : Sta} {s : Nat} {chk : Ac → Int} {f : Ac → Ac} (hs : Srt σ.xs) (hid : ∀ a, (f a).id = a.id) (i : Int) : bT B S G M pb (opS s chk f σ i).xs = bT B S G M pb σ.xs := by
  unfold opS opX
  cases hf : fndA σ.xs i with
  | none => rfl
  | some a =>
    obtain ⟨ha, _⟩ := fnd_some hf
    dsimp only
    split
    · unfold bT
      rw [map_pb (ids_insA hs ⟨a, ha, (hid a).symm⟩)]
    · rfl

section
variable {w : World} {B N : Nat} {T : List Nat} {σ : Sta}
set_option maxHeartbeats 1000000 in
set_option maxRecDepth 100000 in
theorem block_any (h : TQ w B T N σ) (hV : Env w) {i : Int} (hi : In64 i) :
    Calls Tryd.prog 22 #[.pointer (some ⟨B, 0, none⟩), .int .i64 i] w fun e w' => e = .returned (.int .i64 (opE 4 blkK σ.xs i)) ∧ TQ w' B T N (opS 4 blkK blkF σ i) ∧ But T w w' := by
  obtain ⟨S, G, M, pb, rfl, hm⟩ := h
  have hP := pass_blk hm hi hV
  have hbt := opS_bT (B := B) (S := S) (G := G) (M := M) (pb := pb) (s := 4) (chk := blkK) (f := blkF) hm.ok.srt (fun _ => rfl) i
  generalize opS 4 blkK blkF σ i = σ1 at *
  generalize opE 4 blkK σ.xs i = ea at *
  have HB := Hid.mk hbt
  clear hbt
  go_enter Tryd.func22, Tryd.ntmps22
  go_wp2_with (go_at_call 45; (with_reducible refine hP.mono ?_); rintro e w1 ⟨rfl, h1, b1⟩)
  go_ret
  exact ⟨rfl, ⟨S, G, M, pb, HB.out.symm, h1⟩, b1⟩
set_option maxHeartbeats 1000000 in
set_option maxRecDepth 100000 in
theorem cache_any (h : TQ w B T N σ) (hV : Env w) {i : Int} (hi : In64 i) :
    Calls Tryd.prog 24 #[.pointer (some ⟨B, 0, none⟩), .int .i64 i] w fun e w' => e = .returned (.int .i64 (opE 16 noK σ.xs i)) ∧ TQ w' B T N (opS 16 noK cacF σ i) ∧ But T w w' := by
  obtain ⟨S, G, M, pb, rfl, hm⟩ := h
  have hP := pass_cac hm hi hV
  have hbt := opS_bT (B := B) (S := S) (G := G) (M := M) (pb := pb) (s := 16) (chk := noK) (f := cacF) hm.ok.srt (fun _ => rfl) i
  generalize opS 16 noK cacF σ i = σ1 at *
  generalize opE 16 noK σ.xs i = ea at *
  have HB := Hid.mk hbt
  clear hbt
  go_enter Tryd.func24, Tryd.ntmps24
  go_wp2_with (go_at_call 45; (with_reducible refine hP.mono ?_); rintro e w1 ⟨rfl, h1, b1⟩)
  go_ret
  exact ⟨rfl, ⟨S, G, M, pb, HB.out.symm, h1⟩, b1⟩
set_option maxHeartbeats 1000000 in
set_option maxRecDepth 100000 in
theorem load_any (h : TQ w B T N σ) (hV : Env w) {i : Int} (hi : In64 i) (t : Int) :
    Calls Tryd.prog 21 #[.pointer (some ⟨B, 0, none⟩), .int .i64 i, .int .i64 t] w fun e w' => e = .returned (.int .i64 (opE 2 (lodK t) σ.xs i)) ∧ TQ w' B T N (opS 2 (lodK t) (lodF t) σ i) ∧ But T w w' := by
  obtain ⟨S, G, M, pb, rfl, hm⟩ := h
  have ba : Below w.heap.size w (w.alloc (.cells #[.int .i64 t] 3)) := (Below.refl _ _).alloc (Nat.le_refl _) _
  have hP := pass_lod (X := w.heap.size) (hm.below ba) hi (hV.on ba) ((Cel.new w #[.int .i64 t] 3).cell (j := 0) rfl)
  have hbt := opS_bT (B := B) (S := S) (G := G) (M := M) (pb := pb) (s := 2) (chk := lodK t) (f := lodF t) hm.ok.srt (fun _ => rfl) i
  generalize opS 2 (lodK t) (lodF t) σ i = σ1 at *
  generalize opE 2 (lodK t) σ.xs i = ea at *
  have HB := Hid.mk hbt
  clear hbt
  go_enter Tryd.func21, Tryd.ntmps21
  go_wp2_with (go_at_call 45; (with_reducible refine hP.mono ?_); rintro e w1 ⟨rfl, h1, b1⟩)
  go_ret
  exact ⟨rfl, ⟨S, G, M, pb, HB.out.symm, h1⟩, (But.of_below ba).trans b1⟩
set_option maxHeartbeats 1000000 in
set_option maxRecDepth 100000 in
theorem run_any (h : TQ w B T N σ) (hV : Env w) {i : Int} (hi : In64 i) (c : Int) :
    Calls Tryd.prog 20 #[.pointer (some ⟨B, 0, none⟩), .int .i64 i, .int .i64 c] w fun e w' => e = .returned (.int .i64 (opE 1 (runK σ.xs c) σ.xs i)) ∧ TQ w' B T N (opS 1 (runK σ.xs c) (runF c) σ i) ∧ But T w w' := by
  obtain ⟨S, G, M, pb, rfl, hm⟩ := h
  have b1 : Below w.heap.size w (w.alloc (.cells #[.pointer (some ⟨B, 0, none⟩)] 24)) := (Below.refl _ _).alloc (Nat.le_refl _) _
  have ba : Below w.heap.size w ((w.alloc (.cells #[.pointer (some ⟨B, 0, none⟩)] 24)).alloc (.cells #[.int .i64 c] 3)) := b1.alloc b1.size _
  have c1 := (Cel.new (w.alloc (.cells #[.pointer (some ⟨B, 0, none⟩)] 24)) #[.int .i64 c] 3).cell (j := 0) (v := .int .i64 c) rfl
  have c0 := ((Cel.new w #[.pointer (some ⟨B, 0, none⟩)] 24).below ((Below.refl _ _).alloc (Nat.le_refl _) (.cells #[.int .i64 c] 3))).cell (j := 0) (v := .pointer (some ⟨B, 0, none⟩)) rfl
  rw [World.size_alloc] at c1
  have hP := pass_run (X := w.heap.size + 1) (Y := w.heap.size) (hm.below ba) hi (hV.on ba) c1 c0
  have hbt := opS_bT (B := B) (S := S) (G := G) (M := M) (pb := pb) (s := 1) (chk := runK σ.xs c) (f := runF c) hm.ok.srt (fun _ => rfl) i
  generalize opS 1 (runK σ.xs c) (runF c) σ i = σ1 at *
  generalize opE 1 (runK σ.xs c) σ.xs i = ea at *
  have HB := Hid.mk hbt
  clear hbt b1
  go_enter Tryd.func20, Tryd.ntmps20
  go_wp2_with (go_at_call 45; (with_reducible refine hP.mono ?_); rintro e w1 ⟨rfl, h1, b1⟩)
  go_ret
  exact ⟨rfl, ⟨S, G, M, pb, HB.out.symm, h1⟩, (But.of_below ba).trans b1⟩
set_option maxHeartbeats 1000000 in
set_option maxRecDepth 100000 in
theorem preempt_any (h : TQ w B T N σ) (hV : Env w) {i : Int} (hi : In64 i) (c : Cx) :
    Calls Tryd.prog 23 #[.pointer (some ⟨B, 0, none⟩), .int .i64 i, .agg (cxa c)] w fun e w' => e = .returned (.int .i64 (opE 8 noK σ.xs i)) ∧ TQ w' B T N (opS 8 noK (preF c) σ i) ∧ But T w w' := by
  obtain ⟨S, G, M, pb, rfl, hm⟩ := h
  have ba : Below w.heap.size w (w.alloc (.cells (cxa c) 30)) := (Below.refl _ _).alloc (Nat.le_refl _) _
  have hr : (w.alloc (.cells (cxa c) 30)).rangeAt w.heap.size 0 (cxl c) := fun j v hv => by
    rw [Nat.zero_add]
    exact (Cel.new w (cxa c) 30).cell (by simpa [cxa, cxl] using hv)
  have hP := pass_pre (X := w.heap.size) (hm.below ba) hi (hV.on ba) hr (fun hx => by have := hm.lt hx; omega)
  have hbt := opS_bT (B := B) (S := S) (G := G) (M := M) (pb := pb) (s := 8) (chk := noK) (f := preF c) hm.ok.srt (fun _ => rfl) i
  generalize opS 8 noK (preF c) σ i = σ1 at *
  generalize opE 8 noK σ.xs i = ea at *
  have HB := Hid.mk hbt
  clear hbt hr
  unfold cxa at *
  go_enter Tryd.func23, Tryd.ntmps23
  go_wp2_with (go_at_call 45; (with_reducible refine hP.mono ?_); rintro e w1 ⟨rfl, h1, b1⟩)
  go_ret
  exact ⟨rfl, ⟨S, G, M, pb, HB.out.symm, h1⟩, (But.of_below ba).trans b1⟩
end

theorem dis_none {σ : Sta} {i : Int} (hf : fndA σ.xs i = none) : opE 32 noK σ.xs i = 4 ∧ disS σ i = σ := by
  have e : opE 32 noK σ.xs i = 4 := by unfold opE; rw [hf]
  exact ⟨e, by unfold disS; rw [e]; rfl⟩
theorem dis_no {σ : Sta} {i : Int} {a : Ac} (hf : fndA σ.xs i = some a) (hb : folB 32 a.st = false) : opE 32 noK σ.xs i = 5 ∧ disS σ i = σ := by
  have e : opE 32 noK σ.xs i = 5 := by unfold opE; rw [hf]; dsimp only; rw [hb]; rfl
  exact ⟨e, by unfold disS; rw [e]; rfl⟩
theorem dis_yes {σ : Sta} {i : Int} {a : Ac} (hf : fndA σ.xs i = some a) (hb : folB 32 a.st = true) : opE 32 noK σ.xs i = 0 ∧ disS σ i = endS σ i := by
  have e : opE 32 noK σ.xs i = 0 := by unfold opE; rw [hf]; dsimp only; rw [hb]; rfl
  exact ⟨e, by unfold disS; rw [e]; rfl⟩
section
variable {w : World} {B S G M N : Nat} {pb : Int → Nat} {σ : Sta}
set_option maxHeartbeats 1000000 in
theorem disD (h : TM w B S G M N pb σ) {a : Ac} (ha : a ∈ σ.xs) {Y : Nat} (hY : w.cell? ⟨Y, 0, none⟩ = some (.pointer (some ⟨B, 0, none⟩))) :
    Calls Tryd.prog 53 #[.pointer (some ⟨pb a.id, 0, none⟩), .pointer (some ⟨Y, 0, none⟩)] w fun e w' => e = .returned (.int .i64 0) ∧ TM w' B S G M N pb (endS σ a.id) ∧ Step (bT B S G M pb σ.xs) w (bT B S G M pb (endS σ a.id).xs) w' := by
  have hE := end_any h.drew ha
  have c0 : w.cell? ⟨pb a.id, 0, none⟩ = some (.int .i64 a.id) := (h.a a ha).cell (j := 0) rfl
  generalize endS σ a.id = σ1 at *
  generalize bT B S G M pb σ.xs = T at *
  generalize bT B S G M pb σ1.xs = T1 at *
  clear ha h
  go_enter Tryd.func53, Tryd.ntmps53
  go_upto_region 1 with fail
  go_region_with (go_at_call 54; (with_reducible refine hE.mono ?_); rintro e w1 ⟨rfl, h1, b1⟩)
  all_goals
    go_wp2_with fail
    go_ret
    exact ⟨rfl, h1, (Step.keep (But.refl [] w).drew).trans b1⟩
set_option maxHeartbeats 1000000 in
set_option maxRecDepth 100000 in
theorem pass_dis (h : TM w B S G M N pb σ) {i : Int} (hi : In64 i) (hV : Env w) {Y : Nat} (hY : w.cell? ⟨Y, 0, none⟩ = some (.pointer (some ⟨B, 0, none⟩))) :
    Calls Tryd.prog 45 #[.func (.func 46) #[.pointer (some ⟨B, 0, none⟩)] #[], .int .i64 i, .int .u8 32, .func (.func 53) #[] #[.pointer (some ⟨Y, 0, none⟩)]] w fun e w' => e = .returned (.int .i64 (opE 32 noK σ.xs i)) ∧ TM w' B S G M N pb (disS σ i) ∧ Step (bT B S G M pb σ.xs) w (bT B S G M pb (disS σ i).xs) w' := by
  cases hf : fndA σ.xs i with
  | none =>
    have hA := ask_none (s := 32) h hi hf
    rw [(dis_none hf).1, (dis_none hf).2]
    clear hf
    go_enter Tryd.func45, Tryd.ntmps45
    go_wp2_with (go_at_call 46; refine hA.mono ?_; rintro e w' ⟨rfl, hw⟩; subst w')
    go_ret
    exact ⟨rfl, h, Step.refl _ _⟩
  | some a =>
    have hA := ask_some (s := 32) h hf (by simp [stepB]) hV.f
    obtain ⟨ha, rfl⟩ := fnd_some hf
    cases hb : folB 32 a.st
    · rw [(dis_no hf hb).1, (dis_no hf hb).2]
      rw [hb, if_neg (by simp)] at hA
      clear hf hb
      go_enter Tryd.func45, Tryd.ntmps45
      go_wp2_with (go_at_call 46; refine hA.mono ?_; rintro e w' ⟨rfl, hw⟩; subst w')
      go_ret
      exact ⟨rfl, h, Step.refl _ _⟩
    · have hD := disD h ha hY
      rw [(dis_yes hf hb).1, (dis_yes hf hb).2]
      rw [hb, if_pos rfl] at hA
      clear hf hb
      generalize endS σ a.id = σ1 at hD ⊢
      generalize bT B S G M pb σ1.xs = T1 at *
      go_enter Tryd.func45, Tryd.ntmps45
      go_wp2_with (first
        | (go_at_call 46; refine hA.mono ?_; rintro e w' ⟨rfl, hw⟩; subst w')
        | (go_at_call 53; (with_reducible refine hD.mono ?_); rintro e w1 ⟨rfl, h1, b1⟩))
      go_ret
      exact ⟨rfl, h1, b1⟩
end
section
variable {w : World} {B N : Nat} {T : List Nat} {σ : Sta}
set_option maxHeartbeats 1000000 in
set_option maxRecDepth 100000 in
theorem discard_any (h : TQ w B T N σ) (hV : Env w) {i : Int} (hi : In64 i) :
    Calls Tryd.prog 25 #[.pointer (some ⟨B, 0, none⟩), .int .i64 i] w fun e w' => e = .returned (.int .i64 (opE 32 noK σ.xs i)) ∧ ∃ T', TQ w' B T' N (disS σ i) ∧ Step T w T' w' := by
  obtain ⟨S, G, M, pb, rfl, hm⟩ := h
  have ba : Below w.heap.size w (w.alloc (.cells #[.pointer (some ⟨B, 0, none⟩)] 24)) := (Below.refl _ _).alloc (Nat.le_refl _) _
  have hP := pass_dis (Y := w.heap.size) (hm.below ba) hi (hV.on ba) ((Cel.new w #[.pointer (some ⟨B, 0, none⟩)] 24).cell (j := 0) rfl)
  generalize disS σ i = σ1 at *
  generalize opE 32 noK σ.xs i = ea at *
  go_enter Tryd.func25, Tryd.ntmps25
  go_wp2_with (go_at_call 45; (with_reducible refine hP.mono ?_); rintro e w1 ⟨rfl, h1, b1⟩)
  go_ret
  exact ⟨rfl, _, ⟨S, G, M, pb, rfl, h1⟩, (Step.keep (.of_below ba)).trans b1⟩
end
end Go.Proofs.YtjgclehghnmhnaaDoor
