/- pass. -/
import Derived.Test.YtjgclehghnmhnaaDoorLfS
namespace Go.Proofs.YtjgclehghnmhnaaDoor
open Go Go.RowKit

section
variable {w : World} {B S G M N : Nat} {pb : Int → Nat} {σ : Sta}

set_option maxHeartbeats 400000 in
set_option maxRecDepth 100000 in
theorem pass_lod (h : TM w B S G M N pb σ) {i : Int} (hi : In64 i) (hV : Env w) {X : Nat} {t : Int} (hX : w.cell? ⟨X, 0, none⟩ = some (.int .i64 t)) :
    Calls Tryd.prog 45 #[.func (.func 46) #[.pointer (some ⟨B, 0, none⟩)] #[], .int .i64 i, .int .u8 2, .func (.func 49) #[] #[.pointer (some ⟨X, 0, none⟩)]] w fun e w' => e = .returned (.int .i64 (opE 2 (lodK t) σ.xs i)) ∧ TM w' B S G M N pb (opS 2 (lodK t) (lodF t) σ i) ∧ But (bT B S G M pb σ.xs) w w' := by
  unfold opE
  cases hf : fndA σ.xs i with
  | none =>
    have hA := ask_none (s := 2) h hi hf
    rw [opS_none hf]
    clear hf
    dsimp only
    go_enter Tryd.func45, Tryd.ntmps45
    go_wp2_with (go_at_call 46; refine hA.mono ?_; rintro e w' ⟨rfl, hw⟩; subst w')
    go_ret
    exact ⟨rfl, h, But.refl _ _⟩
  | some a =>
    have hA := ask_some (s := 2) h hf (by simp [stepB]) hV.f
    obtain ⟨ha, rfl⟩ := fnd_some hf
    cases hb : folB 2 a.st
    · rw [hb] at hA
      dsimp only
      rw [hb, if_neg (by simp)]
      rw [if_neg (by simp)] at hA
      rw [opS_no hf hb]
      clear hf hb
      go_enter Tryd.func45, Tryd.ntmps45
      go_wp2_with (go_at_call 46; refine hA.mono ?_; rintro e w' ⟨rfl, hw⟩; subst w')
      go_ret
      exact ⟨rfl, h, But.refl _ _⟩
    · have hD := lodD h ha hb hX
      rw [hb] at hA
      dsimp only
      rw [hb, if_pos rfl]
      rw [if_pos rfl] at hA
      rw [opS_eq hf hb]
      clear hf hb
      generalize (if (lodK t) a = 0 then { σ with xs := insA ((lodF t) a) σ.xs } else σ) = σ1 at hD ⊢
      generalize (lodK t) a = ea at hD ⊢
      go_enter Tryd.func45, Tryd.ntmps45
      go_wp2_with (first
        | (go_at_call 46; refine hA.mono ?_; rintro e w' ⟨rfl, hw⟩; subst w')
        | (go_at_call 49; (with_reducible refine hD.mono ?_); rintro e w1 ⟨rfl, h1, hb1⟩))
      go_ret
      exact ⟨rfl, h1, hb1.mono (fun x hx => by rw [List.mem_singleton.1 hx]; exact bT_mem ha)⟩

set_option maxHeartbeats 400000 in
set_option maxRecDepth 100000 in
theorem pass_blk (h : TM w B S G M N pb σ) {i : Int} (hi : In64 i) (hV : Env w) :
    Calls Tryd.prog 45 #[.func (.func 46) #[.pointer (some ⟨B, 0, none⟩)] #[], .int .i64 i, .int .u8 4, .func (.func 50) #[] #[]] w fun e w' => e = .returned (.int .i64 (opE 4 (blkK) σ.xs i)) ∧ TM w' B S G M N pb (opS 4 (blkK) (blkF) σ i) ∧ But (bT B S G M pb σ.xs) w w' := by
  unfold opE
  cases hf : fndA σ.xs i with
  | none =>
    have hA := ask_none (s := 4) h hi hf
    rw [opS_none hf]
    clear hf
    dsimp only
    go_enter Tryd.func45, Tryd.ntmps45
    go_wp2_with (go_at_call 46; refine hA.mono ?_; rintro e w' ⟨rfl, hw⟩; subst w')
    go_ret
    exact ⟨rfl, h, But.refl _ _⟩
  | some a =>
    have hA := ask_some (s := 4) h hf (by simp [stepB]) hV.f
    obtain ⟨ha, rfl⟩ := fnd_some hf
    cases hb : folB 4 a.st
    · rw [hb] at hA
      dsimp only
      rw [hb, if_neg (by simp)]
      rw [if_neg (by simp)] at hA
      rw [opS_no hf hb]
      clear hf hb
      go_enter Tryd.func45, Tryd.ntmps45
      go_wp2_with (go_at_call 46; refine hA.mono ?_; rintro e w' ⟨rfl, hw⟩; subst w')
      go_ret
      exact ⟨rfl, h, But.refl _ _⟩
    · have hD := blkD h ha hb
      rw [hb] at hA
      dsimp only
      rw [hb, if_pos rfl]
      rw [if_pos rfl] at hA
      rw [opS_eq hf hb]
      clear hf hb
      generalize (if (blkK) a = 0 then { σ with xs := insA ((blkF) a) σ.xs } else σ) = σ1 at hD ⊢
      generalize (blkK) a = ea at hD ⊢
      go_enter Tryd.func45, Tryd.ntmps45
      go_wp2_with (first
        | (go_at_call 46; refine hA.mono ?_; rintro e w' ⟨rfl, hw⟩; subst w')
        | (go_at_call 50; (with_reducible refine hD.mono ?_); rintro e w1 ⟨rfl, h1, hb1⟩))
      go_ret
      exact ⟨rfl, h1, hb1.mono (fun x hx => by rw [List.mem_singleton.1 hx]; exact bT_mem ha)⟩

set_option maxHeartbeats 400000 in
set_option maxRecDepth 100000 in
theorem pass_run (h : TM w B S G M N pb σ) {i : Int} (hi : In64 i) (hV : Env w) {X Y : Nat} {c : Int} (hX : w.cell? ⟨X, 0, none⟩ = some (.int .i64 c)) (hY : w.cell? ⟨Y, 0, none⟩ = some (.pointer (some ⟨B, 0, none⟩))) :
    Calls Tryd.prog 45 #[.func (.func 46) #[.pointer (some ⟨B, 0, none⟩)] #[], .int .i64 i, .int .u8 1, .func (.func 47) #[] #[.pointer (some ⟨X, 0, none⟩), .pointer (some ⟨Y, 0, none⟩)]] w fun e w' => e = .returned (.int .i64 (opE 1 (runK σ.xs c) σ.xs i)) ∧ TM w' B S G M N pb (opS 1 (runK σ.xs c) (runF c) σ i) ∧ But (bT B S G M pb σ.xs) w w' := by
  unfold opE
  cases hf : fndA σ.xs i with
  | none =>
    have hA := ask_none (s := 1) h hi hf
    rw [opS_none hf]
    clear hf
    dsimp only
    go_enter Tryd.func45, Tryd.ntmps45
    go_wp2_with (go_at_call 46; refine hA.mono ?_; rintro e w' ⟨rfl, hw⟩; subst w')
    go_ret
    exact ⟨rfl, h, But.refl _ _⟩
  | some a =>
    have hA := ask_some (s := 1) h hf (by simp [stepB]) hV.f
    obtain ⟨ha, rfl⟩ := fnd_some hf
    cases hb : folB 1 a.st
    · rw [hb] at hA
      dsimp only
      rw [hb, if_neg (by simp)]
      rw [if_neg (by simp)] at hA
      rw [opS_no hf hb]
      clear hf hb
      go_enter Tryd.func45, Tryd.ntmps45
      go_wp2_with (go_at_call 46; refine hA.mono ?_; rintro e w' ⟨rfl, hw⟩; subst w')
      go_ret
      exact ⟨rfl, h, But.refl _ _⟩
    · have hD := runD h ha hb hX hY
      rw [hb] at hA
      dsimp only
      rw [hb, if_pos rfl]
      rw [if_pos rfl] at hA
      rw [opS_eq hf hb]
      clear hf hb
      generalize (if (runK σ.xs c) a = 0 then { σ with xs := insA ((runF c) a) σ.xs } else σ) = σ1 at hD ⊢
      generalize (runK σ.xs c) a = ea at hD ⊢
      go_enter Tryd.func45, Tryd.ntmps45
      go_wp2_with (first
        | (go_at_call 46; refine hA.mono ?_; rintro e w' ⟨rfl, hw⟩; subst w')
        | (go_at_call 47; (with_reducible refine hD.mono ?_); rintro e w1 ⟨rfl, h1, hb1⟩))
      go_ret
      exact ⟨rfl, h1, hb1.mono (fun x hx => by rw [List.mem_singleton.1 hx]; exact bT_mem ha)⟩

set_option maxHeartbeats 400000 in
set_option maxRecDepth 100000 in
theorem pass_pre (h : TM w B S G M N pb σ) {i : Int} (hi : In64 i) (hV : Env w) {X : Nat} {c : Cx} (hX : w.rangeAt X 0 (cxl c)) (hne : X ∉ bT B S G M pb σ.xs) :
    Calls Tryd.prog 45 #[.func (.func 46) #[.pointer (some ⟨B, 0, none⟩)] #[], .int .i64 i, .int .u8 8, .func (.func 51) #[] #[.pointer (some ⟨X, 0, none⟩)]] w fun e w' => e = .returned (.int .i64 (opE 8 (noK) σ.xs i)) ∧ TM w' B S G M N pb (opS 8 (noK) (preF c) σ i) ∧ But (bT B S G M pb σ.xs) w w' := by
  unfold opE
  cases hf : fndA σ.xs i with
  | none =>
    have hA := ask_none (s := 8) h hi hf
    rw [opS_none hf]
    clear hf
    dsimp only
    go_enter Tryd.func45, Tryd.ntmps45
    go_wp2_with (go_at_call 46; refine hA.mono ?_; rintro e w' ⟨rfl, hw⟩; subst w')
    go_ret
    exact ⟨rfl, h, But.refl _ _⟩
  | some a =>
    have hA := ask_some (s := 8) h hf (by simp [stepB]) hV.f
    obtain ⟨ha, rfl⟩ := fnd_some hf
    cases hb : folB 8 a.st
    · rw [hb] at hA
      dsimp only
      rw [hb, if_neg (by simp)]
      rw [if_neg (by simp)] at hA
      rw [opS_no hf hb]
      clear hf hb
      go_enter Tryd.func45, Tryd.ntmps45
      go_wp2_with (go_at_call 46; refine hA.mono ?_; rintro e w' ⟨rfl, hw⟩; subst w')
      go_ret
      exact ⟨rfl, h, But.refl _ _⟩
    · have hD := preD h ha hb hX (fun e => hne (e ▸ bT_mem ha))
      rw [hb] at hA
      dsimp only
      rw [hb, if_pos rfl]
      rw [if_pos rfl] at hA
      rw [opS_eq hf hb]
      clear hf hb
      generalize (if (noK) a = 0 then { σ with xs := insA ((preF c) a) σ.xs } else σ) = σ1 at hD ⊢
      generalize (noK) a = ea at hD ⊢
      go_enter Tryd.func45, Tryd.ntmps45
      go_wp2_with (first
        | (go_at_call 46; refine hA.mono ?_; rintro e w' ⟨rfl, hw⟩; subst w')
        | (go_at_call 51; (with_reducible refine hD.mono ?_); rintro e w1 ⟨rfl, h1, hb1⟩))
      go_ret
      exact ⟨rfl, h1, hb1.mono (fun x hx => by rw [List.mem_singleton.1 hx]; exact bT_mem ha)⟩

set_option maxHeartbeats 400000 in
set_option maxRecDepth 100000 in
theorem pass_cac (h : TM w B S G M N pb σ) {i : Int} (hi : In64 i) (hV : Env w) :
    Calls Tryd.prog 45 #[.func (.func 46) #[.pointer (some ⟨B, 0, none⟩)] #[], .int .i64 i, .int .u8 16, .func (.func 52) #[] #[]] w fun e w' => e = .returned (.int .i64 (opE 16 (noK) σ.xs i)) ∧ TM w' B S G M N pb (opS 16 (noK) (cacF) σ i) ∧ But (bT B S G M pb σ.xs) w w' := by
  unfold opE
  cases hf : fndA σ.xs i with
  | none =>
    have hA := ask_none (s := 16) h hi hf
    rw [opS_none hf]
    clear hf
    dsimp only
    go_enter Tryd.func45, Tryd.ntmps45
    go_wp2_with (go_at_call 46; refine hA.mono ?_; rintro e w' ⟨rfl, hw⟩; subst w')
    go_ret
    exact ⟨rfl, h, But.refl _ _⟩
  | some a =>
    have hA := ask_some (s := 16) h hf (by simp [stepB]) hV.f
    obtain ⟨ha, rfl⟩ := fnd_some hf
    cases hb : folB 16 a.st
    · rw [hb] at hA
      dsimp only
      rw [hb, if_neg (by simp)]
      rw [if_neg (by simp)] at hA
      rw [opS_no hf hb]
      clear hf hb
      go_enter Tryd.func45, Tryd.ntmps45
      go_wp2_with (go_at_call 46; refine hA.mono ?_; rintro e w' ⟨rfl, hw⟩; subst w')
      go_ret
      exact ⟨rfl, h, But.refl _ _⟩
    · have hD := cacD h ha hb
      rw [hb] at hA
      dsimp only
      rw [hb, if_pos rfl]
      rw [if_pos rfl] at hA
      rw [opS_eq hf hb]
      clear hf hb
      generalize (if (noK) a = 0 then { σ with xs := insA ((cacF) a) σ.xs } else σ) = σ1 at hD ⊢
      generalize (noK) a = ea at hD ⊢
      go_enter Tryd.func45, Tryd.ntmps45
      go_wp2_with (first
        | (go_at_call 46; refine hA.mono ?_; rintro e w' ⟨rfl, hw⟩; subst w')
        | (go_at_call 52; (with_reducible refine hD.mono ?_); rintro e w1 ⟨rfl, h1, hb1⟩))
      go_ret
      exact ⟨rfl, h1, hb1.mono (fun x hx => by rw [List.mem_singleton.1 hx]; exact bT_mem ha)⟩
end
end Go.Proofs.YtjgclehghnmhnaaDoor
