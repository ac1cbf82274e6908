/- The walk of SlotsCopies. -/
import Derived.Test.YtkoekdbkjjjoaaaDoorCopy
import Derived.Test.YtkoekdbkjjjoaaaDoorOpens
import Derived.Deep.CutRange
namespace Go.Proofs.YtkoekdbkjjjoaaaDoor
open Go.RowKit

theorem allL_bd {ag : List Nat} {tk : List Bool} {x : Int} (h : x ∈ allL ag tk) : 0 ≤ x ∧ x < 140737488355328 := by
  unfold allL at h
  have h := (List.mergeSort_perm _ _).mem_iff.1 h
  unfold idsK at h
  obtain ⟨i, _, rfl⟩ := List.mem_map.1 h
  exact idI_bd _ _
theorem RowI.far {w w' : World} {base : Nat} {v : Value} {q : List Int} {S : List Nat} (h : RowI w base v q) (hb : But S w w') (hS : ∀ k, v.ownBlock = some k → k ∉ S) : RowI w' base v q := by
  refine ⟨h.1, ?_⟩
  rcases h.2 with h | ⟨g, cap, cur, h1, h2, h3, h4⟩
  · exact .inl h
  · exact .inr ⟨g, cap, cur, h1, h2, (hb.block g (Array.getElem?_eq_some_iff.1 h3).1 (hS g (by rw [h1]; rfl))).trans h3, h4⟩

/-- The Slots alone. -/
structure Cp1 (w W : World) (B G : Nat) (ag : List Nat) (tk : List Bool) : Prop where
  q : SQ W B G 6 ag tk
  b0 : w.heap.size ≤ B
  g0 : w.heap.size ≤ G
  k : Below w.heap.size w W
/-- The Slots, a copy, and the row of ids. -/
structure Cp2 (w W : World) (B G C H lo : Nat) (ag : List Nat) (tk : List Bool) (ag' : List Nat) (tk' : List Bool) (v : Value) (al : List Int) : Prop where
  p : Cp1 w W B G ag tk
  c : SQ W C H 6 ag' tk'
  r : RowI W w.heap.size v al
  rl : ∀ k, v.ownBlock = some k → k < lo
  bl : B < lo ∧ G < lo
  cl : lo ≤ C ∧ lo ≤ H

section
variable {w W W' : World} {B G C H lo : Nat} {ag ag1 ag' : List Nat} {tk tk1 tk' : List Bool} {v : Value} {al : List Int}
theorem Cp1.step (h : Cp1 w W B G ag tk) (hq : SQ W' B G 6 ag1 tk1) (hb : But [B, G] W W') : Cp1 w W' B G ag1 tk1 :=
  ⟨hq, h.b0, h.g0, h.k.trans (hb.below h.k.size (by have := h.b0; have := h.g0; simp; omega))⟩
theorem Cp1.below (h : Cp1 w W B G ag tk) (hb : Below W.heap.size W W') : Cp1 w W' B G ag tk := ⟨h.q.below hb, h.b0, h.g0, h.k.trans (hb.mono h.k.size)⟩
theorem Cp1.tab (h : Cp1 w W B G ag tk) (hT : Tab w) : Tab W := hT.below h.k (Nat.le_refl _)
theorem Cp2.below (h : Cp2 w W B G C H lo ag tk ag' tk' v al) (hb : Below W.heap.size W W') : Cp2 w W' B G C H lo ag tk ag' tk' v al :=
  ⟨h.p.below hb, h.c.below hb, h.r.below hb, h.rl, h.bl, h.cl⟩
theorem Cp2.step (h : Cp2 w W B G C H lo ag tk ag' tk' v al) (hq : SQ W' C H 6 ag1 tk1) (hb : But [C, H] W W') : Cp2 w W' B G C H lo ag tk ag1 tk1 v al := by
  obtain ⟨l1, l2⟩ := h.bl
  obtain ⟨l3, l4⟩ := h.cl
  have b0 := h.p.b0
  exact ⟨⟨h.p.q.but hb (by simp; omega) (by simp; omega), h.p.b0, h.p.g0, h.p.k.trans (hb.below h.p.k.size (by simp; omega))⟩, hq, h.r.far hb (fun k e => by have := h.rl k e; simp; omega), h.rl, h.bl, h.cl⟩
end

set_option maxRecDepth 100000 in
set_option maxHeartbeats 8000000 in
theorem copies_any (a : Option Addr) (c : Nat) (acts : List (Int × Int)) (w : World) (ha : Acts w a acts) (hT : Tab w) :
    Calls Tryd.prog 6 #[.slice a acts.length c] w fun e w' => e = .returned (.bool true) ∧ Below w.heap.size w w' := by
  by_cases hlen : 200 < acts.length
  · have hlen' : (200 : Int) < (acts.length : Int) := by omega
    go_enter Tryd.func6, Tryd.ntmps6
    go_wp2_with (first
      | (go_at_call 9; refine (new_some 6 (by decide) (by decide) w).mono ?_; rintro e w1 ⟨rfl, hr, hs, hB⟩; have hT1 := hT.below hB (Nat.le_refl _); have hB1 : Hid (Below w.heap.size w w1) := hB; clear hs hB hr)
      | (go_at_call 8; refine (lives_any _ hT1).mono ?_; rintro e w' ⟨rfl, hb⟩))
    go_ret
    exact ⟨rfl, hB1.out.trans (hb.mono hB1.out.size)⟩
  · have hlen' : (acts.length : Int) ≤ 200 := by omega
    go_enter Tryd.func6, Tryd.ntmps6
    go_wp2_with (first
      | (go_at_call 9; refine (new_some 6 (by decide) (by decide) w).mono ?_; rintro e w1 ⟨rfl, hr, hs, hB⟩; have hO : Cp1 w w1 (w.heap.size + 1) w.heap.size (List.replicate 6 0) (List.replicate 6 false) := ⟨hr, by omega, Nat.le_refl _, hB⟩; clear hr hs hB))
    generalize w.heap.size + 1 = B at hO ⊢
    replace hO : ∃ G, Cp1 w w1 B G (List.replicate 6 0) (List.replicate 6 false) := ⟨_, hO⟩
    obtain ⟨G, hO⟩ := hO
    go_loopw [30] (fun q wr => ∃ (k : Nat) (ag : List Nat) (tk : List Bool), k ≤ acts.length ∧ q = .int .i64 k ∧ Cp1 w wr B G ag tk) (fun q _ => 200 - (intOf q).toNat)
    case atStart => exact ⟨0, _, _, by omega, rfl, hO⟩
    case round =>
      clear hO
      obtain ⟨k, ag, tk, hk, rfl, hO⟩ := hrel
      by_cases hlt : k < acts.length
      · obtain ⟨b', o, rfl, hc0, hc1⟩ := (ha.below hO.k) k acts[k] (by simp)
        have hlt' : (k : Int) < (acts.length : Int) := by omega
        have hk0 : (0 : Int) ≤ (k : Int) := by omega
        generalize acts[k] = act at hc0 hc1
        obtain ⟨kd, ai⟩ := act
        dsimp only at hc0 hc1
        go_upto_region 7 with fail
        have hO1 := hO.below ((Below.refl _ wr).alloc (Nat.le_refl _) (.cells #[.int .i64 kd, .int .i64 ai] 30))
        have v0 : (wr.alloc (.cells #[.int .i64 kd, .int .i64 ai] 30)).cell? ⟨wr.heap.size, 0, none⟩ = some (.int .i64 kd) := by simp [go_sem]
        have v1 : (wr.alloc (.cells #[.int .i64 kd, .int .i64 ai] 30)).cell? ⟨wr.heap.size, 1, none⟩ = some (.int .i64 ai) := by simp [go_sem]
        generalize wr.alloc (.cells #[.int .i64 kd, .int .i64 ai] 30) = W0 at hO1 v0 v1 ⊢
        generalize wr.heap.size = V at v0 v1 ⊢
        clear hO hc0 hc1
        by_cases hkd : kd = 0
        · subst hkd
          have TK := take_any hO1.q (hO1.tab hT)
          go_wp2_with (first
            | (go_at_call 11; refine TK.mono ?_; rintro e w3 ⟨rfl, hq3, hb3⟩; have hO3 := hO1.step hq3 hb3; clear hq3 hb3 TK))
          go_roundw
          case rel => exact ⟨k + 1, _, _, by omega, by simp, hO3⟩
          case measure =>
            simp [intOf]
            omega
        · have hkd' : (kd == 0) = false := by simpa using hkd
          have AL := all_any hO1.q
          have hyb : ∀ x ∈ allL ag tk, 0 ≤ x ∧ x < 140737488355328 := fun x hx => allL_bd hx
          have FR : ∀ W y, SQ W B G 6 ag tk → (0 ≤ y ∧ y < 140737488355328) → Calls Tryd.prog 13 #[.pointer (some ⟨B, 0, none⟩), .int .i64 y] W fun e w' => e = .returned (.int .i64 (freeE ag tk y)) ∧ SQ w' B G 6 ag (freeT ag tk y) ∧ But [B] W w' := fun W y h hy => free_any h y (by omega) (by omega)
          have hal : (allL ag tk).length ≤ 4096 := by
            obtain ⟨_, _, hm, hl, _⟩ := hO1.q
            rw [allL_count]
            have := List.count_le_length (a := true) (l := tk)
            omega
          generalize allL ag tk = al at AL hyb hal
          by_cases hpos : 0 < al.length
          · have hp : (0 : Int) < (al.length : Int) := by omega
            obtain ⟨u, hu⟩ : ∃ u : Nat, IntKind.u64.wrap ai = u := ⟨(IntKind.u64.wrap ai).toNat, by rw [IntKind.wrap_u64]; omega⟩
            have hjl : u % al.length < al.length := Nat.mod_lt _ hpos
            have hy := List.getElem?_eq_getElem hjl
            have hyy := hyb _ (List.getElem_mem hjl)
            have e5 : Int.tmod (u : Int) (al.length : Int) = ((u % al.length : Nat) : Int) := by rw [Int.tmod_eq_emod_of_nonneg (by omega)]; omega
            have hw1 : IntKind.u64.wrap (al.length : Int) = (al.length : Int) := by rw [IntKind.wrap_u64]; omega
            have hw2 : IntKind.u64.wrap ((u % al.length : Nat) : Int) = ((u % al.length : Nat) : Int) := by rw [IntKind.wrap_u64]; omega
            generalize al[u % al.length] = y at hy hyy
            generalize u % al.length = j at hjl hy e5 hw2
            have hj0 : (0 : Int) ≤ (j : Int) := by omega
            have hj1 : (j : Int) < (al.length : Int) := by omega
            clear hyb
            go_wp2_with (first
              | (go_at_call 20; refine AL.mono ?_; rintro e w3 ⟨v3, rfl, hr3, hb3⟩; have hO3 := hO1.below hb3; have v1' := cell_keep hb3 v1; obtain ⟨a3, c3, rfl, i3⟩ := hr3.open'; obtain ⟨g, rfl, hcj⟩ := i3 j y hy; clear hb3 AL hr3 i3)
              | (go_at_call 13; refine (FR _ y hO3.q hyy).mono ?_; rintro e w4 ⟨rfl, hq4, hb4⟩; have hO4 := hO3.step hq4 (hb4.mono (by simp)); clear hq4 hb4 FR))
            go_roundw
            case rel => exact ⟨k + 1, _, _, by omega, by simp, hO4⟩
            case measure =>
              simp [intOf]
              omega
          · have hp : ¬ (0 : Int) < (al.length : Int) := by omega
            go_wp2_with (first
              | (go_at_call 20; refine AL.mono ?_; rintro e w3 ⟨v3, rfl, hr3, hb3⟩; have hO3 := hO1.below hb3; obtain ⟨a3, c3, rfl, i3⟩ := hr3.open'; clear hb3 AL hr3 i3))
            go_roundw
            case rel => exact ⟨k + 1, _, _, by omega, by simp, hO3⟩
            case measure =>
              simp [intOf]
              omega
      · obtain rfl : k = acts.length := by omega
        have AL : ∀ W X Y, SQ W X Y 6 ag tk → Calls Tryd.prog 20 #[.pointer (some ⟨X, 0, none⟩)] W fun e w' => ∃ v, e = .returned v ∧ RowI w' W.heap.size v (allL ag tk) ∧ Below W.heap.size W w' := fun W X Y h => all_any h
        have CP : ∀ W X Y, SQ W X Y 6 ag tk → Calls Tryd.prog 27 #[.pointer (some ⟨X, 0, none⟩)] W fun e w' => ∃ C H, e = .returned (.pointer (some ⟨C, 0, none⟩)) ∧ SQ w' C H 6 ag tk ∧ W.heap.size ≤ C ∧ W.heap.size ≤ H ∧ Below W.heap.size W w' := fun W X Y h => copy_any h
        have TK : ∀ W X Y, SQ W X Y 6 ag tk → Tab W → Calls Tryd.prog 11 #[.pointer (some ⟨X, 0, none⟩)] W fun e w' => e = .returned (.tuple #[.int .i64 (takeI ag tk), .int .i64 (takeE ag tk)]) ∧ SQ w' X Y 6 (takeA ag tk) (takeT ag tk) ∧ But [X, Y] W w' := fun W X Y h hT => take_any h hT
        have hyb : ∀ x ∈ allL ag tk, 0 ≤ x ∧ x < 140737488355328 := fun x hx => allL_bd hx
        have hal : (allL ag tk).length ≤ 6 := by
          obtain ⟨_, _, hm, hl, _⟩ := hO.q
          rw [allL_count]
          have := List.count_le_length (a := true) (l := tk)
          omega
        generalize allL ag tk = al at AL hyb hal
        generalize takeI ag tk = ti at TK
        generalize takeE ag tk = te at TK
        generalize takeA ag tk = ag2 at TK
        generalize takeT ag tk = tk2 at TK
        go_wp2_with (first
          | (go_at_call 20; refine (AL _ _ _ hO.q).mono ?_; rintro e w3 ⟨v3, rfl, hr3, hb3⟩; have hO3 := hO.below hb3; have rl3 := fun k e => (World.ownsRow.lt hr3 k e).2; have hr3' : RowI w3 w.heap.size v3 al := row_lower hr3 hO.k.size; have hts := hO3.q.lts; clear hb3 hr3 hO)
          | (go_at_call 27; refine (CP _ _ _ hO3.q).mono ?_; rintro e w4 ⟨C, H, rfl, hq4, hC, hH, hb4⟩; have hP4 : Cp2 w w4 B G C H w3.heap.size ag tk ag tk v3 al := ⟨hO3.below hb4, hq4, hr3'.below hb4, rl3, ⟨hts.1, hts.2.1⟩, hC, hH⟩; obtain ⟨a3, c3, rfl, -⟩ := hP4.r.open'; clear hO3 hr3' rl3 hts hq4 hC hH hb4)
          | (go_at_call 20; refine (AL _ _ _ hP4.c).mono ?_; rintro e w5 ⟨v5, rfl, hr5, hb5⟩; have hP5 := hP4.below hb5; obtain ⟨a5, c5, rfl, i5⟩ := hr5.open'; obtain ⟨a3', c3', et, i3⟩ := hP5.r.open'; simp only [Value.slice.injEq] at et; obtain ⟨rfl, -, rfl⟩ := et; clear hb5 hr5 hP4)
          | (go_at_call 19; refine (ints_any a5 a3 c5 c3 al w5 (by omega) i5 i3).mono ?_; rintro e w6 ⟨rfl, hb6⟩; have hP6 := hP5.below hb6; clear hb6 hP5 i5 i3)
          | (go_at_call 11; refine (TK _ _ _ hP6.c (hP6.p.tab hT)).mono ?_; rintro e w7 ⟨rfl, hq7, hb7⟩; have hP7 := hP6.step hq7 hb7; clear hq7 hb7 hP6))
        go_loopw [73] (fun q wx => ∃ (j : Nat) (ag' : List Nat) (tk' : List Bool), j ≤ al.length ∧ q = .int .i64 j ∧ Cp2 w wx B G C H w3.heap.size ag tk ag' tk' (.slice a3 al.length c3) al) (fun q _ => 6 - (intOf q).toNat)
        case atStart => exact ⟨0, _, _, by omega, rfl, hP7⟩
        case round =>
          clear hP7
          obtain ⟨j, ag', tk', hj, rfl, hP⟩ := hrel
          by_cases hjl : j < al.length
          · obtain ⟨a3', c3', et, i3⟩ := hP.r.open'
            simp only [Value.slice.injEq] at et
            obtain ⟨rfl, -, rfl⟩ := et
            have hy := List.getElem?_eq_getElem hjl
            have hyy := hyb _ (List.getElem_mem hjl)
            generalize al[j] = y at hy hyy
            obtain ⟨g, rfl, hcj⟩ := i3 j y hy
            have hj0 : (0 : Int) ≤ (j : Int) := by omega
            have hj1 : (j : Int) < (al.length : Int) := by omega
            have FR := free_any hP.c y (by omega) (by omega)
            clear i3 hy hyy
            go_wp2_with (first
              | (go_at_call 13; refine FR.mono ?_; rintro e w8 ⟨rfl, hq8, hb8⟩; have hP8 := hP.step hq8 (hb8.mono (by simp)); clear hq8 hb8 FR))
            go_roundw
            case rel => exact ⟨j + 1, _, _, by omega, by simp, hP8⟩
            case measure =>
              simp [intOf]
              omega
          · obtain rfl : j = al.length := by omega
            go_wp2_with (first
              | (go_at_call 27; refine (CP _ _ _ hP.p.q).mono ?_; rintro e w8 ⟨C2, H2, rfl, hq8, hC2, hH2, hb8⟩; have hT8 := (hP.below hb8).p.tab hT)
              | (go_at_call 11; refine (TK _ _ _ hq8 hT8).mono ?_; rintro e w9 ⟨rfl, hq9, hb9⟩; have hb10 : Below wr.heap.size wr w9 := hb8.trans (hb9.below hb8.size (by simp; omega)); have hP9 := hP.below hb10; clear hq9 hb9 hb10 hq8 hC2 hH2 hb8 hT8 hP)
              | (go_at_call 20; refine (AL _ _ _ hP9.p.q).mono ?_; rintro e w11 ⟨v11, rfl, hr11, hb11⟩; have hP11 := hP9.below hb11; obtain ⟨a11, c11, rfl, i11⟩ := hr11.open'; obtain ⟨a3', c3', et, i3⟩ := hP11.r.open'; simp only [Value.slice.injEq] at et; obtain ⟨rfl, -, rfl⟩ := et; clear hb11 hr11 hP9)
              | (go_at_call 19; refine (ints_any a11 a3 c11 c3 al w11 (by omega) i11 i3).mono ?_; rintro e w12 ⟨rfl, hb12⟩; have hP12 := hP11.below hb12; clear hb12 hP11 i11 i3)
              | (go_at_call 8; refine (lives_any _ (hP12.p.tab hT)).mono ?_; rintro e w13 ⟨rfl, hb13⟩))
            go_ret
            exact ⟨rfl, hP12.p.k.trans (hb13.mono hP12.p.k.size)⟩

end Go.Proofs.YtkoekdbkjjjoaaaDoor
