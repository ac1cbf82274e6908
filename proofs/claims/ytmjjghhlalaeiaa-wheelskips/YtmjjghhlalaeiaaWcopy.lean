/- Contract of the wheel's Copy. -/
import Derived.Test.YtmjjghhlalaeiaaLCopy
import Derived.Test.YtmjjghhlalaeiaaInTurn
import Derived.Test.YtmjjghhlalaeiaaHold
namespace Go.Proofs.Ytmjjghhlalaeiaa
open Go.RowKit

/-- What a wheel's copy is made of. -/
def CpS (T : Wp) (N n : Nat) (cs : List Value) (W : World) : Prop := W.rangeAt T.B 2 cs ∧ W.cell? ⟨T.B, 0, none⟩ = some (.int .i64 n) ∧ W.cell? ⟨T.B, 1, none⟩ = some (.slice (some ⟨T.G, 0, none⟩) N T.c) ∧ W.cell? ⟨T.B, 66, none⟩ = some (.pointer (some ⟨T.P.B, 0, none⟩))

section
variable {w w' : World} {T : Wp} {N n : Nat} {us : List Int} {ls : List (List Nat)} {wh : List Nat}

theorem CpS.on {W W' : World} {cs : List Value} (hb : But [] W W') (h : CpS T N n cs W) : CpS T N n cs W' :=
  ⟨fun j u hu => hb.cell (h.1 j u hu), hb.cell h.2.1, hb.cell h.2.2.1, hb.cell h.2.2.2⟩

/-- An array laid into another one, from the third cell on. -/
theorem fold2 : ∀ (cs : List Value) (k : Nat) (zz : Array Value), 2 + k + cs.length ≤ zz.size → (List.foldl (fun (cs : Array Value) (x : Value × Nat) => cs.setIfInBounds (2 + x.snd) x.fst) zz (cs.zipIdx k)).toList = zz.toList.take (2 + k) ++ cs ++ zz.toList.drop (2 + k + cs.length)
  | [], k, zz, _ => by simp
  | c :: cs, k, zz, h => by
    rw [List.length_cons] at h
    rw [List.zipIdx_cons, List.foldl_cons, fold2 cs (k + 1) _ (by simp; omega)]
    have hk : 2 + k < zz.toList.length := by simp; omega
    dsimp only
    rw [Array.toList_setIfInBounds, List.take_set, List.drop_set_of_lt (by omega), show 2 + (k + 1) = (2 + k) + 1 by omega, List.take_add_one, List.getElem?_eq_getElem hk]
    rw [List.set_append_right _ _ (by simp; omega)]
    have : 2 + k - (zz.toList.take (2 + k)).length = 0 := by rw [List.length_take]; omega
    rw [this, List.length_cons, show 2 + k + 1 + cs.length = 2 + k + (cs.length + 1) by omega]
    simp
theorem take57 (n H N d : Nat) : ((Try.zeroCells57.setIfInBounds 0 (.int .i64 n)).setIfInBounds 1 (.slice (some ⟨H, 0, none⟩) N d)).toList.take 2 = [.int .i64 n, .slice (some ⟨H, 0, none⟩) N d] := by kernel_rfl
theorem drop57 (n H N d : Nat) : ((Try.zeroCells57.setIfInBounds 0 (.int .i64 n)).setIfInBounds 1 (.slice (some ⟨H, 0, none⟩) N d)).toList.drop 66 = [.pointer none] := by kernel_rfl
theorem size57 (n H N d : Nat) : ((Try.zeroCells57.setIfInBounds 0 (.int .i64 n)).setIfInBounds 1 (.slice (some ⟨H, 0, none⟩) N d)).size = 67 := by
  rw [Array.size_setIfInBounds, Array.size_setIfInBounds]
  kernel_rfl
theorem fold57 (cs : List Value) (h : cs.length = 64) (n H N d : Nat) : List.foldl (fun (cs : Array Value) (x : Value × Nat) => cs.setIfInBounds (2 + x.snd) x.fst) ((Try.zeroCells57.setIfInBounds 0 (.int .i64 n)).setIfInBounds 1 (.slice (some ⟨H, 0, none⟩) N d)) cs.zipIdx = (Value.int .i64 n :: .slice (some ⟨H, 0, none⟩) N d :: (cs ++ [.pointer none])).toArray := by
  apply Array.ext'
  have := fold2 cs 0 ((Try.zeroCells57.setIfInBounds 0 (.int .i64 n)).setIfInBounds 1 (.slice (some ⟨H, 0, none⟩) N d)) (by rw [h, size57]; omega)
  rw [this, h, take57, drop57]
  rfl
theorem set66 (cs : List Value) (h : cs.length = 64) (a b v : Value) : (a :: b :: (cs ++ [Value.pointer none])).toArray.setIfInBounds 66 v = (a :: b :: (cs ++ [v])).toArray := by
  rw [List.setIfInBounds_toArray, List.set_cons_succ, List.set_cons_succ, List.set_append_right _ _ (by omega), h]
  rfl

set_option maxRecDepth 100000 in
set_option maxHeartbeats 4000000 in
theorem wcopy_wm (hm : WM w T N n us ls) :
    Calls Try.prog 23 #[.pointer (some ⟨T.B, 0, none⟩)] w fun e w' => ∃ T2 : Wp, e = .returned (.pointer (some ⟨T2.B, 0, none⟩)) ∧ WM w' T2 N n us ls ∧ (∀ k ∈ T2.S, w.heap.size ≤ k) ∧ Below w.heap.size w w' := by
  have HM := wmade_any hm
  have hsz := hm.sizes
  obtain ⟨cs, hcs⟩ : ∃ cs, cs = (List.range 64).map iv := ⟨_, rfl⟩
  have hr := hm.range
  rw [← hcs] at hr
  have hi : (Try.prog.info? 54).map (·.size) = some cs.length := by rw [hcs]; exact hi54
  have hu := Try.underlying54
  have hcl : cs.length = 64 := by rw [hcs]; simp
  have Hcs : Hid (cs = (List.range 64).map iv) := hcs
  clear hcs
  have HC : ∀ W, WM W T N n us ls → _ := fun W h => clone_row (W := W) (c := T.c) (n := N) h.g h.ul hsz.1 (by omega)
  have HL : ∀ W, WM W T N n us ls → _ := fun W h => copy_any h.l
  go_enter Try.func23, Try.ntmps23
  go_wp2_with (go_at_call 31; refine HM.mono ?_; rintro e w' ⟨rfl, hw⟩; subst w')
  have hS : CpS T N n cs w := ⟨hr, hm.c0, hm.c1, hm.c66⟩
  have hSd := CpS.on (But.refl [] w).drew hS
  have hmd := hm.keep (But.refl [] w).drew
  refine wp_region_held_drew (S := CpS T N n cs) (by kernel_rfl) hSd (fun hHeld => ?_)
  refine anyH_take (i := 0) (v := ?_) (some 6) rfl rfl (by kernel_rfl) (fun _ _ _ h => h) (Or.inl ⟨by rfl, ?_⟩) (by assumption) ?_
  rotate_left
  · (intro w hSw; obtain ⟨-, z0, z1, z2⟩ := hSw; go_simp; all_goals with_reducible rfl)
  try simp only [Act.put, List.setIfInBounds_toArray, List.set_cons_zero, List.set_cons_succ]
  refine anyH_take (i := 1) (v := ?_) (some 7) rfl rfl (by kernel_rfl) (fun _ _ _ h => h) (Or.inl ⟨by rfl, ?_⟩) (by assumption) ?_
  rotate_left
  · (intro w hSw; obtain ⟨-, z0, z1, z2⟩ := hSw; go_simp; all_goals with_reducible rfl)
  try simp only [Act.put, List.setIfInBounds_toArray, List.set_cons_zero, List.set_cons_succ]
  refine anyH_take (i := 2) (v := ?_) (some 8) rfl rfl (by kernel_rfl) (fun _ _ _ h => h) (Or.inl ⟨by rfl, ?_⟩) (by assumption) ?_
  rotate_left
  · (intro w hSw; obtain ⟨-, z0, z1, z2⟩ := hSw; go_simp; all_goals with_reducible rfl)
  try simp only [Act.put, List.setIfInBounds_toArray, List.set_cons_zero, List.set_cons_succ]
  refine anyH_take (i := 3) (v := ?_) (some 9) rfl rfl (by kernel_rfl) (fun _ _ _ h => h) (Or.inl ⟨by rfl, ?_⟩) (by assumption) ?_
  rotate_left
  · (intro w hSw; obtain ⟨-, z0, z1, z2⟩ := hSw; go_simp; all_goals with_reducible rfl)
  try simp only [Act.put, List.setIfInBounds_toArray, List.set_cons_zero, List.set_cons_succ]
  refine anyH_take (i := 4) (v := ?_) (some 10) rfl rfl (by kernel_rfl) (fun _ _ _ h => h) (Or.inl ⟨by rfl, ?_⟩) (by assumption) ?_
  rotate_left
  · (intro w hSw; obtain ⟨-, z0, z1, z2⟩ := hSw; go_simp; all_goals with_reducible rfl)
  try simp only [Act.put, List.setIfInBounds_toArray, List.set_cons_zero, List.set_cons_succ]
  refine anyH_take (i := 5) (v := ?_) (some 11) rfl rfl (by kernel_rfl) (fun _ _ _ h => h) (Or.inl ⟨by rfl, ?_⟩) (by assumption) ?_
  rotate_left
  · (intro w hSw; obtain ⟨-, z0, z1, z2⟩ := hSw; go_simp; all_goals with_reducible rfl)
  try simp only [Act.put, List.setIfInBounds_toArray, List.set_cons_zero, List.set_cons_succ]
  refine anyH_take (i := 6) (v := ?_) (some 12) rfl rfl (by kernel_rfl) (fun _ _ _ h => h) (Or.inl ⟨by rfl, ?_⟩) (by assumption) ?_
  rotate_left
  · (intro w hSw; obtain ⟨-, z0, z1, z2⟩ := hSw; go_simp; all_goals with_reducible rfl)
  try simp only [Act.put, List.setIfInBounds_toArray, List.set_cons_zero, List.set_cons_succ]
  refine anyH_take (i := 7) (v := ?_) (some 13) rfl rfl (by kernel_rfl) (fun _ _ _ h => h) (Or.inl ⟨by rfl, ?_⟩) (by assumption) ?_
  rotate_left
  · (intro w hSw; obtain ⟨-, z0, z1, z2⟩ := hSw; go_simp; all_goals with_reducible rfl)
  try simp only [Act.put, List.setIfInBounds_toArray, List.set_cons_zero, List.set_cons_succ]
  refine anyH_take (i := 9) (v := ?_) (some 15) rfl rfl (by kernel_rfl) (fun _ _ _ h => h) (Or.inl ⟨by rfl, ?_⟩) (by assumption) ?_
  rotate_left
  · (intro w hSw; obtain ⟨-, z0, z1, z2⟩ := hSw; go_simp; all_goals with_reducible rfl)
  try simp only [Act.put, List.setIfInBounds_toArray, List.set_cons_zero, List.set_cons_succ]
  refine anyH_take (i := 10) (v := ?_) (some 16) rfl rfl (by kernel_rfl) (fun _ _ _ h => h) (Or.inl ⟨by rfl, ?_⟩) (by assumption) ?_
  rotate_left
  · (intro w hSw; obtain ⟨-, z0, z1, z2⟩ := hSw; go_simp; all_goals with_reducible rfl)
  try simp only [Act.put, List.setIfInBounds_toArray, List.set_cons_zero, List.set_cons_succ]
  refine anyH_take (i := 11) (v := ?_) (some 17) rfl rfl (by kernel_rfl) (fun _ _ _ h => h) (Or.inl ⟨by rfl, ?_⟩) (by assumption) ?_
  rotate_left
  · (intro w hSw; obtain ⟨-, z0, z1, z2⟩ := hSw; go_simp; all_goals with_reducible rfl)
  try simp only [Act.put, List.setIfInBounds_toArray, List.set_cons_zero, List.set_cons_succ]
  refine anyH_take (i := 12) (v := .agg cs.toArray) (some 18) rfl rfl (by kernel_rfl) (fun _ _ _ h => h) (yieldsIf_load_mid (by rfl) 54 (.tmp 17) rfl T.B 2 rfl cs _ (fun w h => h.1) hu rfl hi) (by assumption) ?_
  try simp only [Act.put, List.setIfInBounds_toArray, List.set_cons_zero, List.set_cons_succ]
  refine anyH_take (i := 13) (v := ?_) (some 19) rfl rfl (by kernel_rfl) (fun _ _ _ h => h) (Or.inl ⟨by rfl, ?_⟩) (by assumption) ?_
  rotate_left
  · (intro w hSw; obtain ⟨-, z0, z1, z2⟩ := hSw; go_simp; all_goals with_reducible rfl)
  try simp only [Act.put, List.setIfInBounds_toArray, List.set_cons_zero, List.set_cons_succ]
  refine anyH_take (i := 14) (v := ?_) (some 20) rfl rfl (by kernel_rfl) (fun _ _ _ h => h) (Or.inl ⟨by rfl, ?_⟩) (by assumption) ?_
  rotate_left
  · (intro w hSw; obtain ⟨-, z0, z1, z2⟩ := hSw; go_simp; all_goals with_reducible rfl)
  try simp only [Act.put, List.setIfInBounds_toArray, List.set_cons_zero, List.set_cons_succ]
  refine anyH_take (i := 15) (v := ?_) (some 21) rfl rfl (by kernel_rfl) (fun _ _ _ h => h) (Or.inl ⟨by rfl, ?_⟩) (by assumption) ?_
  rotate_left
  · (intro w hSw; obtain ⟨-, z0, z1, z2⟩ := hSw; go_simp; all_goals with_reducible rfl)
  try simp only [Act.put, List.setIfInBounds_toArray, List.set_cons_zero, List.set_cons_succ]
  refine anyH_take (i := 16) (v := ?_) (some 22) rfl rfl (by kernel_rfl) (fun _ _ _ h => h) (Or.inl ⟨by rfl, ?_⟩) (by assumption) ?_
  rotate_left
  · (intro w hSw; obtain ⟨-, z0, z1, z2⟩ := hSw; go_simp; all_goals with_reducible rfl)
  try simp only [Act.put, List.setIfInBounds_toArray, List.set_cons_zero, List.set_cons_succ]
  refine anyH_one (i := 8) (by kernel_rfl) rfl (fun K hK => ?_)
  go_simp
  go_at_call 45
  refine (HC _ hmd).mono ?_
  rintro e w1 ⟨H, d, rfl, rH, gH, b1⟩
  have m1 := hmd.below b1
  refine hK.out _ _ (CpS.on (.of_below b1) hSd) (fun hHeld => ?_)
  clear hK K
  try simp only [Act.put, List.setIfInBounds_toArray, List.set_cons_zero, List.set_cons_succ]
  refine anyH_one (i := 17) (by kernel_rfl) rfl (fun K hK => ?_)
  go_simp
  go_at_call 46
  refine (HL _ m1).mono ?_
  rintro e w2 ⟨P2, rfl, l2, g2, b2⟩
  refine hK.out _ _ (CpS.on (.of_below b2) hHeld) (fun hHeld => ?_)
  clear hK K
  try simp only [Act.put, List.setIfInBounds_toArray, List.set_cons_zero, List.set_cons_succ]
  refine anyH_one (i := 18) (by kernel_rfl) rfl (fun K hK => ?_)
  go_simp
  rw [fold57 cs hcl n H N d, set66 cs hcl, if_neg (by simp [hcl])]
  go_simp
  refine hK.out _ _ hHeld (fun hHeld => ?_)
  clear hK K
  try simp only [Act.put, List.setIfInBounds_toArray, List.set_cons_zero, List.set_cons_succ]
  refine anyH_one (i := 19) (by kernel_rfl) rfl (fun K hK => ?_)
  go_simp
  refine hK.out _ _ (CpS.on ((But.refl [] _).alloc _) hHeld) (fun hHeld => ?_)
  clear hK K
  try simp only [Act.put, List.setIfInBounds_toArray, List.set_cons_zero, List.set_cons_succ]
  refine anyH_one (i := 20) (by kernel_rfl) rfl (fun K hK => ?_)
  go_simp
  refine hK.out _ _ hHeld (fun hHeld => ?_)
  clear hK K
  try simp only [Act.put, List.setIfInBounds_toArray, List.set_cons_zero, List.set_cons_succ]
  refine wpAnyH_done (by kernel_rfl) ?_ _
  go_wp2_with fail
  go_ret
  have bd : Below w.heap.size w w1 := (Below.refl _ w).drew.trans b1
  have bd2 := bd.trans (b2.mono bd.size)
  have ba : Below w2.heap.size w2 (w2.alloc (.cells (Value.int .i64 n :: .slice (some ⟨H, 0, none⟩) N d :: (cs ++ [.pointer (some ⟨P2.B, 0, none⟩)])).toArray 57)) := (Below.refl _ _).alloc (Nat.le_refl _) _
  have hH := rH.lt
  have hs0 : w.drew.heap.size = w.heap.size := rfl
  have hs1 := b1.size
  have hs2 := b2.size
  refine ⟨⟨w2.heap.size, H, d, P2⟩, rfl, ⟨?_, (rH.put (b2.block _ hH)).put (ba.block _ (by show H < _; omega)), hm.ul, l2.below ba, ?_, ?_, ?_⟩, ?_, bd2.trans (ba.mono bd2.size)⟩
  · refine ⟨_, heap_alloc_new w2 _, fun j v hv => ?_⟩
    rw [Hcs.out]
    simpa [whV] using hv
  · intro e
    have := l2.lt5 (k := w2.heap.size) e
    omega
  · intro e
    have : w1.heap.size ≤ H := g2 H e
    omega
  · show w2.heap.size ≠ H
    omega
  · intro k hk
    rcases List.mem_cons.1 hk with e | e
    · have e' : k = w2.heap.size := e
      omega
    · rcases List.mem_cons.1 e with e | e
      · have e' : k = H := e
        omega
      · have := g2 k e
        omega

theorem wcopy_any (h : WQ w T N n wh) :
    Calls Try.prog 23 #[.pointer (some ⟨T.B, 0, none⟩)] w fun e w' => ∃ T2 : Wp, e = .returned (.pointer (some ⟨T2.B, 0, none⟩)) ∧ WQ w' T2 N n wh ∧ (∀ k ∈ T2.S, w.heap.size ≤ k) ∧ Below w.heap.size w w' := by
  obtain ⟨us, ls, hm, hp⟩ := h.pair
  refine (wcopy_wm hm).mono ?_
  rintro e w' ⟨T2, rfl, h2, hk, hb⟩
  exact ⟨T2, rfl, ⟨⟨us, ls, h2, hp⟩, h.2⟩, hk, hb⟩
end
end Go.Proofs.Ytmjjghhlalaeiaa
