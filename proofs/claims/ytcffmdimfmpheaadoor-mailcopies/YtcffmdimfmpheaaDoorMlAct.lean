/- The statements' act: a box and the reference's, alike. -/
import Derived.Test.YtcffmdimfmpheaaDoorMlActM
import Derived.Test.YtcffmdimfmpheaaDoorMlPut
import Derived.Test.YtcffmdimfmpheaaDoorMlCat
import Derived.Test.YtcffmdimfmpheaaDoorMlSml
import Derived.Test.YtcffmdimfmpheaaDoorMlDlf
import Derived.Test.YtcffmdimfmpheaaDoorRfUnd
import Derived.Test.YtcffmdimfmpheaaDoorRfSml
import Derived.Test.YtcffmdimfmpheaaDoorESame
namespace Go.Proofs.YtcffmdimfmpheaaDoor
open Go Go.RowKit
set_option linter.unusedSimpArgs false

/-- A box of the program's and one of the reference's, laid apart. -/
structure Pr (W0 w : World) (B : Nat) (T : List Nat) (M : Nat) (R : List Nat) (N : Nat) (xs xs' : List Ev) : Prop where
  a : BQ w B T N xs
  r : RQ w M R N xs'
  d : Disj T R
  s : Step [] W0 (T ++ R) w
section
variable {W0 w w' : World} {B M N : Nat} {T R T' R' : List Nat} {xs xs' ys : List Ev}
theorem Pr.keep (h : Pr W0 w B T M R N xs xs') (hb : But [] w w') : Pr W0 w' B T M R N xs xs' := ⟨h.a.keep hb, h.r.keep hb, h.d, h.s.trans (Step.keep hb)⟩
theorem Pr.below (h : Pr W0 w B T M R N xs xs') (hb : Below w.heap.size w w') : Pr W0 w' B T M R N xs xs' := h.keep (.of_below hb)
theorem Pr.left (h : Pr W0 w B T M R N xs xs') (h' : BQ w' B T' N ys) (st : Step T w T' w') : Pr W0 w' B T' M R N ys xs' := ⟨h', h.r.but st.but h.d.symm, h.d.step st h.r.lt, h.s.trans (st.left R)⟩
theorem Pr.right (h : Pr W0 w B T M R N xs xs') (h' : RQ w' M R' N ys) (st : Step R w R' w') : Pr W0 w' B T M R' N xs ys := ⟨h.a.but st.but h.d, h', (h.d.symm.step st h.a.lt).symm, h.s.trans (st.right T)⟩
theorem Pr.lt (h : Pr W0 w B T M R N xs xs') : ∀ x ∈ T ++ R, x < w.heap.size := fun x hx => (List.mem_append.1 hx).elim (h.a.lt x) (h.r.lt x)
theorem Pr.out (h : Pr W0 w B T M R N xs xs') {A : Nat} (hA : w.heap.size ≤ A) : A ∉ T ++ R := fun e => by have := h.lt A e; omega
theorem Pr.tab (h : Pr W0 w B T M R N xs xs') (hT : Tab W0) : Tab w := hT.on h.s.below
end
theorem same_eq {w : World} {xa ya : Option Addr} {xc yc n : Nat} {xs : List Ev} (hn : xs.length = n) (hx : EV w xa xs) (hy : EV w ya xs) (hl : xs.length ≤ 50000) :
    Calls Tryd.prog 13 #[.slice xa n xc, .slice ya n yc] w fun e w' => e = .returned (.bool true) ∧ Below w.heap.size w w' := by
  subst hn
  have := rsame_any xc yc hx hy (by omega)
  rw [sameB_refl] at this
  exact this
theorem acA_eq (kd n : Int) (e : Ev) (l : List Ev) (la : Option Addr) (lc : Nat) : acA ⟨kd, n, e, l⟩ la lc = #[.int .i64 kd, .int .i64 n, .int .i64 e.kd, .int .i64 e.ac, .int .i64 e.th, .int .i64 e.va, .int .i64 e.pg, .int .i64 e.pc, .int .i64 (e.rs 0), .int .i64 (e.rs 1), .int .i64 (e.rs 2), .int .i64 (e.rs 3), .int .i64 (e.rs 4), .int .i64 (e.rs 5), .int .i64 (e.rs 6), .int .i64 (e.rs 7), .int .i64 e.dp, .slice la l.length lc] := rfl
section
variable {W0 w : World} {B M N : Nat} {T R : List Nat} {xs : List Ev}
set_option maxHeartbeats 4000000 in
set_option maxRecDepth 100000 in
theorem act0_any (h : Pr W0 w B T M R N xs xs) (hT : Tab W0) (n : Int) (e : Ev) (l : List Ev) (la : Option Addr) (lc : Nat) (_hl : EV W0 la l) (_hm : l.length ≤ maxLen) :
    Calls Tryd.prog 11 #[.pointer (some ⟨B, 0, none⟩), .pointer (some ⟨M, 0, none⟩), .agg (acA ⟨0, n, e, l⟩ la lc)] w fun r w' => r = .returned (.bool true) ∧ ∃ T' R', Pr W0 w' B T' M R' N (actX N xs ⟨0, n, e, l⟩) (actX N xs ⟨0, n, e, l⟩) ∧ Step (T ++ R) w (T' ++ R') w' := by
  have hln := h.a.len
  have ba : Below w.heap.size w (w.alloc (.cells (acA ⟨0, n, e, l⟩ la lc) 36)) := (Below.refl _ w).alloc (Nat.le_refl _) _
  have hP := h.below ba
  have hr := at18_new w ⟨0, n, e, l⟩ la lc
  have hout := h.out (A := w.heap.size) (Nat.le_refl _)
  have hs0 : (w.alloc (.cells (acA ⟨0, n, e, l⟩ la lc) 36)).heap.size = w.heap.size + 1 := by simp
  have HS0 := Hid.mk hs0
  have sa : Step (T ++ R) w (T ++ R) (w.alloc (.cells (acA ⟨0, n, e, l⟩ la lc) 36)) := Step.keep (.of_below ba)
  clear hs0
  have q0 : (w.alloc (.cells (acA ⟨0, n, e, l⟩ la lc) 36)).cell? ⟨w.heap.size, 0, none⟩ = some (.int .i64 0) := (range18 hr).1
  rw [acA_eq] at *
  go_enter Tryd.func11, Tryd.ntmps11
  go_upto_region 3 with fail
  generalize (w.alloc (.cells #[.int .i64 0, .int .i64 n, .int .i64 e.kd, .int .i64 e.ac, .int .i64 e.th, .int .i64 e.va, .int .i64 e.pg, .int .i64 e.pc, .int .i64 (e.rs 0), .int .i64 (e.rs 1), .int .i64 (e.rs 2), .int .i64 (e.rs 3), .int .i64 (e.rs 4), .int .i64 (e.rs 5), .int .i64 (e.rs 6), .int .i64 (e.rs 7), .int .i64 e.dp, .slice la l.length lc] 36)) = W at *
  have hPd := hP.keep (But.refl [] W).drew
  have hrd : W.drew.rangeAt w.heap.size 0 (c18 ⟨0, n, e, l⟩ la lc) := hr
  have sd := sa.trans (Step.keep (But.refl [] W).drew)
  have hsz : w.heap.size < W.heap.size := by have := HS0.out; omega
  clear hP hr sa q0 h
  refine wp_region_held_drew (S := (fun w' : World => w'.rangeAt w.heap.size 0 (c18 ⟨0, n, e, l⟩ la lc))) (by kernel_rfl) hrd (fun hHeld => ?_)
  refine anyH_take (i := 0) (v := ?_) (some 11) rfl rfl (by kernel_rfl) (fun _ _ _ h => h) (Or.inl ⟨by rfl, ?_⟩) (by assumption) ?_
  rotate_left
  · (intro w hSw; obtain ⟨z0, z1, -, z3⟩ := range18 hSw; simp only [Nat.zero_add] at z0 z1 z3; go_simp; all_goals with_reducible rfl)
  try simp only [Act.put, List.setIfInBounds_toArray, List.set_cons_zero, List.set_cons_succ]
  refine anyH_take (i := 1) (v := ?_) (some 12) rfl rfl (by kernel_rfl) (fun _ _ _ h => h) (Or.inl ⟨by rfl, ?_⟩) (by assumption) ?_
  rotate_left
  · (intro w hSw; obtain ⟨z0, z1, -, z3⟩ := range18 hSw; simp only [Nat.zero_add] at z0 z1 z3; go_simp; all_goals with_reducible rfl)
  try simp only [Act.put, List.setIfInBounds_toArray, List.set_cons_zero, List.set_cons_succ]
  refine anyH_take (i := 2) (v := .agg (evA e)) (some 13) rfl rfl (by kernel_rfl) (fun _ _ _ h => h) (yieldsIf_load_mid (by rfl) 33 (.tmp 12) rfl w.heap.size 2 rfl (c15 e) _ (fun w1 hw1 => (range18 hw1).2.2.1) Tryd.underlying33 rfl size15) (by assumption) ?_
  try simp only [Act.put, List.setIfInBounds_toArray, List.set_cons_zero, List.set_cons_succ]
  refine anyH_take (i := 4) (v := ?_) (some 15) rfl rfl (by kernel_rfl) (fun _ _ _ h => h) (Or.inl ⟨by rfl, ?_⟩) (by assumption) ?_
  rotate_left
  · (intro w hSw; obtain ⟨z0, z1, -, z3⟩ := range18 hSw; simp only [Nat.zero_add] at z0 z1 z3; go_simp; all_goals with_reducible rfl)
  try simp only [Act.put, List.setIfInBounds_toArray, List.set_cons_zero, List.set_cons_succ]
  refine anyH_take (i := 5) (v := ?_) (some 16) rfl rfl (by kernel_rfl) (fun _ _ _ h => h) (Or.inl ⟨by rfl, ?_⟩) (by assumption) ?_
  rotate_left
  · (intro w hSw; obtain ⟨z0, z1, -, z3⟩ := range18 hSw; simp only [Nat.zero_add] at z0 z1 z3; go_simp; all_goals with_reducible rfl)
  try simp only [Act.put, List.setIfInBounds_toArray, List.set_cons_zero, List.set_cons_succ]
  refine anyH_take (i := 6) (v := .agg (evA e)) (some 17) rfl rfl (by kernel_rfl) (fun _ _ _ h => h) (yieldsIf_load_mid (by rfl) 33 (.tmp 16) rfl w.heap.size 2 rfl (c15 e) _ (fun w1 hw1 => (range18 hw1).2.2.1) Tryd.underlying33 rfl size15) (by assumption) ?_
  try simp only [Act.put, List.setIfInBounds_toArray, List.set_cons_zero, List.set_cons_succ]
  refine anyH_one (i := 3) (by kernel_rfl) rfl (fun K hK => ?_)
  go_simp
  go_at_call 19
  refine (put_any hPd.a (hPd.tab hT) e).mono ?_
  rintro r w2 ⟨rfl, T2, d2, s2⟩
  have p2 := hPd.left d2 s2
  have hr2 : w2.rangeAt w.heap.size 0 (c18 ⟨0, n, e, l⟩ la lc) := range_but hrd s2.but (fun hx => hout (List.mem_append_left _ hx))
  refine hK.out _ _ hr2 (fun hHeld => ?_)
  clear hK K
  try simp only [Act.put, List.setIfInBounds_toArray, List.set_cons_zero, List.set_cons_succ]
  refine anyH_one (i := 7) (by kernel_rfl) rfl (fun K hK => ?_)
  go_simp
  go_at_call 25
  refine (rput_any p2.r (by omega) e).mono ?_
  rintro r w3 ⟨rfl, R3, r3, s3⟩
  have p3 := p2.right r3 s3
  have hr3 : w3.rangeAt w.heap.size 0 (c18 ⟨0, n, e, l⟩ la lc) := range_but hr2 s3.but (fun hx => hout (List.mem_append_right _ hx))
  refine hK.out _ _ hr3 (fun hHeld => ?_)
  clear hK K
  try simp only [Act.put, List.setIfInBounds_toArray, List.set_cons_zero, List.set_cons_succ]
  refine anyH_take (i := 8) (v := ?_) (some 19) rfl rfl (by kernel_rfl) (fun _ _ _ h => h) (Or.inl ⟨by rfl, ?_⟩) (by assumption) ?_
  rotate_left
  · (intro w hSw; go_simp; all_goals with_reducible rfl)
  try simp only [Act.put, List.setIfInBounds_toArray, List.set_cons_zero, List.set_cons_succ]
  refine anyH_take (i := 9) (v := ?_) (some 6) rfl rfl (by kernel_rfl) (fun _ _ _ h => h) (Or.inl ⟨by rfl, ?_⟩) (by assumption) ?_
  rotate_left
  · (intro w hSw; obtain ⟨z0, z1, -, z3⟩ := range18 hSw; simp only [Nat.zero_add] at z0 z1 z3; go_simp; all_goals with_reducible rfl)
  try simp only [Act.put, List.setIfInBounds_toArray, List.set_cons_zero, List.set_cons_succ]
  refine wpAnyH_done (by kernel_rfl) ?_ _
  go_wp2_with fail
  go_ret
  exact ⟨rfl, _, _, p3, (sd.trans (s2.left R)).trans (s3.right T2)⟩
set_option maxHeartbeats 4000000 in
set_option maxRecDepth 100000 in
theorem act1_any (h : Pr W0 w B T M R N xs xs) (_hT : Tab W0) (n : Int) (e : Ev) (l : List Ev) (la : Option Addr) (lc : Nat) (_hl : EV W0 la l) (_hm : l.length ≤ maxLen) :
    Calls Tryd.prog 11 #[.pointer (some ⟨B, 0, none⟩), .pointer (some ⟨M, 0, none⟩), .agg (acA ⟨1, n, e, l⟩ la lc)] w fun r w' => r = .returned (.bool true) ∧ ∃ T' R', Pr W0 w' B T' M R' N (actX N xs ⟨1, n, e, l⟩) (actX N xs ⟨1, n, e, l⟩) ∧ Step (T ++ R) w (T' ++ R') w' := by
  have hln := h.a.len
  have ba : Below w.heap.size w (w.alloc (.cells (acA ⟨1, n, e, l⟩ la lc) 36)) := (Below.refl _ w).alloc (Nat.le_refl _) _
  have hP := h.below ba
  have hr := at18_new w ⟨1, n, e, l⟩ la lc
  have hout := h.out (A := w.heap.size) (Nat.le_refl _)
  have hs0 : (w.alloc (.cells (acA ⟨1, n, e, l⟩ la lc) 36)).heap.size = w.heap.size + 1 := by simp
  have HS0 := Hid.mk hs0
  have sa : Step (T ++ R) w (T ++ R) (w.alloc (.cells (acA ⟨1, n, e, l⟩ la lc) 36)) := Step.keep (.of_below ba)
  clear hs0
  have q0 : (w.alloc (.cells (acA ⟨1, n, e, l⟩ la lc) 36)).cell? ⟨w.heap.size, 0, none⟩ = some (.int .i64 1) := (range18 hr).1
  rw [acA_eq] at *
  go_enter Tryd.func11, Tryd.ntmps11
  go_upto_region 5 with fail
  generalize (w.alloc (.cells #[.int .i64 1, .int .i64 n, .int .i64 e.kd, .int .i64 e.ac, .int .i64 e.th, .int .i64 e.va, .int .i64 e.pg, .int .i64 e.pc, .int .i64 (e.rs 0), .int .i64 (e.rs 1), .int .i64 (e.rs 2), .int .i64 (e.rs 3), .int .i64 (e.rs 4), .int .i64 (e.rs 5), .int .i64 (e.rs 6), .int .i64 (e.rs 7), .int .i64 e.dp, .slice la l.length lc] 36)) = W at *
  have hPd := hP.keep (But.refl [] W).drew
  have hrd : W.drew.rangeAt w.heap.size 0 (c18 ⟨1, n, e, l⟩ la lc) := hr
  have sd := sa.trans (Step.keep (But.refl [] W).drew)
  have hsz : w.heap.size < W.heap.size := by have := HS0.out; omega
  clear hP hr sa q0 h
  refine wp_region_held_drew (S := (fun w' : World => w'.rangeAt w.heap.size 0 (c18 ⟨1, n, e, l⟩ la lc))) (by kernel_rfl) hrd (fun hHeld => ?_)
  refine anyH_take (i := 0) (v := ?_) (some 22) rfl rfl (by kernel_rfl) (fun _ _ _ h => h) (Or.inl ⟨by rfl, ?_⟩) (by assumption) ?_
  rotate_left
  · (intro w hSw; obtain ⟨z0, z1, -, z3⟩ := range18 hSw; simp only [Nat.zero_add] at z0 z1 z3; go_simp; all_goals with_reducible rfl)
  try simp only [Act.put, List.setIfInBounds_toArray, List.set_cons_zero, List.set_cons_succ]
  refine anyH_take (i := 1) (v := ?_) (some 23) rfl rfl (by kernel_rfl) (fun _ _ _ h => h) (Or.inl ⟨by rfl, ?_⟩) (by assumption) ?_
  rotate_left
  · (intro w hSw; obtain ⟨z0, z1, -, z3⟩ := range18 hSw; simp only [Nat.zero_add] at z0 z1 z3; go_simp; all_goals with_reducible rfl)
  try simp only [Act.put, List.setIfInBounds_toArray, List.set_cons_zero, List.set_cons_succ]
  refine anyH_take (i := 2) (v := ?_) (some 24) rfl rfl (by kernel_rfl) (fun _ _ _ h => h) (Or.inl ⟨by rfl, ?_⟩) (by assumption) ?_
  rotate_left
  · (intro w hSw; obtain ⟨z0, z1, -, z3⟩ := range18 hSw; simp only [Nat.zero_add] at z0 z1 z3; go_simp; all_goals with_reducible rfl)
  try simp only [Act.put, List.setIfInBounds_toArray, List.set_cons_zero, List.set_cons_succ]
  refine anyH_take (i := 4) (v := ?_) (some 26) rfl rfl (by kernel_rfl) (fun _ _ _ h => h) (Or.inl ⟨by rfl, ?_⟩) (by assumption) ?_
  rotate_left
  · (intro w hSw; obtain ⟨z0, z1, -, z3⟩ := range18 hSw; simp only [Nat.zero_add] at z0 z1 z3; go_simp; all_goals with_reducible rfl)
  try simp only [Act.put, List.setIfInBounds_toArray, List.set_cons_zero, List.set_cons_succ]
  refine anyH_take (i := 5) (v := ?_) (some 27) rfl rfl (by kernel_rfl) (fun _ _ _ h => h) (Or.inl ⟨by rfl, ?_⟩) (by assumption) ?_
  rotate_left
  · (intro w hSw; obtain ⟨z0, z1, -, z3⟩ := range18 hSw; simp only [Nat.zero_add] at z0 z1 z3; go_simp; all_goals with_reducible rfl)
  try simp only [Act.put, List.setIfInBounds_toArray, List.set_cons_zero, List.set_cons_succ]
  refine anyH_take (i := 6) (v := ?_) (some 28) rfl rfl (by kernel_rfl) (fun _ _ _ h => h) (Or.inl ⟨by rfl, ?_⟩) (by assumption) ?_
  rotate_left
  · (intro w hSw; obtain ⟨z0, z1, -, z3⟩ := range18 hSw; simp only [Nat.zero_add] at z0 z1 z3; go_simp; all_goals with_reducible rfl)
  try simp only [Act.put, List.setIfInBounds_toArray, List.set_cons_zero, List.set_cons_succ]
  refine anyH_one (i := 3) (by kernel_rfl) rfl (fun K hK => ?_)
  go_simp
  go_at_call 20
  refine (take_any hPd.a n).mono ?_
  rintro r w2 ⟨v2, T2, rfl, ho2, d2, s2⟩
  have p2 := hPd.left d2 s2
  obtain ⟨a2, c2, rfl⟩ := ho2.at_ rfl
  have hr2 : w2.rangeAt w.heap.size 0 (c18 ⟨1, n, e, l⟩ la lc) := range_but hrd s2.but (fun hx => hout (List.mem_append_left _ hx))
  have hRo : ∀ g, (Value.slice a2 (tkT n xs).length c2).ownBlock = some g → g ∉ R := fun g hg hx => by have h1 := (ho2.lt hg).1; have h2 := hPd.r.lt g hx; omega
  refine hK.out _ _ hr2 (fun hHeld => ?_)
  clear hK K
  try simp only [Act.put, List.setIfInBounds_toArray, List.set_cons_zero, List.set_cons_succ]
  refine anyH_one (i := 7) (by kernel_rfl) rfl (fun K hK => ?_)
  go_simp
  go_at_call 26
  refine (rtake_any p2.r (by omega) n).mono ?_
  rintro r w3 ⟨a3, c3, R3, rfl, he3, r3, s3⟩
  have p3 := p2.right r3 s3
  have ho3 := ho2.put (w' := w3) (fun g hg => s3.but.block g (ho2.lt hg).2 (hRo g hg))
  have hlen3 : (tkT n xs).length ≤ 50000 := by unfold tkT; rw [List.length_take]; omega
  have hr3 : w3.rangeAt w.heap.size 0 (c18 ⟨1, n, e, l⟩ la lc) := range_but hr2 s3.but (fun hx => hout (List.mem_append_right _ hx))
  refine hK.out _ _ hr3 (fun hHeld => ?_)
  clear hK K
  try simp only [Act.put, List.setIfInBounds_toArray, List.set_cons_zero, List.set_cons_succ]
  refine anyH_one (i := 8) (by kernel_rfl) rfl (fun K hK => ?_)
  go_simp
  go_at_call 13
  refine (same_eq rfl ho3.ev_.2.2 he3 hlen3).mono ?_
  rintro r w4 ⟨rfl, b4⟩
  have p4 := p3.below b4
  have hr4 : w4.rangeAt w.heap.size 0 (c18 ⟨1, n, e, l⟩ la lc) := range_below hr3 b4
  refine hK.out _ _ hr4 (fun hHeld => ?_)
  clear hK K
  try simp only [Act.put, List.setIfInBounds_toArray, List.set_cons_zero, List.set_cons_succ]
  refine anyH_take (i := 9) (v := ?_) (some 6) rfl rfl (by kernel_rfl) (fun _ _ _ h => h) (Or.inl ⟨by rfl, ?_⟩) (by assumption) ?_
  rotate_left
  · (intro w hSw; obtain ⟨z0, z1, -, z3⟩ := range18 hSw; simp only [Nat.zero_add] at z0 z1 z3; go_simp; all_goals with_reducible rfl)
  try simp only [Act.put, List.setIfInBounds_toArray, List.set_cons_zero, List.set_cons_succ]
  refine wpAnyH_done (by kernel_rfl) ?_ _
  go_wp2_with fail
  go_ret
  exact ⟨rfl, _, _, p4, ((sd.trans (s2.left R)).trans (s3.right T2)).trans (Step.keep (.of_below b4))⟩
set_option maxHeartbeats 4000000 in
set_option maxRecDepth 100000 in
theorem act2_any (h : Pr W0 w B T M R N xs xs) (hT : Tab W0) (n : Int) (e : Ev) (l : List Ev) (la : Option Addr) (lc : Nat) (hl : EV W0 la l) (hm : l.length ≤ maxLen) :
    Calls Tryd.prog 11 #[.pointer (some ⟨B, 0, none⟩), .pointer (some ⟨M, 0, none⟩), .agg (acA ⟨2, n, e, l⟩ la lc)] w fun r w' => r = .returned (.bool true) ∧ ∃ T' R', Pr W0 w' B T' M R' N (actX N xs ⟨2, n, e, l⟩) (actX N xs ⟨2, n, e, l⟩) ∧ Step (T ++ R) w (T' ++ R') w' := by
  have hln := h.a.len
  have ba : Below w.heap.size w (w.alloc (.cells (acA ⟨2, n, e, l⟩ la lc) 36)) := (Below.refl _ w).alloc (Nat.le_refl _) _
  have hP := h.below ba
  have hr := at18_new w ⟨2, n, e, l⟩ la lc
  have hout := h.out (A := w.heap.size) (Nat.le_refl _)
  have hs0 : (w.alloc (.cells (acA ⟨2, n, e, l⟩ la lc) 36)).heap.size = w.heap.size + 1 := by simp
  have HS0 := Hid.mk hs0
  have sa : Step (T ++ R) w (T ++ R) (w.alloc (.cells (acA ⟨2, n, e, l⟩ la lc) 36)) := Step.keep (.of_below ba)
  have HM := Hid.mk hm
  clear hs0 hm
  have q0 : (w.alloc (.cells (acA ⟨2, n, e, l⟩ la lc) 36)).cell? ⟨w.heap.size, 0, none⟩ = some (.int .i64 2) := (range18 hr).1
  rw [acA_eq] at *
  go_enter Tryd.func11, Tryd.ntmps11
  go_upto_region 7 with fail
  generalize (w.alloc (.cells #[.int .i64 2, .int .i64 n, .int .i64 e.kd, .int .i64 e.ac, .int .i64 e.th, .int .i64 e.va, .int .i64 e.pg, .int .i64 e.pc, .int .i64 (e.rs 0), .int .i64 (e.rs 1), .int .i64 (e.rs 2), .int .i64 (e.rs 3), .int .i64 (e.rs 4), .int .i64 (e.rs 5), .int .i64 (e.rs 6), .int .i64 (e.rs 7), .int .i64 e.dp, .slice la l.length lc] 36)) = W at *
  have hPd := hP.keep (But.refl [] W).drew
  have hrd : W.drew.rangeAt w.heap.size 0 (c18 ⟨2, n, e, l⟩ la lc) := hr
  have sd := sa.trans (Step.keep (But.refl [] W).drew)
  have hsz : w.heap.size < W.heap.size := by have := HS0.out; omega
  clear hP hr sa q0 h
  refine wp_region_held_drew (S := (fun w' : World => w'.rangeAt w.heap.size 0 (c18 ⟨2, n, e, l⟩ la lc))) (by kernel_rfl) hrd (fun hHeld => ?_)
  refine anyH_take (i := 0) (v := ?_) (some 33) rfl rfl (by kernel_rfl) (fun _ _ _ h => h) (Or.inl ⟨by rfl, ?_⟩) (by assumption) ?_
  rotate_left
  · (intro w hSw; obtain ⟨z0, z1, -, z3⟩ := range18 hSw; simp only [Nat.zero_add] at z0 z1 z3; go_simp; all_goals with_reducible rfl)
  try simp only [Act.put, List.setIfInBounds_toArray, List.set_cons_zero, List.set_cons_succ]
  refine anyH_take (i := 1) (v := ?_) (some 34) rfl rfl (by kernel_rfl) (fun _ _ _ h => h) (Or.inl ⟨by rfl, ?_⟩) (by assumption) ?_
  rotate_left
  · (intro w hSw; obtain ⟨z0, z1, -, z3⟩ := range18 hSw; simp only [Nat.zero_add] at z0 z1 z3; go_simp; all_goals with_reducible rfl)
  try simp only [Act.put, List.setIfInBounds_toArray, List.set_cons_zero, List.set_cons_succ]
  refine anyH_take (i := 2) (v := ?_) (some 35) rfl rfl (by kernel_rfl) (fun _ _ _ h => h) (Or.inl ⟨by rfl, ?_⟩) (by assumption) ?_
  rotate_left
  · (intro w hSw; obtain ⟨z0, z1, -, z3⟩ := range18 hSw; simp only [Nat.zero_add] at z0 z1 z3; go_simp; all_goals with_reducible rfl)
  try simp only [Act.put, List.setIfInBounds_toArray, List.set_cons_zero, List.set_cons_succ]
  refine anyH_take (i := 4) (v := ?_) (some 37) rfl rfl (by kernel_rfl) (fun _ _ _ h => h) (Or.inl ⟨by rfl, ?_⟩) (by assumption) ?_
  rotate_left
  · (intro w hSw; obtain ⟨z0, z1, -, z3⟩ := range18 hSw; simp only [Nat.zero_add] at z0 z1 z3; go_simp; all_goals with_reducible rfl)
  try simp only [Act.put, List.setIfInBounds_toArray, List.set_cons_zero, List.set_cons_succ]
  refine anyH_take (i := 5) (v := ?_) (some 38) rfl rfl (by kernel_rfl) (fun _ _ _ h => h) (Or.inl ⟨by rfl, ?_⟩) (by assumption) ?_
  rotate_left
  · (intro w hSw; obtain ⟨z0, z1, -, z3⟩ := range18 hSw; simp only [Nat.zero_add] at z0 z1 z3; go_simp; all_goals with_reducible rfl)
  try simp only [Act.put, List.setIfInBounds_toArray, List.set_cons_zero, List.set_cons_succ]
  refine anyH_take (i := 6) (v := ?_) (some 39) rfl rfl (by kernel_rfl) (fun _ _ _ h => h) (Or.inl ⟨by rfl, ?_⟩) (by assumption) ?_
  rotate_left
  · (intro w hSw; obtain ⟨z0, z1, -, z3⟩ := range18 hSw; simp only [Nat.zero_add] at z0 z1 z3; go_simp; all_goals with_reducible rfl)
  try simp only [Act.put, List.setIfInBounds_toArray, List.set_cons_zero, List.set_cons_succ]
  refine anyH_one (i := 3) (by kernel_rfl) rfl (fun K hK => ?_)
  go_simp
  go_at_call 21
  refine (undo_any hPd.a (hPd.tab hT) lc (hl.below hPd.s.below) HM.out).mono ?_
  rintro r w2 ⟨rfl, T2, d2, s2⟩
  have p2 := hPd.left d2 s2
  have hr2 : w2.rangeAt w.heap.size 0 (c18 ⟨2, n, e, l⟩ la lc) := range_but hrd s2.but (fun hx => hout (List.mem_append_left _ hx))
  refine hK.out _ _ hr2 (fun hHeld => ?_)
  clear hK K
  try simp only [Act.put, List.setIfInBounds_toArray, List.set_cons_zero, List.set_cons_succ]
  refine anyH_one (i := 7) (by kernel_rfl) rfl (fun K hK => ?_)
  go_simp
  go_at_call 27
  refine (rundo_any p2.r hln.1 hln.2 lc (hl.below p2.s.below) HM.out).mono ?_
  rintro r w3 ⟨rfl, R3, r3, s3⟩
  have p3 := p2.right r3 s3
  have hr3 : w3.rangeAt w.heap.size 0 (c18 ⟨2, n, e, l⟩ la lc) := range_but hr2 s3.but (fun hx => hout (List.mem_append_right _ hx))
  refine hK.out _ _ hr3 (fun hHeld => ?_)
  clear hK K
  try simp only [Act.put, List.setIfInBounds_toArray, List.set_cons_zero, List.set_cons_succ]
  refine anyH_take (i := 8) (v := ?_) (some 41) rfl rfl (by kernel_rfl) (fun _ _ _ h => h) (Or.inl ⟨by rfl, ?_⟩) (by assumption) ?_
  rotate_left
  · (intro w hSw; go_simp; all_goals with_reducible rfl)
  try simp only [Act.put, List.setIfInBounds_toArray, List.set_cons_zero, List.set_cons_succ]
  refine anyH_take (i := 9) (v := ?_) (some 6) rfl rfl (by kernel_rfl) (fun _ _ _ h => h) (Or.inl ⟨by rfl, ?_⟩) (by assumption) ?_
  rotate_left
  · (intro w hSw; obtain ⟨z0, z1, -, z3⟩ := range18 hSw; simp only [Nat.zero_add] at z0 z1 z3; go_simp; all_goals with_reducible rfl)
  try simp only [Act.put, List.setIfInBounds_toArray, List.set_cons_zero, List.set_cons_succ]
  refine wpAnyH_done (by kernel_rfl) ?_ _
  go_wp2_with fail
  go_ret
  exact ⟨rfl, _, _, p3, (sd.trans (s2.left R)).trans (s3.right T2)⟩
set_option maxHeartbeats 4000000 in
set_option maxRecDepth 100000 in
theorem act3_any (h : Pr W0 w B T M R N xs xs) (_hT : Tab W0) (n : Int) (e : Ev) (l : List Ev) (la : Option Addr) (lc : Nat) (_hl : EV W0 la l) (_hm : l.length ≤ maxLen) :
    Calls Tryd.prog 11 #[.pointer (some ⟨B, 0, none⟩), .pointer (some ⟨M, 0, none⟩), .agg (acA ⟨3, n, e, l⟩ la lc)] w fun r w' => r = .returned (.bool true) ∧ ∃ T' R', Pr W0 w' B T' M R' N (actX N xs ⟨3, n, e, l⟩) (actX N xs ⟨3, n, e, l⟩) ∧ Step (T ++ R) w (T' ++ R') w' := by
  have hln := h.a.len
  have ba : Below w.heap.size w (w.alloc (.cells (acA ⟨3, n, e, l⟩ la lc) 36)) := (Below.refl _ w).alloc (Nat.le_refl _) _
  have hP := h.below ba
  have hr := at18_new w ⟨3, n, e, l⟩ la lc
  have hout := h.out (A := w.heap.size) (Nat.le_refl _)
  have hs0 : (w.alloc (.cells (acA ⟨3, n, e, l⟩ la lc) 36)).heap.size = w.heap.size + 1 := by simp
  have HS0 := Hid.mk hs0
  have sa : Step (T ++ R) w (T ++ R) (w.alloc (.cells (acA ⟨3, n, e, l⟩ la lc) 36)) := Step.keep (.of_below ba)
  clear hs0
  have q0 : (w.alloc (.cells (acA ⟨3, n, e, l⟩ la lc) 36)).cell? ⟨w.heap.size, 0, none⟩ = some (.int .i64 3) := (range18 hr).1
  rw [acA_eq] at *
  go_enter Tryd.func11, Tryd.ntmps11
  go_upto_region 9 with fail
  generalize (w.alloc (.cells #[.int .i64 3, .int .i64 n, .int .i64 e.kd, .int .i64 e.ac, .int .i64 e.th, .int .i64 e.va, .int .i64 e.pg, .int .i64 e.pc, .int .i64 (e.rs 0), .int .i64 (e.rs 1), .int .i64 (e.rs 2), .int .i64 (e.rs 3), .int .i64 (e.rs 4), .int .i64 (e.rs 5), .int .i64 (e.rs 6), .int .i64 (e.rs 7), .int .i64 e.dp, .slice la l.length lc] 36)) = W at *
  have hPd := hP.keep (But.refl [] W).drew
  have hrd : W.drew.rangeAt w.heap.size 0 (c18 ⟨3, n, e, l⟩ la lc) := hr
  have sd := sa.trans (Step.keep (But.refl [] W).drew)
  have hsz : w.heap.size < W.heap.size := by have := HS0.out; omega
  clear hP hr sa q0 h
  refine wp_region_held_drew (S := (fun w' : World => w'.rangeAt w.heap.size 0 (c18 ⟨3, n, e, l⟩ la lc))) (by kernel_rfl) hrd (fun hHeld => ?_)
  refine anyH_take (i := 0) (v := ?_) (some 44) rfl rfl (by kernel_rfl) (fun _ _ _ h => h) (Or.inl ⟨by rfl, ?_⟩) (by assumption) ?_
  rotate_left
  · (intro w hSw; obtain ⟨z0, z1, -, z3⟩ := range18 hSw; simp only [Nat.zero_add] at z0 z1 z3; go_simp; all_goals with_reducible rfl)
  try simp only [Act.put, List.setIfInBounds_toArray, List.set_cons_zero, List.set_cons_succ]
  refine anyH_take (i := 1) (v := ?_) (some 45) rfl rfl (by kernel_rfl) (fun _ _ _ h => h) (Or.inl ⟨by rfl, ?_⟩) (by assumption) ?_
  rotate_left
  · (intro w hSw; obtain ⟨z0, z1, -, z3⟩ := range18 hSw; simp only [Nat.zero_add] at z0 z1 z3; go_simp; all_goals with_reducible rfl)
  try simp only [Act.put, List.setIfInBounds_toArray, List.set_cons_zero, List.set_cons_succ]
  refine anyH_take (i := 2) (v := ?_) (some 46) rfl rfl (by kernel_rfl) (fun _ _ _ h => h) (Or.inl ⟨by rfl, ?_⟩) (by assumption) ?_
  rotate_left
  · (intro w hSw; obtain ⟨z0, z1, -, z3⟩ := range18 hSw; simp only [Nat.zero_add] at z0 z1 z3; go_simp; all_goals with_reducible rfl)
  try simp only [Act.put, List.setIfInBounds_toArray, List.set_cons_zero, List.set_cons_succ]
  refine anyH_take (i := 4) (v := ?_) (some 48) rfl rfl (by kernel_rfl) (fun _ _ _ h => h) (Or.inl ⟨by rfl, ?_⟩) (by assumption) ?_
  rotate_left
  · (intro w hSw; obtain ⟨z0, z1, -, z3⟩ := range18 hSw; simp only [Nat.zero_add] at z0 z1 z3; go_simp; all_goals with_reducible rfl)
  try simp only [Act.put, List.setIfInBounds_toArray, List.set_cons_zero, List.set_cons_succ]
  refine anyH_take (i := 5) (v := ?_) (some 49) rfl rfl (by kernel_rfl) (fun _ _ _ h => h) (Or.inl ⟨by rfl, ?_⟩) (by assumption) ?_
  rotate_left
  · (intro w hSw; obtain ⟨z0, z1, -, z3⟩ := range18 hSw; simp only [Nat.zero_add] at z0 z1 z3; go_simp; all_goals with_reducible rfl)
  try simp only [Act.put, List.setIfInBounds_toArray, List.set_cons_zero, List.set_cons_succ]
  refine anyH_take (i := 6) (v := ?_) (some 50) rfl rfl (by kernel_rfl) (fun _ _ _ h => h) (Or.inl ⟨by rfl, ?_⟩) (by assumption) ?_
  rotate_left
  · (intro w hSw; obtain ⟨z0, z1, -, z3⟩ := range18 hSw; simp only [Nat.zero_add] at z0 z1 z3; go_simp; all_goals with_reducible rfl)
  try simp only [Act.put, List.setIfInBounds_toArray, List.set_cons_zero, List.set_cons_succ]
  refine anyH_one (i := 3) (by kernel_rfl) rfl (fun K hK => ?_)
  go_simp
  go_at_call 24
  refine (drop_any hPd.a n).mono ?_
  rintro r w2 ⟨rfl, T2, d2, s2⟩
  have p2 := hPd.left d2 s2
  have hr2 : w2.rangeAt w.heap.size 0 (c18 ⟨3, n, e, l⟩ la lc) := range_but hrd s2.but (fun hx => hout (List.mem_append_left _ hx))
  refine hK.out _ _ hr2 (fun hHeld => ?_)
  clear hK K
  try simp only [Act.put, List.setIfInBounds_toArray, List.set_cons_zero, List.set_cons_succ]
  refine anyH_one (i := 7) (by kernel_rfl) rfl (fun K hK => ?_)
  go_simp
  go_at_call 28
  refine (rdrop_any p2.r (by omega) n).mono ?_
  rintro r w3 ⟨rfl, R3, r3, s3⟩
  have p3 := p2.right r3 s3
  have hr3 : w3.rangeAt w.heap.size 0 (c18 ⟨3, n, e, l⟩ la lc) := range_but hr2 s3.but (fun hx => hout (List.mem_append_right _ hx))
  refine hK.out _ _ hr3 (fun hHeld => ?_)
  clear hK K
  try simp only [Act.put, List.setIfInBounds_toArray, List.set_cons_zero, List.set_cons_succ]
  refine anyH_take (i := 8) (v := ?_) (some 52) rfl rfl (by kernel_rfl) (fun _ _ _ h => h) (Or.inl ⟨by rfl, ?_⟩) (by assumption) ?_
  rotate_left
  · (intro w hSw; go_simp; all_goals with_reducible rfl)
  try simp only [Act.put, List.setIfInBounds_toArray, List.set_cons_zero, List.set_cons_succ]
  refine anyH_take (i := 9) (v := ?_) (some 6) rfl rfl (by kernel_rfl) (fun _ _ _ h => h) (Or.inl ⟨by rfl, ?_⟩) (by assumption) ?_
  rotate_left
  · (intro w hSw; obtain ⟨z0, z1, -, z3⟩ := range18 hSw; simp only [Nat.zero_add] at z0 z1 z3; go_simp; all_goals with_reducible rfl)
  try simp only [Act.put, List.setIfInBounds_toArray, List.set_cons_zero, List.set_cons_succ]
  refine wpAnyH_done (by kernel_rfl) ?_ _
  go_wp2_with fail
  go_ret
  exact ⟨rfl, _, _, p3, (sd.trans (s2.left R)).trans (s3.right T2)⟩
set_option maxHeartbeats 1000000 in
set_option maxRecDepth 100000 in
theorem act_any (h : Pr W0 w B T M R N xs xs) (hT : Tab W0) (t : Ac) (la : Option Addr) (lc : Nat) (hl : EV W0 la t.l) (hm : t.l.length ≤ maxLen) :
    Calls Tryd.prog 11 #[.pointer (some ⟨B, 0, none⟩), .pointer (some ⟨M, 0, none⟩), .agg (acA t la lc)] w fun r w' => r = .returned (.bool true) ∧ ∃ T' R', Pr W0 w' B T' M R' N (actX N xs t) (actX N xs t) ∧ Step (T ++ R) w (T' ++ R') w' := by
  obtain ⟨kd, n, e, l⟩ := t
  by_cases k0 : kd = 0
  · subst k0; exact act0_any h hT n e l la lc hl hm
  by_cases k1 : kd = 1
  · subst k1; exact act1_any h hT n e l la lc hl hm
  by_cases k2 : kd = 2
  · subst k2; exact act2_any h hT n e l la lc hl hm
  by_cases k3 : kd = 3
  · subst k3; exact act3_any h hT n e l la lc hl hm
  have eX : actX N xs ⟨kd, n, e, l⟩ = xs := by simp [actX, k0, k1, k2, k3]
  rw [eX]
  have ba : Below w.heap.size w (w.alloc (.cells (acA ⟨kd, n, e, l⟩ la lc) 36)) := (Below.refl _ w).alloc (Nat.le_refl _) _
  have hP := h.below ba
  have q0 : (w.alloc (.cells (acA ⟨kd, n, e, l⟩ la lc) 36)).cell? ⟨w.heap.size, 0, none⟩ = some (.int .i64 kd) := (range18 (at18_new w ⟨kd, n, e, l⟩ la lc)).1
  have sa : Step (T ++ R) w (T ++ R) (w.alloc (.cells (acA ⟨kd, n, e, l⟩ la lc) 36)) := Step.keep (.of_below ba)
  rw [acA_eq] at *
  have j0 : (kd == 0) = false := by simpa using k0
  have j1 : (kd == 1) = false := by simpa using k1
  have j2 : (kd == 2) = false := by simpa using k2
  have j3 : (kd == 3) = false := by simpa using k3
  clear k0 k1 k2 k3 eX
  go_enter Tryd.func11, Tryd.ntmps11
  go_wp2_with fail
  go_ret
  exact ⟨rfl, _, _, hP, sa⟩
end
end Go.Proofs.YtcffmdimfmpheaaDoor
