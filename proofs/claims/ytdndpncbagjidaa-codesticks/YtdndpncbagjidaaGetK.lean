/- What a source and the reference's tell, asked the same: get. -/
import Derived.Test.YtdndpncbagjidaaRefI
import Derived.Test.YtdndpncbagjidaaIntsT
import Derived.Test.YtdndpncbagjidaaNoneWalk
import Derived.Test.YtdndpncbagjidaaHoldT
namespace Go.Proofs.Ytdndpncbagjidaa
open Go.RowKit
set_option linter.unusedVariables false

/-- What is left behind an ask. -/
def nxt (k l m : Int) (n : Nat) (c : Int) (st : Nat × List UInt8) : Nat × List UInt8 :=
  if k = 0 then (getS (numT n) 0 st).2 else if k = 1 then (getS (intT l m) 0 st).2 else if k = 2 then (getS (textT m) [] st).2 else if k = 3 then (getS flagT false st).2 else if k = 4 then (getS (intsT c l m) [] st).2 else (getS byteT 0 st).2

structure AskOk (k l m : Int) (n : Nat) (c : Int) : Prop where
  m : -9223372036854775808 ≤ m ∧ m ≤ 9223372036854775807
  c : -9223372036854775808 ≤ c ∧ c ≤ 9223372036854775807

/-- A source and the reference's side by side. -/
structure Gt (w : World) (B lo M : Nat) (st st' : Nat × List UInt8) : Prop where
  s : SQ w B st
  r : RQ w lo M st'
  b : B < lo
  l1 : st.2.length ≤ 1000
  l2 : st'.2.length ≤ 1000
def GetsT (B lo M : Nat) (w : World) (st st' nx nx' : Nat × List UInt8) (e : Ending) (w' : World) : Prop :=
  ∃ r, e = .returned (.bool r) ∧ (st = st' → r = true) ∧ SQ w' B nx ∧ RQ w' lo M nx' ∧ But [B, M] w w'

theorem intsG_len (l m : Int) : ∀ (n : Nat) (bs : List UInt8), (intsG l m n bs).2.1.length + (intsG l m n bs).2.2.length ≤ bs.length
  | 0, bs => by simp [intsG]
  | n + 1, bs => by
    have ih := intsG_len l m n (intT l m bs).2.2
    unfold intsG
    simp only
    split
    · rename_i h1
      have := intT_eats h1
      split
      · simp only [List.length_cons]
        omega
      · simp
    · simp
theorem intsT_len (c l m : Int) (bs : List UInt8) : (intsT c l m bs).2.1.length + (intsT c l m bs).2.2.length ≤ bs.length := by
  unfold intsT
  simp only
  split
  · rename_i h
    have e : numT (upN c) bs = (0, (numT (upN c) bs).2.1, (numT (upN c) bs).2.2) := Prod.ext h rfl
    have h1 := numG_eats (numT_ok e).1
    have h2 := intsG_len l m (numT (upN c) bs).2.1 (numT (upN c) bs).2.2
    omega
  · simp
theorem intsS_len (c l m : Int) (st : Nat × List UInt8) (h : st.2.length ≤ 1000) : (getS (intsT c l m) [] st).1.length ≤ 100000 := by
  unfold getS
  split
  · have := intsT_len c l m st.2
    simp only
    omega
  · simp

section
variable {w : World} {B lo M : Nat} {st st' : Nat × List UInt8}

set_option maxRecDepth 100000 in
set_option maxHeartbeats 4000000 in
theorem get0 (h : Gt w B lo M st st') (k l m c : Int) (n : Nat) (ha : AskOk k l m n c) :
    Calls Try.prog 22 #[.pointer (some ⟨B, 0, none⟩), .pointer (some ⟨M, 0, none⟩), .agg #[.int .i64 0, .int .i64 l, .int .i64 m, .int .u64 (n : Int), .int .i64 c]] w fun e w' => GetsT B lo M w st st' (nxt 0 l m n c st) (nxt 0 l m n c st') e w' := by
  obtain ⟨hs, hr, hBlo, hl1, hl2⟩ := h
  have hBw := hs.lt
  have hMw := hr.lt
  have hMlo := hr.1.base
  have hA := AskAt.new w 0 l m n c
  have hb0 : But [] w (w.alloc (.cells #[.int .i64 0, .int .i64 l, .int .i64 m, .int .u64 (n : Int), .int .i64 c] 40)) := (But.refl [] w).alloc _
  have hs1 := hs.keep hb0
  have hr1 := hr.keep hb0
  obtain ⟨c0, c1, c2, c3, c4⟩ := hA
  have HA := Hid.mk (AskAt.new w 0 l m n c)
  go_enter Try.func22, Try.ntmps22
  go_wp2_with fail
  have hA1 := HA.out.but (But.refl [] _).drew (by simp)
  have hsd := hs1.keep (But.refl [] _).drew
  have hrd := hr1.keep (But.refl [] _).drew
  have hbd := hb0.drew
  generalize hW : (w.alloc (.cells #[.int .i64 0, .int .i64 l, .int .i64 m, .int .u64 (n : Int), .int .i64 c] 40)) = W1 at *
  have hz1 : w.heap.size < W1.heap.size := World.block_lt_of_cell? _ _ c0
  clear hW hs1 hr1 c0 c1 c2 c3 c4 HA
  refine wp_region_held_drew (S := (fun w' => AskAt w' w.heap.size 0 l m n c)) (by kernel_rfl) hA1 (fun hHeld => ?_)
  refine anyH_take (i := 0) (v := ?_) (some 11) rfl rfl (by kernel_rfl) (fun _ _ _ h => h) (Or.inl ⟨by rfl, ?_⟩) (by assumption) ?_
  rotate_left
  · (intro w hSw; go_simp; all_goals with_reducible rfl)
  try simp only [Act.put, List.setIfInBounds_toArray, List.set_cons_zero, List.set_cons_succ]
  refine anyH_take (i := 1) (v := ?_) (some 12) rfl rfl (by kernel_rfl) (fun _ _ _ h => h) (Or.inl ⟨by rfl, ?_⟩) (by assumption) ?_
  rotate_left
  · (intro w hSw; go_simp; all_goals with_reducible rfl)
  try simp only [Act.put, List.setIfInBounds_toArray, List.set_cons_zero, List.set_cons_succ]
  refine anyH_take (i := 2) (v := ?_) (some 13) rfl rfl (by kernel_rfl) (fun _ _ _ h => h) (Or.inl ⟨by rfl, ?_⟩) (by assumption) ?_
  rotate_left
  · (intro w hSw; obtain ⟨d0, d1, d2, d3, d4⟩ := hSw; go_simp; all_goals with_reducible rfl)
  try simp only [Act.put, List.setIfInBounds_toArray, List.set_cons_zero, List.set_cons_succ]
  refine anyH_take (i := 4) (v := ?_) (some 15) rfl rfl (by kernel_rfl) (fun _ _ _ h => h) (Or.inl ⟨by rfl, ?_⟩) (by assumption) ?_
  rotate_left
  · (intro w hSw; go_simp; all_goals with_reducible rfl)
  try simp only [Act.put, List.setIfInBounds_toArray, List.set_cons_zero, List.set_cons_succ]
  refine anyH_take (i := 5) (v := ?_) (some 16) rfl rfl (by kernel_rfl) (fun _ _ _ h => h) (Or.inl ⟨by rfl, ?_⟩) (by assumption) ?_
  rotate_left
  · (intro w hSw; go_simp; all_goals with_reducible rfl)
  try simp only [Act.put, List.setIfInBounds_toArray, List.set_cons_zero, List.set_cons_succ]
  refine anyH_take (i := 6) (v := ?_) (some 17) rfl rfl (by kernel_rfl) (fun _ _ _ h => h) (Or.inl ⟨by rfl, ?_⟩) (by assumption) ?_
  rotate_left
  · (intro w hSw; obtain ⟨d0, d1, d2, d3, d4⟩ := hSw; go_simp; all_goals with_reducible rfl)
  try simp only [Act.put, List.setIfInBounds_toArray, List.set_cons_zero, List.set_cons_succ]
  refine anyH_one (i := 3) (by kernel_rfl) rfl (fun K hK => ?_)
  go_simp
  go_at_call 28
  refine (src28 st _ hsd n).mono ?_
  rintro e w2 ⟨hb2, hq2, v1, rfl, rfl⟩
  have hr2 := hrd.but hb2 (by simpa using hBlo)
  refine hK.out _ _ (hHeld.but hb2 (by simp; omega)) (fun hHeld => ?_)
  clear hK K
  try simp only [Act.put, List.setIfInBounds_toArray, List.set_cons_zero, List.set_cons_succ]
  refine anyH_one (i := 7) (by kernel_rfl) rfl (fun K hK => ?_)
  go_simp
  go_at_call 40
  refine (rs40 st' hr2 (by omega) n).mono ?_
  rintro e w3 ⟨hb3, hq3, v2, rfl, rfl⟩
  have hs3 := hq2.but hb3 (by simp; omega)
  refine hK.out _ _ (hHeld.but hb3 (by simp; omega)) (fun hHeld => ?_)
  clear hK K
  try simp only [Act.put, List.setIfInBounds_toArray, List.set_cons_zero, List.set_cons_succ]
  refine anyH_take (i := 8) (v := ?_) (some 19) rfl rfl (by kernel_rfl) (fun _ _ _ h => h) (Or.inl ⟨by rfl, ?_⟩) (by assumption) ?_
  rotate_left
  · (intro w hSw; go_simp; all_goals with_reducible rfl)
  try simp only [Act.put, List.setIfInBounds_toArray, List.set_cons_zero, List.set_cons_succ]
  refine anyH_take (i := 9) (v := ?_) (some 6) rfl rfl (by kernel_rfl) (fun _ _ _ h => h) (Or.inl ⟨by rfl, ?_⟩) (by assumption) ?_
  rotate_left
  · (intro w hSw; go_simp; all_goals with_reducible rfl)
  try simp only [Act.put, List.setIfInBounds_toArray, List.set_cons_zero, List.set_cons_succ]
  refine wpAnyH_done (by kernel_rfl) ?_ _
  go_wp2_with fail
  go_ret
  exact ⟨_, rfl, fun h => by subst h; simp, hs3, hq3, ((hbd.wide.trans (hb2.mono (by simp))).trans (hb3.mono (by simp)))⟩

set_option maxRecDepth 100000 in
set_option maxHeartbeats 4000000 in
theorem get1 (h : Gt w B lo M st st') (k l m c : Int) (n : Nat) (ha : AskOk k l m n c) :
    Calls Try.prog 22 #[.pointer (some ⟨B, 0, none⟩), .pointer (some ⟨M, 0, none⟩), .agg #[.int .i64 1, .int .i64 l, .int .i64 m, .int .u64 (n : Int), .int .i64 c]] w fun e w' => GetsT B lo M w st st' (nxt 1 l m n c st) (nxt 1 l m n c st') e w' := by
  obtain ⟨hs, hr, hBlo, hl1, hl2⟩ := h
  have hBw := hs.lt
  have hMw := hr.lt
  have hMlo := hr.1.base
  have hA := AskAt.new w 1 l m n c
  have hb0 : But [] w (w.alloc (.cells #[.int .i64 1, .int .i64 l, .int .i64 m, .int .u64 (n : Int), .int .i64 c] 40)) := (But.refl [] w).alloc _
  have hs1 := hs.keep hb0
  have hr1 := hr.keep hb0
  obtain ⟨c0, c1, c2, c3, c4⟩ := hA
  have HA := Hid.mk (AskAt.new w 1 l m n c)
  go_enter Try.func22, Try.ntmps22
  go_wp2_with fail
  have hA1 := HA.out.but (But.refl [] _).drew (by simp)
  have hsd := hs1.keep (But.refl [] _).drew
  have hrd := hr1.keep (But.refl [] _).drew
  have hbd := hb0.drew
  generalize hW : (w.alloc (.cells #[.int .i64 1, .int .i64 l, .int .i64 m, .int .u64 (n : Int), .int .i64 c] 40)) = W1 at *
  have hz1 : w.heap.size < W1.heap.size := World.block_lt_of_cell? _ _ c0
  clear hW hs1 hr1 c0 c1 c2 c3 c4 HA
  refine wp_region_held_drew (S := (fun w' => AskAt w' w.heap.size 1 l m n c)) (by kernel_rfl) hA1 (fun hHeld => ?_)
  refine anyH_take (i := 0) (v := ?_) (some 22) rfl rfl (by kernel_rfl) (fun _ _ _ h => h) (Or.inl ⟨by rfl, ?_⟩) (by assumption) ?_
  rotate_left
  · (intro w hSw; go_simp; all_goals with_reducible rfl)
  try simp only [Act.put, List.setIfInBounds_toArray, List.set_cons_zero, List.set_cons_succ]
  refine anyH_take (i := 1) (v := ?_) (some 23) rfl rfl (by kernel_rfl) (fun _ _ _ h => h) (Or.inl ⟨by rfl, ?_⟩) (by assumption) ?_
  rotate_left
  · (intro w hSw; go_simp; all_goals with_reducible rfl)
  try simp only [Act.put, List.setIfInBounds_toArray, List.set_cons_zero, List.set_cons_succ]
  refine anyH_take (i := 2) (v := ?_) (some 24) rfl rfl (by kernel_rfl) (fun _ _ _ h => h) (Or.inl ⟨by rfl, ?_⟩) (by assumption) ?_
  rotate_left
  · (intro w hSw; obtain ⟨d0, d1, d2, d3, d4⟩ := hSw; go_simp; all_goals with_reducible rfl)
  try simp only [Act.put, List.setIfInBounds_toArray, List.set_cons_zero, List.set_cons_succ]
  refine anyH_take (i := 3) (v := ?_) (some 25) rfl rfl (by kernel_rfl) (fun _ _ _ h => h) (Or.inl ⟨by rfl, ?_⟩) (by assumption) ?_
  rotate_left
  · (intro w hSw; go_simp; all_goals with_reducible rfl)
  try simp only [Act.put, List.setIfInBounds_toArray, List.set_cons_zero, List.set_cons_succ]
  refine anyH_take (i := 4) (v := ?_) (some 26) rfl rfl (by kernel_rfl) (fun _ _ _ h => h) (Or.inl ⟨by rfl, ?_⟩) (by assumption) ?_
  rotate_left
  · (intro w hSw; obtain ⟨d0, d1, d2, d3, d4⟩ := hSw; go_simp; all_goals with_reducible rfl)
  try simp only [Act.put, List.setIfInBounds_toArray, List.set_cons_zero, List.set_cons_succ]
  refine anyH_take (i := 6) (v := ?_) (some 28) rfl rfl (by kernel_rfl) (fun _ _ _ h => h) (Or.inl ⟨by rfl, ?_⟩) (by assumption) ?_
  rotate_left
  · (intro w hSw; go_simp; all_goals with_reducible rfl)
  try simp only [Act.put, List.setIfInBounds_toArray, List.set_cons_zero, List.set_cons_succ]
  refine anyH_take (i := 7) (v := ?_) (some 29) rfl rfl (by kernel_rfl) (fun _ _ _ h => h) (Or.inl ⟨by rfl, ?_⟩) (by assumption) ?_
  rotate_left
  · (intro w hSw; go_simp; all_goals with_reducible rfl)
  try simp only [Act.put, List.setIfInBounds_toArray, List.set_cons_zero, List.set_cons_succ]
  refine anyH_take (i := 8) (v := ?_) (some 30) rfl rfl (by kernel_rfl) (fun _ _ _ h => h) (Or.inl ⟨by rfl, ?_⟩) (by assumption) ?_
  rotate_left
  · (intro w hSw; obtain ⟨d0, d1, d2, d3, d4⟩ := hSw; go_simp; all_goals with_reducible rfl)
  try simp only [Act.put, List.setIfInBounds_toArray, List.set_cons_zero, List.set_cons_succ]
  refine anyH_take (i := 9) (v := ?_) (some 31) rfl rfl (by kernel_rfl) (fun _ _ _ h => h) (Or.inl ⟨by rfl, ?_⟩) (by assumption) ?_
  rotate_left
  · (intro w hSw; go_simp; all_goals with_reducible rfl)
  try simp only [Act.put, List.setIfInBounds_toArray, List.set_cons_zero, List.set_cons_succ]
  refine anyH_take (i := 10) (v := ?_) (some 32) rfl rfl (by kernel_rfl) (fun _ _ _ h => h) (Or.inl ⟨by rfl, ?_⟩) (by assumption) ?_
  rotate_left
  · (intro w hSw; obtain ⟨d0, d1, d2, d3, d4⟩ := hSw; go_simp; all_goals with_reducible rfl)
  try simp only [Act.put, List.setIfInBounds_toArray, List.set_cons_zero, List.set_cons_succ]
  refine anyH_one (i := 5) (by kernel_rfl) rfl (fun K hK => ?_)
  go_simp
  go_at_call 29
  refine (src29 st _ hsd l m).mono ?_
  rintro e w2 ⟨hb2, hq2, v1, rfl, rfl⟩
  have hr2 := hrd.but hb2 (by simpa using hBlo)
  refine hK.out _ _ (hHeld.but hb2 (by simp; omega)) (fun hHeld => ?_)
  clear hK K
  try simp only [Act.put, List.setIfInBounds_toArray, List.set_cons_zero, List.set_cons_succ]
  refine anyH_one (i := 11) (by kernel_rfl) rfl (fun K hK => ?_)
  go_simp
  go_at_call 41
  refine (rs41 st' hr2 (by omega) l m).mono ?_
  rintro e w3 ⟨hb3, hq3, v2, rfl, rfl⟩
  have hs3 := hq2.but hb3 (by simp; omega)
  refine hK.out _ _ (hHeld.but hb3 (by simp; omega)) (fun hHeld => ?_)
  clear hK K
  try simp only [Act.put, List.setIfInBounds_toArray, List.set_cons_zero, List.set_cons_succ]
  refine anyH_take (i := 12) (v := ?_) (some 34) rfl rfl (by kernel_rfl) (fun _ _ _ h => h) (Or.inl ⟨by rfl, ?_⟩) (by assumption) ?_
  rotate_left
  · (intro w hSw; go_simp; all_goals with_reducible rfl)
  try simp only [Act.put, List.setIfInBounds_toArray, List.set_cons_zero, List.set_cons_succ]
  refine anyH_take (i := 13) (v := ?_) (some 6) rfl rfl (by kernel_rfl) (fun _ _ _ h => h) (Or.inl ⟨by rfl, ?_⟩) (by assumption) ?_
  rotate_left
  · (intro w hSw; go_simp; all_goals with_reducible rfl)
  try simp only [Act.put, List.setIfInBounds_toArray, List.set_cons_zero, List.set_cons_succ]
  refine wpAnyH_done (by kernel_rfl) ?_ _
  go_wp2_with fail
  go_ret
  exact ⟨_, rfl, fun h => by subst h; simp, hs3, hq3, ((hbd.wide.trans (hb2.mono (by simp))).trans (hb3.mono (by simp)))⟩

set_option maxRecDepth 100000 in
set_option maxHeartbeats 4000000 in
theorem get2 (h : Gt w B lo M st st') (k l m c : Int) (n : Nat) (ha : AskOk k l m n c) :
    Calls Try.prog 22 #[.pointer (some ⟨B, 0, none⟩), .pointer (some ⟨M, 0, none⟩), .agg #[.int .i64 2, .int .i64 l, .int .i64 m, .int .u64 (n : Int), .int .i64 c]] w fun e w' => GetsT B lo M w st st' (nxt 2 l m n c st) (nxt 2 l m n c st') e w' := by
  obtain ⟨hs, hr, hBlo, hl1, hl2⟩ := h
  have hBw := hs.lt
  have hMw := hr.lt
  have hMlo := hr.1.base
  have hA := AskAt.new w 2 l m n c
  have hb0 : But [] w (w.alloc (.cells #[.int .i64 2, .int .i64 l, .int .i64 m, .int .u64 (n : Int), .int .i64 c] 40)) := (But.refl [] w).alloc _
  have hs1 := hs.keep hb0
  have hr1 := hr.keep hb0
  obtain ⟨c0, c1, c2, c3, c4⟩ := hA
  have HA := Hid.mk (AskAt.new w 2 l m n c)
  go_enter Try.func22, Try.ntmps22
  go_wp2_with fail
  have hA1 := HA.out.but (But.refl [] _).drew (by simp)
  have hsd := hs1.keep (But.refl [] _).drew
  have hrd := hr1.keep (But.refl [] _).drew
  have hbd := hb0.drew
  generalize hW : (w.alloc (.cells #[.int .i64 2, .int .i64 l, .int .i64 m, .int .u64 (n : Int), .int .i64 c] 40)) = W1 at *
  have hz1 : w.heap.size < W1.heap.size := World.block_lt_of_cell? _ _ c0
  clear hW hs1 hr1 c0 c1 c2 c3 c4 HA
  refine wp_region_held_drew (S := (fun w' => AskAt w' w.heap.size 2 l m n c)) (by kernel_rfl) hA1 (fun hHeld => ?_)
  refine anyH_take (i := 0) (v := ?_) (some 37) rfl rfl (by kernel_rfl) (fun _ _ _ h => h) (Or.inl ⟨by rfl, ?_⟩) (by assumption) ?_
  rotate_left
  · (intro w hSw; go_simp; all_goals with_reducible rfl)
  try simp only [Act.put, List.setIfInBounds_toArray, List.set_cons_zero, List.set_cons_succ]
  refine anyH_take (i := 1) (v := ?_) (some 38) rfl rfl (by kernel_rfl) (fun _ _ _ h => h) (Or.inl ⟨by rfl, ?_⟩) (by assumption) ?_
  rotate_left
  · (intro w hSw; go_simp; all_goals with_reducible rfl)
  try simp only [Act.put, List.setIfInBounds_toArray, List.set_cons_zero, List.set_cons_succ]
  refine anyH_take (i := 2) (v := ?_) (some 39) rfl rfl (by kernel_rfl) (fun _ _ _ h => h) (Or.inl ⟨by rfl, ?_⟩) (by assumption) ?_
  rotate_left
  · (intro w hSw; obtain ⟨d0, d1, d2, d3, d4⟩ := hSw; go_simp; all_goals with_reducible rfl)
  try simp only [Act.put, List.setIfInBounds_toArray, List.set_cons_zero, List.set_cons_succ]
  refine anyH_take (i := 4) (v := ?_) (some 41) rfl rfl (by kernel_rfl) (fun _ _ _ h => h) (Or.inl ⟨by rfl, ?_⟩) (by assumption) ?_
  rotate_left
  · (intro w hSw; go_simp; all_goals with_reducible rfl)
  try simp only [Act.put, List.setIfInBounds_toArray, List.set_cons_zero, List.set_cons_succ]
  refine anyH_take (i := 5) (v := ?_) (some 42) rfl rfl (by kernel_rfl) (fun _ _ _ h => h) (Or.inl ⟨by rfl, ?_⟩) (by assumption) ?_
  rotate_left
  · (intro w hSw; go_simp; all_goals with_reducible rfl)
  try simp only [Act.put, List.setIfInBounds_toArray, List.set_cons_zero, List.set_cons_succ]
  refine anyH_take (i := 6) (v := ?_) (some 43) rfl rfl (by kernel_rfl) (fun _ _ _ h => h) (Or.inl ⟨by rfl, ?_⟩) (by assumption) ?_
  rotate_left
  · (intro w hSw; obtain ⟨d0, d1, d2, d3, d4⟩ := hSw; go_simp; all_goals with_reducible rfl)
  try simp only [Act.put, List.setIfInBounds_toArray, List.set_cons_zero, List.set_cons_succ]
  refine anyH_one (i := 3) (by kernel_rfl) rfl (fun K hK => ?_)
  go_simp
  go_at_call 30
  refine (src30 st _ hsd m ha.m).mono ?_
  rintro e w2 ⟨hb2, hq2, v1, rfl, rfl⟩
  have hr2 := hrd.but hb2 (by simpa using hBlo)
  refine hK.out _ _ (hHeld.but hb2 (by simp; omega)) (fun hHeld => ?_)
  clear hK K
  try simp only [Act.put, List.setIfInBounds_toArray, List.set_cons_zero, List.set_cons_succ]
  refine anyH_one (i := 7) (by kernel_rfl) rfl (fun K hK => ?_)
  go_simp
  go_at_call 42
  refine (rs42 st' hr2 (by omega) m ha.m).mono ?_
  rintro e w3 ⟨hb3, hq3, v2, rfl, rfl⟩
  have hs3 := hq2.but hb3 (by simp; omega)
  refine hK.out _ _ (hHeld.but hb3 (by simp; omega)) (fun hHeld => ?_)
  clear hK K
  try simp only [Act.put, List.setIfInBounds_toArray, List.set_cons_zero, List.set_cons_succ]
  refine anyH_take (i := 8) (v := ?_) (some 45) rfl rfl (by kernel_rfl) (fun _ _ _ h => h) (Or.inl ⟨by rfl, ?_⟩) (by assumption) ?_
  rotate_left
  · (intro w hSw; simp only [strV]; go_simp; all_goals with_reducible rfl)
  try simp only [Act.put, List.setIfInBounds_toArray, List.set_cons_zero, List.set_cons_succ]
  refine anyH_take (i := 9) (v := ?_) (some 6) rfl rfl (by kernel_rfl) (fun _ _ _ h => h) (Or.inl ⟨by rfl, ?_⟩) (by assumption) ?_
  rotate_left
  · (intro w hSw; go_simp; all_goals with_reducible rfl)
  try simp only [Act.put, List.setIfInBounds_toArray, List.set_cons_zero, List.set_cons_succ]
  refine wpAnyH_done (by kernel_rfl) ?_ _
  go_wp2_with fail
  go_ret
  exact ⟨_, rfl, fun h => by subst h; simp, hs3, hq3, ((hbd.wide.trans (hb2.mono (by simp))).trans (hb3.mono (by simp)))⟩

set_option maxRecDepth 100000 in
set_option maxHeartbeats 4000000 in
theorem get3 (h : Gt w B lo M st st') (k l m c : Int) (n : Nat) (ha : AskOk k l m n c) :
    Calls Try.prog 22 #[.pointer (some ⟨B, 0, none⟩), .pointer (some ⟨M, 0, none⟩), .agg #[.int .i64 3, .int .i64 l, .int .i64 m, .int .u64 (n : Int), .int .i64 c]] w fun e w' => GetsT B lo M w st st' (nxt 3 l m n c st) (nxt 3 l m n c st') e w' := by
  obtain ⟨hs, hr, hBlo, hl1, hl2⟩ := h
  have hBw := hs.lt
  have hMw := hr.lt
  have hMlo := hr.1.base
  have hA := AskAt.new w 3 l m n c
  have hb0 : But [] w (w.alloc (.cells #[.int .i64 3, .int .i64 l, .int .i64 m, .int .u64 (n : Int), .int .i64 c] 40)) := (But.refl [] w).alloc _
  have hs1 := hs.keep hb0
  have hr1 := hr.keep hb0
  obtain ⟨c0, c1, c2, c3, c4⟩ := hA
  have HA := Hid.mk (AskAt.new w 3 l m n c)
  go_enter Try.func22, Try.ntmps22
  go_wp2_with (first
    | (go_at_call 31; refine (src31 st _ hs1).mono ?_; rintro e w2 ⟨hb2, hq2, v1, rfl, rfl⟩; have hr2 := hr1.but hb2 (by simpa using hBlo))
    | (go_at_call 43; refine (rs43 st' hr2).mono ?_; rintro e w3 ⟨hb3, hq3, v2, rfl, rfl⟩; have hs3 := hq2.but hb3 (by simp; omega)))
  go_ret
  exact ⟨_, rfl, fun h => by subst h; simp, hs3, hq3, ((hb0.wide.trans (hb2.mono (by simp))).trans (hb3.mono (by simp)))⟩

set_option maxRecDepth 100000 in
set_option maxHeartbeats 4000000 in
theorem get5 (h : Gt w B lo M st st') (k l m c : Int) (n : Nat) (ha : AskOk k l m n c) (q0 : ¬ k = 0) (q1 : ¬ k = 1) (q2 : ¬ k = 2) (q3 : ¬ k = 3) (q4 : ¬ k = 4) :
    Calls Try.prog 22 #[.pointer (some ⟨B, 0, none⟩), .pointer (some ⟨M, 0, none⟩), .agg #[.int .i64 k, .int .i64 l, .int .i64 m, .int .u64 (n : Int), .int .i64 c]] w fun e w' => GetsT B lo M w st st' (nxt k l m n c st) (nxt k l m n c st') e w' := by
  obtain ⟨hs, hr, hBlo, hl1, hl2⟩ := h
  have hBw := hs.lt
  have hMw := hr.lt
  have hMlo := hr.1.base
  have hA := AskAt.new w k l m n c
  have hb0 : But [] w (w.alloc (.cells #[.int .i64 k, .int .i64 l, .int .i64 m, .int .u64 (n : Int), .int .i64 c] 40)) := (But.refl [] w).alloc _
  have hs1 := hs.keep hb0
  have hr1 := hr.keep hb0
  obtain ⟨c0, c1, c2, c3, c4⟩ := hA
  have HA := Hid.mk (AskAt.new w k l m n c)
  have e1 : nxt k l m n c st = (getS byteT 0 st).2 := by simp [nxt, q0, q1, q2, q3, q4]
  have e2 : nxt k l m n c st' = (getS byteT 0 st').2 := by simp [nxt, q0, q1, q2, q3, q4]
  rw [e1, e2]
  clear e1 e2
  go_enter Try.func22, Try.ntmps22
  go_wp2_with (first
    | (go_at_call 34; refine (src34 st _ hs1).mono ?_; rintro e w2 ⟨hb2, hq2, v1, rfl, rfl⟩; have hr2 := hr1.but hb2 (by simpa using hBlo))
    | (go_at_call 45; refine (rs45 st' hr2).mono ?_; rintro e w3 ⟨hb3, hq3, v2, rfl, rfl⟩; have hs3 := hq2.but hb3 (by simp; omega)))
  go_ret
  exact ⟨_, rfl, fun h => by subst h; simp, hs3, hq3, ((hb0.wide.trans (hb2.mono (by simp))).trans (hb3.mono (by simp)))⟩

set_option maxRecDepth 100000 in
set_option maxHeartbeats 4000000 in
theorem get4a (h : Gt w B lo M st st') (k l m c : Int) (n : Nat) (ha : AskOk k l m n c) (hst : st = st') :
    Calls Try.prog 22 #[.pointer (some ⟨B, 0, none⟩), .pointer (some ⟨M, 0, none⟩), .agg #[.int .i64 4, .int .i64 l, .int .i64 m, .int .u64 (n : Int), .int .i64 c]] w fun e w' => GetsT B lo M w st st' (nxt 4 l m n c st) (nxt 4 l m n c st') e w' := by
  obtain ⟨hs, hr, hBlo, hl1, hl2⟩ := h
  have hBw := hs.lt
  have hMw := hr.lt
  have hMlo := hr.1.base
  have hA := AskAt.new w 4 l m n c
  have hb0 : But [] w (w.alloc (.cells #[.int .i64 4, .int .i64 l, .int .i64 m, .int .u64 (n : Int), .int .i64 c] 40)) := (But.refl [] w).alloc _
  have hs1 := hs.keep hb0
  have hr1 := hr.keep hb0
  obtain ⟨c0, c1, c2, c3, c4⟩ := hA
  have HA := Hid.mk (AskAt.new w 4 l m n c)
  go_enter Try.func22, Try.ntmps22
  go_wp2_with fail
  have hA1 := HA.out.but (But.refl [] _).drew (by simp)
  have hsd := hs1.keep (But.refl [] _).drew
  have hrd := hr1.keep (But.refl [] _).drew
  have hbd := hb0.drew
  generalize hW : (w.alloc (.cells #[.int .i64 4, .int .i64 l, .int .i64 m, .int .u64 (n : Int), .int .i64 c] 40)) = W1 at *
  have hz1 : w.heap.size < W1.heap.size := World.block_lt_of_cell? _ _ c0
  clear hW hs1 hr1 c0 c1 c2 c3 c4 HA
  refine wp_region_held_drew (S := (fun w' => AskAt w' w.heap.size 4 l m n c)) (by kernel_rfl) hA1 (fun hHeld => ?_)
  refine anyH_take (i := 0) (v := ?_) (some 55) rfl rfl (by kernel_rfl) (fun _ _ _ h => h) (Or.inl ⟨by rfl, ?_⟩) (by assumption) ?_
  rotate_left
  · (intro w hSw; go_simp; all_goals with_reducible rfl)
  try simp only [Act.put, List.setIfInBounds_toArray, List.set_cons_zero, List.set_cons_succ]
  refine anyH_take (i := 1) (v := ?_) (some 56) rfl rfl (by kernel_rfl) (fun _ _ _ h => h) (Or.inl ⟨by rfl, ?_⟩) (by assumption) ?_
  rotate_left
  · (intro w hSw; go_simp; all_goals with_reducible rfl)
  try simp only [Act.put, List.setIfInBounds_toArray, List.set_cons_zero, List.set_cons_succ]
  refine anyH_take (i := 2) (v := ?_) (some 57) rfl rfl (by kernel_rfl) (fun _ _ _ h => h) (Or.inl ⟨by rfl, ?_⟩) (by assumption) ?_
  rotate_left
  · (intro w hSw; obtain ⟨d0, d1, d2, d3, d4⟩ := hSw; go_simp; all_goals with_reducible rfl)
  try simp only [Act.put, List.setIfInBounds_toArray, List.set_cons_zero, List.set_cons_succ]
  refine anyH_take (i := 3) (v := ?_) (some 58) rfl rfl (by kernel_rfl) (fun _ _ _ h => h) (Or.inl ⟨by rfl, ?_⟩) (by assumption) ?_
  rotate_left
  · (intro w hSw; go_simp; all_goals with_reducible rfl)
  try simp only [Act.put, List.setIfInBounds_toArray, List.set_cons_zero, List.set_cons_succ]
  refine anyH_take (i := 4) (v := ?_) (some 59) rfl rfl (by kernel_rfl) (fun _ _ _ h => h) (Or.inl ⟨by rfl, ?_⟩) (by assumption) ?_
  rotate_left
  · (intro w hSw; obtain ⟨d0, d1, d2, d3, d4⟩ := hSw; go_simp; all_goals with_reducible rfl)
  try simp only [Act.put, List.setIfInBounds_toArray, List.set_cons_zero, List.set_cons_succ]
  refine anyH_take (i := 5) (v := ?_) (some 60) rfl rfl (by kernel_rfl) (fun _ _ _ h => h) (Or.inl ⟨by rfl, ?_⟩) (by assumption) ?_
  rotate_left
  · (intro w hSw; go_simp; all_goals with_reducible rfl)
  try simp only [Act.put, List.setIfInBounds_toArray, List.set_cons_zero, List.set_cons_succ]
  refine anyH_take (i := 6) (v := ?_) (some 61) rfl rfl (by kernel_rfl) (fun _ _ _ h => h) (Or.inl ⟨by rfl, ?_⟩) (by assumption) ?_
  rotate_left
  · (intro w hSw; obtain ⟨d0, d1, d2, d3, d4⟩ := hSw; go_simp; all_goals with_reducible rfl)
  try simp only [Act.put, List.setIfInBounds_toArray, List.set_cons_zero, List.set_cons_succ]
  refine anyH_take (i := 8) (v := ?_) (some 63) rfl rfl (by kernel_rfl) (fun _ _ _ h => h) (Or.inl ⟨by rfl, ?_⟩) (by assumption) ?_
  rotate_left
  · (intro w hSw; go_simp; all_goals with_reducible rfl)
  try simp only [Act.put, List.setIfInBounds_toArray, List.set_cons_zero, List.set_cons_succ]
  refine anyH_take (i := 9) (v := ?_) (some 64) rfl rfl (by kernel_rfl) (fun _ _ _ h => h) (Or.inl ⟨by rfl, ?_⟩) (by assumption) ?_
  rotate_left
  · (intro w hSw; go_simp; all_goals with_reducible rfl)
  try simp only [Act.put, List.setIfInBounds_toArray, List.set_cons_zero, List.set_cons_succ]
  refine anyH_take (i := 10) (v := ?_) (some 65) rfl rfl (by kernel_rfl) (fun _ _ _ h => h) (Or.inl ⟨by rfl, ?_⟩) (by assumption) ?_
  rotate_left
  · (intro w hSw; obtain ⟨d0, d1, d2, d3, d4⟩ := hSw; go_simp; all_goals with_reducible rfl)
  try simp only [Act.put, List.setIfInBounds_toArray, List.set_cons_zero, List.set_cons_succ]
  refine anyH_take (i := 11) (v := ?_) (some 66) rfl rfl (by kernel_rfl) (fun _ _ _ h => h) (Or.inl ⟨by rfl, ?_⟩) (by assumption) ?_
  rotate_left
  · (intro w hSw; go_simp; all_goals with_reducible rfl)
  try simp only [Act.put, List.setIfInBounds_toArray, List.set_cons_zero, List.set_cons_succ]
  refine anyH_take (i := 12) (v := ?_) (some 67) rfl rfl (by kernel_rfl) (fun _ _ _ h => h) (Or.inl ⟨by rfl, ?_⟩) (by assumption) ?_
  rotate_left
  · (intro w hSw; obtain ⟨d0, d1, d2, d3, d4⟩ := hSw; go_simp; all_goals with_reducible rfl)
  try simp only [Act.put, List.setIfInBounds_toArray, List.set_cons_zero, List.set_cons_succ]
  refine anyH_take (i := 13) (v := ?_) (some 68) rfl rfl (by kernel_rfl) (fun _ _ _ h => h) (Or.inl ⟨by rfl, ?_⟩) (by assumption) ?_
  rotate_left
  · (intro w hSw; go_simp; all_goals with_reducible rfl)
  try simp only [Act.put, List.setIfInBounds_toArray, List.set_cons_zero, List.set_cons_succ]
  refine anyH_take (i := 14) (v := ?_) (some 69) rfl rfl (by kernel_rfl) (fun _ _ _ h => h) (Or.inl ⟨by rfl, ?_⟩) (by assumption) ?_
  rotate_left
  · (intro w hSw; obtain ⟨d0, d1, d2, d3, d4⟩ := hSw; go_simp; all_goals with_reducible rfl)
  try simp only [Act.put, List.setIfInBounds_toArray, List.set_cons_zero, List.set_cons_succ]
  refine anyH_one (i := 7) (by kernel_rfl) rfl (fun K hK => ?_)
  go_simp
  go_at_call 33
  refine (src33 st _ hsd c l m (by omega) ha.c).mono ?_
  rintro e w2 ⟨hb2, hq2, v1, rfl, hv1⟩
  have hr2 := hrd.but hb2 (by simpa using hBlo)
  refine hK.out _ _ (hHeld.but hb2 (by simp; omega)) (fun hHeld => ?_)
  clear hK K
  try simp only [Act.put, List.setIfInBounds_toArray, List.set_cons_zero, List.set_cons_succ]
  refine anyH_one (i := 15) (by kernel_rfl) rfl (fun K hK => ?_)
  go_simp
  go_at_call 44
  refine (rs44 st' hr2 (by omega) c l m ha.c).mono ?_
  rintro e w3 ⟨hb3, hq3, v2, rfl, hv2⟩
  have hs3 := hq2.but hb3 (by simp; omega)
  have hv3 := hv1.but hb3 (by simp; omega)
  obtain ⟨p1, pc1, rfl, hi1⟩ := hv3.at
  obtain ⟨p2, pc2, rfl, hi2⟩ := hv2.at
  refine hK.out _ _ (hHeld.but hb3 (by simp; omega)) (fun hHeld => ?_)
  clear hK K
  try simp only [Act.put, List.setIfInBounds_toArray, List.set_cons_zero, List.set_cons_succ]
  refine anyH_one (i := 16) (by kernel_rfl) rfl (fun K hK => ?_)
  go_simp
  go_at_call 32
  subst hst
  refine (ints_any p1 p2 pc1 pc2 _ w3 (intsS_len _ _ _ _ (by omega)) hi1 hi2).mono ?_
  rintro e w4 ⟨rfl, hb4⟩
  refine hK.out _ _ (hHeld.but hb4 (by simp)) (fun hHeld => ?_)
  clear hK K
  try simp only [Act.put, List.setIfInBounds_toArray, List.set_cons_zero, List.set_cons_succ]
  refine anyH_take (i := 17) (v := ?_) (some 6) rfl rfl (by kernel_rfl) (fun _ _ _ h => h) (Or.inl ⟨by rfl, ?_⟩) (by assumption) ?_
  rotate_left
  · (intro w hSw; go_simp; all_goals with_reducible rfl)
  try simp only [Act.put, List.setIfInBounds_toArray, List.set_cons_zero, List.set_cons_succ]
  refine wpAnyH_done (by kernel_rfl) ?_ _
  go_wp2_with fail
  go_ret
  exact ⟨_, rfl, fun _ => rfl, hs3.keep hb4, hq3.keep hb4, ((hbd.wide.trans (hb2.mono (by simp))).trans (hb3.mono (by simp))).trans hb4.wide⟩

set_option maxRecDepth 100000 in
set_option maxHeartbeats 4000000 in
theorem get4b (h : Gt w B lo M st st') (k l m c : Int) (n : Nat) (ha : AskOk k l m n c) (hst : ¬ st = st') :
    Calls Try.prog 22 #[.pointer (some ⟨B, 0, none⟩), .pointer (some ⟨M, 0, none⟩), .agg #[.int .i64 4, .int .i64 l, .int .i64 m, .int .u64 (n : Int), .int .i64 c]] w fun e w' => GetsT B lo M w st st' (nxt 4 l m n c st) (nxt 4 l m n c st') e w' := by
  obtain ⟨hs, hr, hBlo, hl1, hl2⟩ := h
  have hBw := hs.lt
  have hMw := hr.lt
  have hMlo := hr.1.base
  have hA := AskAt.new w 4 l m n c
  have hb0 : But [] w (w.alloc (.cells #[.int .i64 4, .int .i64 l, .int .i64 m, .int .u64 (n : Int), .int .i64 c] 40)) := (But.refl [] w).alloc _
  have hs1 := hs.keep hb0
  have hr1 := hr.keep hb0
  obtain ⟨c0, c1, c2, c3, c4⟩ := hA
  have HA := Hid.mk (AskAt.new w 4 l m n c)
  go_enter Try.func22, Try.ntmps22
  go_wp2_with fail
  have hA1 := HA.out.but (But.refl [] _).drew (by simp)
  have hsd := hs1.keep (But.refl [] _).drew
  have hrd := hr1.keep (But.refl [] _).drew
  have hbd := hb0.drew
  generalize hW : (w.alloc (.cells #[.int .i64 4, .int .i64 l, .int .i64 m, .int .u64 (n : Int), .int .i64 c] 40)) = W1 at *
  have hz1 : w.heap.size < W1.heap.size := World.block_lt_of_cell? _ _ c0
  clear hW hs1 hr1 c0 c1 c2 c3 c4 HA
  refine wp_region_held_drew (S := (fun w' => AskAt w' w.heap.size 4 l m n c)) (by kernel_rfl) hA1 (fun hHeld => ?_)
  refine anyH_take (i := 0) (v := ?_) (some 55) rfl rfl (by kernel_rfl) (fun _ _ _ h => h) (Or.inl ⟨by rfl, ?_⟩) (by assumption) ?_
  rotate_left
  · (intro w hSw; go_simp; all_goals with_reducible rfl)
  try simp only [Act.put, List.setIfInBounds_toArray, List.set_cons_zero, List.set_cons_succ]
  refine anyH_take (i := 1) (v := ?_) (some 56) rfl rfl (by kernel_rfl) (fun _ _ _ h => h) (Or.inl ⟨by rfl, ?_⟩) (by assumption) ?_
  rotate_left
  · (intro w hSw; go_simp; all_goals with_reducible rfl)
  try simp only [Act.put, List.setIfInBounds_toArray, List.set_cons_zero, List.set_cons_succ]
  refine anyH_take (i := 2) (v := ?_) (some 57) rfl rfl (by kernel_rfl) (fun _ _ _ h => h) (Or.inl ⟨by rfl, ?_⟩) (by assumption) ?_
  rotate_left
  · (intro w hSw; obtain ⟨d0, d1, d2, d3, d4⟩ := hSw; go_simp; all_goals with_reducible rfl)
  try simp only [Act.put, List.setIfInBounds_toArray, List.set_cons_zero, List.set_cons_succ]
  refine anyH_take (i := 3) (v := ?_) (some 58) rfl rfl (by kernel_rfl) (fun _ _ _ h => h) (Or.inl ⟨by rfl, ?_⟩) (by assumption) ?_
  rotate_left
  · (intro w hSw; go_simp; all_goals with_reducible rfl)
  try simp only [Act.put, List.setIfInBounds_toArray, List.set_cons_zero, List.set_cons_succ]
  refine anyH_take (i := 4) (v := ?_) (some 59) rfl rfl (by kernel_rfl) (fun _ _ _ h => h) (Or.inl ⟨by rfl, ?_⟩) (by assumption) ?_
  rotate_left
  · (intro w hSw; obtain ⟨d0, d1, d2, d3, d4⟩ := hSw; go_simp; all_goals with_reducible rfl)
  try simp only [Act.put, List.setIfInBounds_toArray, List.set_cons_zero, List.set_cons_succ]
  refine anyH_take (i := 5) (v := ?_) (some 60) rfl rfl (by kernel_rfl) (fun _ _ _ h => h) (Or.inl ⟨by rfl, ?_⟩) (by assumption) ?_
  rotate_left
  · (intro w hSw; go_simp; all_goals with_reducible rfl)
  try simp only [Act.put, List.setIfInBounds_toArray, List.set_cons_zero, List.set_cons_succ]
  refine anyH_take (i := 6) (v := ?_) (some 61) rfl rfl (by kernel_rfl) (fun _ _ _ h => h) (Or.inl ⟨by rfl, ?_⟩) (by assumption) ?_
  rotate_left
  · (intro w hSw; obtain ⟨d0, d1, d2, d3, d4⟩ := hSw; go_simp; all_goals with_reducible rfl)
  try simp only [Act.put, List.setIfInBounds_toArray, List.set_cons_zero, List.set_cons_succ]
  refine anyH_take (i := 8) (v := ?_) (some 63) rfl rfl (by kernel_rfl) (fun _ _ _ h => h) (Or.inl ⟨by rfl, ?_⟩) (by assumption) ?_
  rotate_left
  · (intro w hSw; go_simp; all_goals with_reducible rfl)
  try simp only [Act.put, List.setIfInBounds_toArray, List.set_cons_zero, List.set_cons_succ]
  refine anyH_take (i := 9) (v := ?_) (some 64) rfl rfl (by kernel_rfl) (fun _ _ _ h => h) (Or.inl ⟨by rfl, ?_⟩) (by assumption) ?_
  rotate_left
  · (intro w hSw; go_simp; all_goals with_reducible rfl)
  try simp only [Act.put, List.setIfInBounds_toArray, List.set_cons_zero, List.set_cons_succ]
  refine anyH_take (i := 10) (v := ?_) (some 65) rfl rfl (by kernel_rfl) (fun _ _ _ h => h) (Or.inl ⟨by rfl, ?_⟩) (by assumption) ?_
  rotate_left
  · (intro w hSw; obtain ⟨d0, d1, d2, d3, d4⟩ := hSw; go_simp; all_goals with_reducible rfl)
  try simp only [Act.put, List.setIfInBounds_toArray, List.set_cons_zero, List.set_cons_succ]
  refine anyH_take (i := 11) (v := ?_) (some 66) rfl rfl (by kernel_rfl) (fun _ _ _ h => h) (Or.inl ⟨by rfl, ?_⟩) (by assumption) ?_
  rotate_left
  · (intro w hSw; go_simp; all_goals with_reducible rfl)
  try simp only [Act.put, List.setIfInBounds_toArray, List.set_cons_zero, List.set_cons_succ]
  refine anyH_take (i := 12) (v := ?_) (some 67) rfl rfl (by kernel_rfl) (fun _ _ _ h => h) (Or.inl ⟨by rfl, ?_⟩) (by assumption) ?_
  rotate_left
  · (intro w hSw; obtain ⟨d0, d1, d2, d3, d4⟩ := hSw; go_simp; all_goals with_reducible rfl)
  try simp only [Act.put, List.setIfInBounds_toArray, List.set_cons_zero, List.set_cons_succ]
  refine anyH_take (i := 13) (v := ?_) (some 68) rfl rfl (by kernel_rfl) (fun _ _ _ h => h) (Or.inl ⟨by rfl, ?_⟩) (by assumption) ?_
  rotate_left
  · (intro w hSw; go_simp; all_goals with_reducible rfl)
  try simp only [Act.put, List.setIfInBounds_toArray, List.set_cons_zero, List.set_cons_succ]
  refine anyH_take (i := 14) (v := ?_) (some 69) rfl rfl (by kernel_rfl) (fun _ _ _ h => h) (Or.inl ⟨by rfl, ?_⟩) (by assumption) ?_
  rotate_left
  · (intro w hSw; obtain ⟨d0, d1, d2, d3, d4⟩ := hSw; go_simp; all_goals with_reducible rfl)
  try simp only [Act.put, List.setIfInBounds_toArray, List.set_cons_zero, List.set_cons_succ]
  refine anyH_one (i := 7) (by kernel_rfl) rfl (fun K hK => ?_)
  go_simp
  go_at_call 33
  refine (src33 st _ hsd c l m (by omega) ha.c).mono ?_
  rintro e w2 ⟨hb2, hq2, v1, rfl, hv1⟩
  have hr2 := hrd.but hb2 (by simpa using hBlo)
  refine hK.out _ _ (hHeld.but hb2 (by simp; omega)) (fun hHeld => ?_)
  clear hK K
  try simp only [Act.put, List.setIfInBounds_toArray, List.set_cons_zero, List.set_cons_succ]
  refine anyH_one (i := 15) (by kernel_rfl) rfl (fun K hK => ?_)
  go_simp
  go_at_call 44
  refine (rs44 st' hr2 (by omega) c l m ha.c).mono ?_
  rintro e w3 ⟨hb3, hq3, v2, rfl, hv2⟩
  have hs3 := hq2.but hb3 (by simp; omega)
  have hv3 := hv1.but hb3 (by simp; omega)
  obtain ⟨p1, pc1, rfl, hi1⟩ := hv3.at
  obtain ⟨p2, pc2, rfl, hi2⟩ := hv2.at
  refine hK.out _ _ (hHeld.but hb3 (by simp; omega)) (fun hHeld => ?_)
  clear hK K
  try simp only [Act.put, List.setIfInBounds_toArray, List.set_cons_zero, List.set_cons_succ]
  refine anyH_one (i := 16) (by kernel_rfl) rfl (fun K hK => ?_)
  go_simp
  go_at_call 32
  refine (ints_tot p1 p2 pc1 pc2 _ _ w3 (intsS_len _ _ _ _ (by omega)) hi1 hi2).mono ?_
  rintro e w4 ⟨r, rfl, hb4⟩
  refine hK.out _ _ (hHeld.but hb4 (by simp)) (fun hHeld => ?_)
  clear hK K
  try simp only [Act.put, List.setIfInBounds_toArray, List.set_cons_zero, List.set_cons_succ]
  refine anyH_take (i := 17) (v := ?_) (some 6) rfl rfl (by kernel_rfl) (fun _ _ _ h => h) (Or.inl ⟨by rfl, ?_⟩) (by assumption) ?_
  rotate_left
  · (intro w hSw; go_simp; all_goals with_reducible rfl)
  try simp only [Act.put, List.setIfInBounds_toArray, List.set_cons_zero, List.set_cons_succ]
  refine wpAnyH_done (by kernel_rfl) ?_ _
  go_wp2_with fail
  go_ret
  exact ⟨_, rfl, fun h => absurd h hst, hs3.keep hb4, hq3.keep hb4, ((hbd.wide.trans (hb2.mono (by simp))).trans (hb3.mono (by simp))).trans hb4.wide⟩

end
end Go.Proofs.Ytdndpncbagjidaa
