/- CodePuts' walk. -/
import Derived.Test.YtdndpncbagjidaaRPut
import Derived.Test.YtdndpncbagjidaaPutV
import Derived.Test.YtdndpncbagjidaaHoldT
import Derived.OwnWalk
namespace Go.Proofs.Ytdndpncbagjidaa
open Go.RowKit

/-- What lies in the room behind the bytes. -/
def spare : List UInt8 := [115, 112, 97, 114, 101, 32, 114, 111, 111, 109]

theorem own_head {w : World} {lo g cap : Nat} {bs : List UInt8} (h : Own w lo (.slice (some ⟨g, 0, none⟩) (bs.length + 10) cap) (bs ++ spare)) : Byts w w.heap.size (some ⟨g, 0, none⟩) cap bs := by
  obtain ⟨a, c, e, hy⟩ := h.byts
  simp only [Value.slice.injEq] at e
  obtain ⟨rfl, -, rfl⟩ := e
  rcases hy with ⟨_, e⟩ | ⟨G, o, e, hG, hl, hm, hc⟩
  · simp [spare] at e
  · cases e
    refine .inr ⟨g, 0, rfl, hG, by rw [List.length_append] at hl; omega, hm, fun j b hj => hc j b ?_⟩
    rw [List.getElem?_append_left (List.getElem?_eq_some_iff.1 hj).1]
    exact hj
theorem own_some {w : World} {lo : Nat} {v : Value} {bs : List UInt8} (h : Own w lo v (bs ++ spare)) : ∃ g cap, v = .slice (some ⟨g, 0, none⟩) (bs.length + 10) cap ∧ bs.length + 10 ≤ cap := by
  have hl : (bs ++ spare).length = bs.length + 10 := by simp [spare]
  rcases h.2 with ⟨_, h0⟩ | ⟨g, cap, cur, e, _, _, hc, _⟩
  · rw [hl] at h0
    omega
  · rw [hl] at e hc
    exact ⟨g, cap, e, hc⟩

set_option maxRecDepth 100000 in
set_option maxHeartbeats 8000000 in
theorem puts_any (a : Option Addr) (c : Nat) (bs : List UInt8) (w : World) (hy : Byts w w.heap.size a c bs) (k : Int) (n : Nat) (i : Int) (s : ByteArray) (p : Option Addr) (pc : Nat) (l : List Int) (hN2 : n < 2 ^ 64) (hii : I64 i) (hl : ∀ y ∈ l, I64 y) (hi : IntsAt w p l)
    (hb3 : bs.length ≤ 300) (hs3 : s.size ≤ 300) (hl3 : l.length ≤ 100) :
    Calls Try.prog 3 #[.slice a bs.length c, .agg #[.int .i64 k, .int .u64 (n : Int), .int .i64 i, .string s, .slice p l.length pc]] w fun e w' => e = .returned (.bool true) ∧ Below w.heap.size w w' := by
  obtain ⟨i0, hi0, hz0, hz1, hz2⟩ := info_parts info5
  have hV0 := ValAt.new w ⟨k, n, i, s, p, pc, l⟩
  have hb0 : Below w.heap.size w (w.alloc (.cells #[.int .i64 k, .int .u64 (n : Int), .int .i64 i, .string s, .slice p l.length pc] 26)) := (Below.refl _ w).alloc (Nat.le_refl _) _
  have hy0 := hy.but (S := []) (.of_below hb0) (by simp)
  have g1 : ¬ (300 : Int) < bs.length := by omega
  have g2 : ¬ (300 : Int) < s.size := by omega
  have g3 : ¬ (100 : Int) < l.length := by omega
  have hmk : ∀ (W : World), i0.bytes * (bs.length + 50) ≤ 281474976710656 := fun _ => by rw [hz2]; omega
  have hml : bs.length + 50 ≤ maxLen := by unfold maxLen; omega
  obtain ⟨c0, c1, c2, c3, c4⟩ := hV0
  simp only at c0 c1 c2 c3 c4
  have hV0' := ValAt.new w ⟨k, n, i, s, p, pc, l⟩
  have HV := Hid.mk hV0'
  have HE : Hid (∀ o : Obj, (w.alloc o).heap.size = w.heap.size + 1) := Hid.mk (fun o => by simp)
  clear hV0'
  go_enter Try.func3, Try.ntmps3
  go_wp2_with (first
    | (at_make; refine wpList_make_own _ rfl _ _ 22 rfl (w.heap.size + 1) 5 i0 (.int .u8 0) 1 Try.underlying22 hi0 hz0 hz1 .i64 .i64 _ (bs.length + 50) rfl rfl (by simp) (hmk w) hml (by simp) ?_; intro w1 ho1 hg1; rw [HE.out] at ho1)
    | (at_builtin; refine wpList_bown rfl _ _ rfl (w.heap.size + 1) _ [] rfl ho1 _ _ _ _ bs rfl rfl (hy0.but (S := []) (But.grow hg1) (by simp)) (by simp; omega) (by have := hg1.size; simp at this; omega) ?_; intro v2 w2 ho2 hg2; rw [List.nil_append] at ho2)
    | (at_builtin; refine wpList_stext rfl _ _ rfl (w.heap.size + 1) _ bs rfl ho2 ⟨#[115, 112, 97, 114, 101, 32, 114, 111, 111, 109]⟩ rfl (by simp [ByteArray.size]; omega) (by have := hg1.size; have := hg2.size; simp at *; omega) ?_; intro v3 W3 ho3 hg3; obtain ⟨g, cap, rfl, hcap⟩ := own_some ho3))
  have hT : Below w.heap.size w W3.drew := (((hb0.trans (grown_below hg1 (by simp) (by simp))).trans (hg2.mono (by omega))).trans (hg3.mono (by omega))).drew
  have hT1 : Below (w.heap.size + 1) (w.alloc (.cells #[.int .i64 k, .int .u64 (n : Int), .int .i64 i, .string s, .slice p l.length pc] 26)) W3.drew := (((grown_below hg1 (by simp) (by simp)).trans hg2).trans hg3).drew
  have hT2 : But [] (w.alloc (.cells #[.int .i64 k, .int .u64 (n : Int), .int .i64 i, .string s, .slice p l.length pc] 26)) W3.drew := .of_below (hT1.mono (by simp))
  have hV := HV.out.but hT2 (by simp)
  have hY := hy0.but hT2 (by simp)
  have hI := hi.below hT
  have hO : Own W3.drew (w.heap.size + 1) (.slice (some ⟨g, 0, none⟩) (bs.length + 10) cap) (bs ++ spare) := ho3.but (S := []) (But.refl [] W3).drew (by simp)
  have hG : Byts W3.drew W3.drew.heap.size (some ⟨g, 0, none⟩) cap bs := own_head hO
  have hgc : (bs.length : Int) + 10 ≤ cap := by omega
  obtain ⟨fb, hfb⟩ : ∃ fb : UInt8, (if decide (k = 1) = true then (1 : UInt8) else 0) = fb := ⟨_, rfl⟩
  have hcf : ∀ {W : World} {B : Nat} {a : Option Addr} {c : Nat}, Byts W B a c bs → Calls Try.prog 16 #[.slice a bs.length c, .bool (decide (k = 1))] W fun e w' => ∃ v', e = .returned v' ∧ Own w' W.heap.size v' (bs ++ [fb]) ∧ Below W.heap.size W w' := fun h => by
    have := cflag h (decide (k = 1)) (by omega)
    rw [hfb] at this
    exact this
  have hrf : ∀ {W : World} {B : Nat} {a : Option Addr} {c : Nat}, Byts W B a c bs → Calls Try.prog 17 #[.slice a bs.length c, .bool (decide (k = 1))] W fun e w' => ∃ v', e = .returned v' ∧ Own w' W.heap.size v' (bs ++ [fb]) ∧ Below W.heap.size W w' := fun h => by
    have := rflag h (decide (k = 1)) (by omega)
    rw [hfb] at this
    exact this
  clear hfb
  clear hT1 hT2 hb0 hy0 hg1 hg2 hg3 ho1 ho2 ho3 HV c0 c1 c2 c3 c4 hi hy hmk hml HE
  refine wp_region_held_drew (S := (fun w' => Below W3.drew.heap.size W3.drew w')) (by kernel_rfl) (Below.refl _ _) (fun hHeld => ?_)
  refine anyH_take (i := 0) (v := ?_) (some 33) rfl rfl (by kernel_rfl) (fun _ _ _ h => h) (Or.inl ⟨by rfl, ?_⟩) (by assumption) ?_
  rotate_left
  · (intro w hSw; go_simp; all_goals with_reducible rfl)
  try simp only [Act.put, List.setIfInBounds_toArray, List.set_cons_zero, List.set_cons_succ]
  refine anyH_take (i := 1) (v := ?_) (some 34) rfl rfl (by kernel_rfl) (fun _ _ _ h => h) (Or.inl ⟨by rfl, ?_⟩) (by assumption) ?_
  rotate_left
  · (intro w hSw; go_simp; all_goals with_reducible rfl)
  try simp only [Act.put, List.setIfInBounds_toArray, List.set_cons_zero, List.set_cons_succ]
  refine anyH_take (i := 2) (v := ?_) (some 35) rfl rfl (by kernel_rfl) (fun _ _ _ h => h) (Or.inl ⟨by rfl, ?_⟩) (by assumption) ?_
  rotate_left
  · (intro w hSw; obtain ⟨d0, d1, d2, d3, d4⟩ := hV.but (S := []) (.of_below hSw) (by simp); go_simp; all_goals with_reducible rfl)
  try simp only [Act.put, List.setIfInBounds_toArray, List.set_cons_zero, List.set_cons_succ]
  refine anyH_take (i := 5) (v := ?_) (some 38) rfl rfl (by kernel_rfl) (fun _ _ _ h => h) (Or.inl ⟨by rfl, ?_⟩) (by assumption) ?_
  rotate_left
  · (intro w hSw; go_simp; all_goals with_reducible rfl)
  try simp only [Act.put, List.setIfInBounds_toArray, List.set_cons_zero, List.set_cons_succ]
  refine anyH_take (i := 6) (v := ?_) (some 39) rfl rfl (by kernel_rfl) (fun _ _ _ h => h) (Or.inl ⟨by rfl, ?_⟩) (by assumption) ?_
  rotate_left
  · (intro w hSw; go_simp; all_goals with_reducible rfl)
  try simp only [Act.put, List.setIfInBounds_toArray, List.set_cons_zero, List.set_cons_succ]
  refine anyH_take (i := 7) (v := ?_) (some 40) rfl rfl (by kernel_rfl) (fun _ _ _ h => h) (Or.inl ⟨by rfl, ?_⟩) (by assumption) ?_
  rotate_left
  · (intro w hSw; obtain ⟨d0, d1, d2, d3, d4⟩ := hV.but (S := []) (.of_below hSw) (by simp); go_simp; all_goals with_reducible rfl)
  try simp only [Act.put, List.setIfInBounds_toArray, List.set_cons_zero, List.set_cons_succ]
  refine anyH_one (i := 3) (by kernel_rfl) rfl (fun K hK => ?_)
  go_simp
  go_at_call 10
  refine (cnum hG n hN2 (by omega)).mono ?_
  rintro e w1' ⟨v1, rfl, ho1, hb1⟩
  refine hK.out _ _ hb1 (fun hHeld => ?_)
  clear hK K
  try simp only [Act.put, List.setIfInBounds_toArray, List.set_cons_zero, List.set_cons_succ]
  refine anyH_mono (S2 := (fun w' => Below w1'.heap.size w1' w')) (fun _ h => hb1.trans (h.mono hb1.size)) ?_
  replace hHeld : (fun w' => Below w1'.heap.size w1' w') w1' := Below.refl _ _
  replace hV := hV.but (S := []) (.of_below hb1) (by simp)
  replace hG := hG.but (S := []) (.of_below hb1) (by simp)
  replace hY := hY.but (S := []) (.of_below hb1) (by simp)
  replace hI := hI.below hb1
  replace hO := hO.below hb1
  replace hT := hT.trans (hb1.mono hT.size)
  refine anyH_take (i := 4) (v := ?_) (some 37) rfl rfl (by kernel_rfl) (fun _ _ _ h => h) (Or.inl ⟨by rfl, ?_⟩) (by assumption) ?_
  rotate_left
  · (intro w hSw; have q1 := conv_own (ho1.below hSw); go_simp; all_goals with_reducible rfl)
  try simp only [Act.put, List.setIfInBounds_toArray, List.set_cons_zero, List.set_cons_succ]
  refine anyH_one (i := 8) (by kernel_rfl) rfl (fun K hK => ?_)
  go_simp
  go_at_call 11
  refine (rnum hY n hN2 (by omega)).mono ?_
  rintro e w2' ⟨v2, rfl, ho2, hb2⟩
  refine hK.out _ _ hb2 (fun hHeld => ?_)
  clear hK K
  try simp only [Act.put, List.setIfInBounds_toArray, List.set_cons_zero, List.set_cons_succ]
  refine anyH_mono (S2 := (fun w' => Below w2'.heap.size w2' w')) (fun _ h => hb2.trans (h.mono hb2.size)) ?_
  replace hHeld : (fun w' => Below w2'.heap.size w2' w') w2' := Below.refl _ _
  replace hV := hV.but (S := []) (.of_below hb2) (by simp)
  replace hG := hG.but (S := []) (.of_below hb2) (by simp)
  replace hY := hY.but (S := []) (.of_below hb2) (by simp)
  replace hI := hI.below hb2
  replace hO := hO.below hb2
  replace hT := hT.trans (hb2.mono hT.size)
  refine anyH_take (i := 9) (v := ?_) (some 42) rfl rfl (by kernel_rfl) (fun _ _ _ h => h) (Or.inl ⟨by rfl, ?_⟩) (by assumption) ?_
  rotate_left
  · (intro w hSw; have q1 := conv_own (ho2.below hSw); go_simp; all_goals with_reducible rfl)
  try simp only [Act.put, List.setIfInBounds_toArray, List.set_cons_zero, List.set_cons_succ]
  refine anyH_take (i := 10) (v := ?_) (some 43) rfl rfl (by kernel_rfl) (fun _ _ _ h => h) (Or.inl ⟨by rfl, ?_⟩) (by assumption) ?_
  rotate_left
  · (intro w hSw; go_simp; all_goals with_reducible rfl)
  try simp only [Act.put, List.setIfInBounds_toArray, List.set_cons_zero, List.set_cons_succ]
  refine anyH_take (i := 11) (v := ?_) (some 44) rfl rfl (by kernel_rfl) (fun _ _ _ h => h) (Or.inl ⟨by rfl, ?_⟩) (by assumption) ?_
  rotate_left
  · (intro w hSw; go_simp; all_goals with_reducible rfl)
  try simp only [Act.put, List.setIfInBounds_toArray, List.set_cons_zero, List.set_cons_succ]
  refine anyH_take (i := 12) (v := ?_) (some 45) rfl rfl (by kernel_rfl) (fun _ _ _ h => h) (Or.inl ⟨by rfl, ?_⟩) (by assumption) ?_
  rotate_left
  · (intro w hSw; go_simp; all_goals with_reducible rfl)
  try simp only [Act.put, List.setIfInBounds_toArray, List.set_cons_zero, List.set_cons_succ]
  refine anyH_take (i := 13) (v := ?_) (some 46) rfl rfl (by kernel_rfl) (fun _ _ _ h => h) (Or.inl ⟨by rfl, ?_⟩) (by assumption) ?_
  rotate_left
  · (intro w hSw; go_simp; all_goals with_reducible rfl)
  try simp only [Act.put, List.setIfInBounds_toArray, List.set_cons_zero, List.set_cons_succ]
  refine anyH_take (i := 14) (v := ?_) (some 47) rfl rfl (by kernel_rfl) (fun _ _ _ h => h) (Or.inl ⟨by rfl, ?_⟩) (by assumption) ?_
  rotate_left
  · (intro w hSw; obtain ⟨d0, d1, d2, d3, d4⟩ := hV.but (S := []) (.of_below hSw) (by simp); go_simp; all_goals with_reducible rfl)
  try simp only [Act.put, List.setIfInBounds_toArray, List.set_cons_zero, List.set_cons_succ]
  refine anyH_take (i := 17) (v := ?_) (some 50) rfl rfl (by kernel_rfl) (fun _ _ _ h => h) (Or.inl ⟨by rfl, ?_⟩) (by assumption) ?_
  rotate_left
  · (intro w hSw; go_simp; all_goals with_reducible rfl)
  try simp only [Act.put, List.setIfInBounds_toArray, List.set_cons_zero, List.set_cons_succ]
  refine anyH_take (i := 18) (v := ?_) (some 51) rfl rfl (by kernel_rfl) (fun _ _ _ h => h) (Or.inl ⟨by rfl, ?_⟩) (by assumption) ?_
  rotate_left
  · (intro w hSw; go_simp; all_goals with_reducible rfl)
  try simp only [Act.put, List.setIfInBounds_toArray, List.set_cons_zero, List.set_cons_succ]
  refine anyH_take (i := 19) (v := ?_) (some 52) rfl rfl (by kernel_rfl) (fun _ _ _ h => h) (Or.inl ⟨by rfl, ?_⟩) (by assumption) ?_
  rotate_left
  · (intro w hSw; obtain ⟨d0, d1, d2, d3, d4⟩ := hV.but (S := []) (.of_below hSw) (by simp); go_simp; all_goals with_reducible rfl)
  try simp only [Act.put, List.setIfInBounds_toArray, List.set_cons_zero, List.set_cons_succ]
  refine anyH_one (i := 15) (by kernel_rfl) rfl (fun K hK => ?_)
  go_simp
  go_at_call 12
  refine (cint hG i hii (by omega)).mono ?_
  rintro e w3' ⟨v3, rfl, ho3, hb3⟩
  refine hK.out _ _ hb3 (fun hHeld => ?_)
  clear hK K
  try simp only [Act.put, List.setIfInBounds_toArray, List.set_cons_zero, List.set_cons_succ]
  refine anyH_mono (S2 := (fun w' => Below w3'.heap.size w3' w')) (fun _ h => hb3.trans (h.mono hb3.size)) ?_
  replace hHeld : (fun w' => Below w3'.heap.size w3' w') w3' := Below.refl _ _
  replace hV := hV.but (S := []) (.of_below hb3) (by simp)
  replace hG := hG.but (S := []) (.of_below hb3) (by simp)
  replace hY := hY.but (S := []) (.of_below hb3) (by simp)
  replace hI := hI.below hb3
  replace hO := hO.below hb3
  replace hT := hT.trans (hb3.mono hT.size)
  refine anyH_take (i := 16) (v := ?_) (some 49) rfl rfl (by kernel_rfl) (fun _ _ _ h => h) (Or.inl ⟨by rfl, ?_⟩) (by assumption) ?_
  rotate_left
  · (intro w hSw; have q1 := conv_own (ho3.below hSw); go_simp; all_goals with_reducible rfl)
  try simp only [Act.put, List.setIfInBounds_toArray, List.set_cons_zero, List.set_cons_succ]
  refine anyH_one (i := 20) (by kernel_rfl) rfl (fun K hK => ?_)
  go_simp
  go_at_call 13
  refine (rint hY i hii (by omega)).mono ?_
  rintro e w4' ⟨v4, rfl, ho4, hb4⟩
  refine hK.out _ _ hb4 (fun hHeld => ?_)
  clear hK K
  try simp only [Act.put, List.setIfInBounds_toArray, List.set_cons_zero, List.set_cons_succ]
  refine anyH_mono (S2 := (fun w' => Below w4'.heap.size w4' w')) (fun _ h => hb4.trans (h.mono hb4.size)) ?_
  replace hHeld : (fun w' => Below w4'.heap.size w4' w') w4' := Below.refl _ _
  replace hV := hV.but (S := []) (.of_below hb4) (by simp)
  replace hG := hG.but (S := []) (.of_below hb4) (by simp)
  replace hY := hY.but (S := []) (.of_below hb4) (by simp)
  replace hI := hI.below hb4
  replace hO := hO.below hb4
  replace hT := hT.trans (hb4.mono hT.size)
  refine anyH_take (i := 21) (v := ?_) (some 54) rfl rfl (by kernel_rfl) (fun _ _ _ h => h) (Or.inl ⟨by rfl, ?_⟩) (by assumption) ?_
  rotate_left
  · (intro w hSw; have q1 := conv_own (ho4.below hSw); go_simp; all_goals with_reducible rfl)
  try simp only [Act.put, List.setIfInBounds_toArray, List.set_cons_zero, List.set_cons_succ]
  refine anyH_take (i := 22) (v := ?_) (some 55) rfl rfl (by kernel_rfl) (fun _ _ _ h => h) (Or.inl ⟨by rfl, ?_⟩) (by assumption) ?_
  rotate_left
  · (intro w hSw; go_simp; all_goals with_reducible rfl)
  try simp only [Act.put, List.setIfInBounds_toArray, List.set_cons_zero, List.set_cons_succ]
  refine anyH_take (i := 23) (v := ?_) (some 56) rfl rfl (by kernel_rfl) (fun _ _ _ h => h) (Or.inl ⟨by rfl, ?_⟩) (by assumption) ?_
  rotate_left
  · (intro w hSw; go_simp; all_goals with_reducible rfl)
  try simp only [Act.put, List.setIfInBounds_toArray, List.set_cons_zero, List.set_cons_succ]
  refine anyH_take (i := 24) (v := ?_) (some 57) rfl rfl (by kernel_rfl) (fun _ _ _ h => h) (Or.inl ⟨by rfl, ?_⟩) (by assumption) ?_
  rotate_left
  · (intro w hSw; go_simp; all_goals with_reducible rfl)
  try simp only [Act.put, List.setIfInBounds_toArray, List.set_cons_zero, List.set_cons_succ]
  refine anyH_take (i := 25) (v := ?_) (some 58) rfl rfl (by kernel_rfl) (fun _ _ _ h => h) (Or.inl ⟨by rfl, ?_⟩) (by assumption) ?_
  rotate_left
  · (intro w hSw; go_simp; all_goals with_reducible rfl)
  try simp only [Act.put, List.setIfInBounds_toArray, List.set_cons_zero, List.set_cons_succ]
  refine anyH_take (i := 26) (v := ?_) (some 59) rfl rfl (by kernel_rfl) (fun _ _ _ h => h) (Or.inl ⟨by rfl, ?_⟩) (by assumption) ?_
  rotate_left
  · (intro w hSw; go_simp; all_goals with_reducible rfl)
  try simp only [Act.put, List.setIfInBounds_toArray, List.set_cons_zero, List.set_cons_succ]
  refine anyH_take (i := 27) (v := ?_) (some 60) rfl rfl (by kernel_rfl) (fun _ _ _ h => h) (Or.inl ⟨by rfl, ?_⟩) (by assumption) ?_
  rotate_left
  · (intro w hSw; obtain ⟨d0, d1, d2, d3, d4⟩ := hV.but (S := []) (.of_below hSw) (by simp); go_simp; all_goals with_reducible rfl)
  try simp only [Act.put, List.setIfInBounds_toArray, List.set_cons_zero, List.set_cons_succ]
  refine anyH_take (i := 30) (v := ?_) (some 63) rfl rfl (by kernel_rfl) (fun _ _ _ h => h) (Or.inl ⟨by rfl, ?_⟩) (by assumption) ?_
  rotate_left
  · (intro w hSw; go_simp; all_goals with_reducible rfl)
  try simp only [Act.put, List.setIfInBounds_toArray, List.set_cons_zero, List.set_cons_succ]
  refine anyH_take (i := 31) (v := ?_) (some 64) rfl rfl (by kernel_rfl) (fun _ _ _ h => h) (Or.inl ⟨by rfl, ?_⟩) (by assumption) ?_
  rotate_left
  · (intro w hSw; go_simp; all_goals with_reducible rfl)
  try simp only [Act.put, List.setIfInBounds_toArray, List.set_cons_zero, List.set_cons_succ]
  refine anyH_take (i := 32) (v := ?_) (some 65) rfl rfl (by kernel_rfl) (fun _ _ _ h => h) (Or.inl ⟨by rfl, ?_⟩) (by assumption) ?_
  rotate_left
  · (intro w hSw; obtain ⟨d0, d1, d2, d3, d4⟩ := hV.but (S := []) (.of_below hSw) (by simp); go_simp; all_goals with_reducible rfl)
  try simp only [Act.put, List.setIfInBounds_toArray, List.set_cons_zero, List.set_cons_succ]
  refine anyH_one (i := 28) (by kernel_rfl) rfl (fun K hK => ?_)
  go_simp
  go_at_call 14
  refine (ctext hG s (by omega) (by omega)).mono ?_
  rintro e w5' ⟨v5, rfl, ho5, hb5⟩
  refine hK.out _ _ hb5 (fun hHeld => ?_)
  clear hK K
  try simp only [Act.put, List.setIfInBounds_toArray, List.set_cons_zero, List.set_cons_succ]
  refine anyH_mono (S2 := (fun w' => Below w5'.heap.size w5' w')) (fun _ h => hb5.trans (h.mono hb5.size)) ?_
  replace hHeld : (fun w' => Below w5'.heap.size w5' w') w5' := Below.refl _ _
  replace hV := hV.but (S := []) (.of_below hb5) (by simp)
  replace hG := hG.but (S := []) (.of_below hb5) (by simp)
  replace hY := hY.but (S := []) (.of_below hb5) (by simp)
  replace hI := hI.below hb5
  replace hO := hO.below hb5
  replace hT := hT.trans (hb5.mono hT.size)
  refine anyH_take (i := 29) (v := ?_) (some 62) rfl rfl (by kernel_rfl) (fun _ _ _ h => h) (Or.inl ⟨by rfl, ?_⟩) (by assumption) ?_
  rotate_left
  · (intro w hSw; have q1 := conv_own (ho5.below hSw); go_simp; all_goals with_reducible rfl)
  try simp only [Act.put, List.setIfInBounds_toArray, List.set_cons_zero, List.set_cons_succ]
  refine anyH_one (i := 33) (by kernel_rfl) rfl (fun K hK => ?_)
  go_simp
  go_at_call 15
  refine (rtext hY s (by omega) (by omega)).mono ?_
  rintro e w6' ⟨v6, rfl, ho6, hb6⟩
  refine hK.out _ _ hb6 (fun hHeld => ?_)
  clear hK K
  try simp only [Act.put, List.setIfInBounds_toArray, List.set_cons_zero, List.set_cons_succ]
  refine anyH_mono (S2 := (fun w' => Below w6'.heap.size w6' w')) (fun _ h => hb6.trans (h.mono hb6.size)) ?_
  replace hHeld : (fun w' => Below w6'.heap.size w6' w') w6' := Below.refl _ _
  replace hV := hV.but (S := []) (.of_below hb6) (by simp)
  replace hG := hG.but (S := []) (.of_below hb6) (by simp)
  replace hY := hY.but (S := []) (.of_below hb6) (by simp)
  replace hI := hI.below hb6
  replace hO := hO.below hb6
  replace hT := hT.trans (hb6.mono hT.size)
  refine anyH_take (i := 34) (v := ?_) (some 67) rfl rfl (by kernel_rfl) (fun _ _ _ h => h) (Or.inl ⟨by rfl, ?_⟩) (by assumption) ?_
  rotate_left
  · (intro w hSw; have q1 := conv_own (ho6.below hSw); go_simp; all_goals with_reducible rfl)
  try simp only [Act.put, List.setIfInBounds_toArray, List.set_cons_zero, List.set_cons_succ]
  refine anyH_take (i := 35) (v := ?_) (some 68) rfl rfl (by kernel_rfl) (fun _ _ _ h => h) (Or.inl ⟨by rfl, ?_⟩) (by assumption) ?_
  rotate_left
  · (intro w hSw; go_simp; all_goals with_reducible rfl)
  try simp only [Act.put, List.setIfInBounds_toArray, List.set_cons_zero, List.set_cons_succ]
  refine anyH_take (i := 36) (v := ?_) (some 69) rfl rfl (by kernel_rfl) (fun _ _ _ h => h) (Or.inl ⟨by rfl, ?_⟩) (by assumption) ?_
  rotate_left
  · (intro w hSw; go_simp; all_goals with_reducible rfl)
  try simp only [Act.put, List.setIfInBounds_toArray, List.set_cons_zero, List.set_cons_succ]
  refine anyH_take (i := 37) (v := ?_) (some 70) rfl rfl (by kernel_rfl) (fun _ _ _ h => h) (Or.inl ⟨by rfl, ?_⟩) (by assumption) ?_
  rotate_left
  · (intro w hSw; go_simp; all_goals with_reducible rfl)
  try simp only [Act.put, List.setIfInBounds_toArray, List.set_cons_zero, List.set_cons_succ]
  refine anyH_take (i := 38) (v := ?_) (some 71) rfl rfl (by kernel_rfl) (fun _ _ _ h => h) (Or.inl ⟨by rfl, ?_⟩) (by assumption) ?_
  rotate_left
  · (intro w hSw; go_simp; all_goals with_reducible rfl)
  try simp only [Act.put, List.setIfInBounds_toArray, List.set_cons_zero, List.set_cons_succ]
  refine anyH_take (i := 39) (v := ?_) (some 72) rfl rfl (by kernel_rfl) (fun _ _ _ h => h) (Or.inl ⟨by rfl, ?_⟩) (by assumption) ?_
  rotate_left
  · (intro w hSw; go_simp; all_goals with_reducible rfl)
  try simp only [Act.put, List.setIfInBounds_toArray, List.set_cons_zero, List.set_cons_succ]
  refine anyH_take (i := 40) (v := ?_) (some 73) rfl rfl (by kernel_rfl) (fun _ _ _ h => h) (Or.inl ⟨by rfl, ?_⟩) (by assumption) ?_
  rotate_left
  · (intro w hSw; obtain ⟨d0, d1, d2, d3, d4⟩ := hV.but (S := []) (.of_below hSw) (by simp); go_simp; all_goals with_reducible rfl)
  try simp only [Act.put, List.setIfInBounds_toArray, List.set_cons_zero, List.set_cons_succ]
  refine anyH_take (i := 41) (v := ?_) (some 74) rfl rfl (by kernel_rfl) (fun _ _ _ h => h) (Or.inl ⟨by rfl, ?_⟩) (by assumption) ?_
  rotate_left
  · (intro w hSw; go_simp; all_goals with_reducible rfl)
  try simp only [Act.put, List.setIfInBounds_toArray, List.set_cons_zero, List.set_cons_succ]
  refine anyH_take (i := 44) (v := ?_) (some 77) rfl rfl (by kernel_rfl) (fun _ _ _ h => h) (Or.inl ⟨by rfl, ?_⟩) (by assumption) ?_
  rotate_left
  · (intro w hSw; go_simp; all_goals with_reducible rfl)
  try simp only [Act.put, List.setIfInBounds_toArray, List.set_cons_zero, List.set_cons_succ]
  refine anyH_take (i := 45) (v := ?_) (some 78) rfl rfl (by kernel_rfl) (fun _ _ _ h => h) (Or.inl ⟨by rfl, ?_⟩) (by assumption) ?_
  rotate_left
  · (intro w hSw; go_simp; all_goals with_reducible rfl)
  try simp only [Act.put, List.setIfInBounds_toArray, List.set_cons_zero, List.set_cons_succ]
  refine anyH_take (i := 46) (v := ?_) (some 79) rfl rfl (by kernel_rfl) (fun _ _ _ h => h) (Or.inl ⟨by rfl, ?_⟩) (by assumption) ?_
  rotate_left
  · (intro w hSw; obtain ⟨d0, d1, d2, d3, d4⟩ := hV.but (S := []) (.of_below hSw) (by simp); go_simp; all_goals with_reducible rfl)
  try simp only [Act.put, List.setIfInBounds_toArray, List.set_cons_zero, List.set_cons_succ]
  refine anyH_take (i := 47) (v := ?_) (some 80) rfl rfl (by kernel_rfl) (fun _ _ _ h => h) (Or.inl ⟨by rfl, ?_⟩) (by assumption) ?_
  rotate_left
  · (intro w hSw; go_simp; all_goals with_reducible rfl)
  try simp only [Act.put, List.setIfInBounds_toArray, List.set_cons_zero, List.set_cons_succ]
  refine anyH_one (i := 42) (by kernel_rfl) rfl (fun K hK => ?_)
  go_simp
  go_at_call 16
  refine (hcf hG).mono ?_
  rintro e w7' ⟨v7, rfl, ho7, hb7⟩
  refine hK.out _ _ hb7 (fun hHeld => ?_)
  clear hK K
  try simp only [Act.put, List.setIfInBounds_toArray, List.set_cons_zero, List.set_cons_succ]
  refine anyH_mono (S2 := (fun w' => Below w7'.heap.size w7' w')) (fun _ h => hb7.trans (h.mono hb7.size)) ?_
  replace hHeld : (fun w' => Below w7'.heap.size w7' w') w7' := Below.refl _ _
  replace hV := hV.but (S := []) (.of_below hb7) (by simp)
  replace hG := hG.but (S := []) (.of_below hb7) (by simp)
  replace hY := hY.but (S := []) (.of_below hb7) (by simp)
  replace hI := hI.below hb7
  replace hO := hO.below hb7
  replace hT := hT.trans (hb7.mono hT.size)
  refine anyH_take (i := 43) (v := ?_) (some 76) rfl rfl (by kernel_rfl) (fun _ _ _ h => h) (Or.inl ⟨by rfl, ?_⟩) (by assumption) ?_
  rotate_left
  · (intro w hSw; have q1 := conv_own (ho7.below hSw); go_simp; all_goals with_reducible rfl)
  try simp only [Act.put, List.setIfInBounds_toArray, List.set_cons_zero, List.set_cons_succ]
  refine anyH_one (i := 48) (by kernel_rfl) rfl (fun K hK => ?_)
  go_simp
  go_at_call 17
  refine (hrf hY).mono ?_
  rintro e w8' ⟨v8, rfl, ho8, hb8⟩
  refine hK.out _ _ hb8 (fun hHeld => ?_)
  clear hK K
  try simp only [Act.put, List.setIfInBounds_toArray, List.set_cons_zero, List.set_cons_succ]
  refine anyH_mono (S2 := (fun w' => Below w8'.heap.size w8' w')) (fun _ h => hb8.trans (h.mono hb8.size)) ?_
  replace hHeld : (fun w' => Below w8'.heap.size w8' w') w8' := Below.refl _ _
  replace hV := hV.but (S := []) (.of_below hb8) (by simp)
  replace hG := hG.but (S := []) (.of_below hb8) (by simp)
  replace hY := hY.but (S := []) (.of_below hb8) (by simp)
  replace hI := hI.below hb8
  replace hO := hO.below hb8
  replace hT := hT.trans (hb8.mono hT.size)
  refine anyH_take (i := 49) (v := ?_) (some 82) rfl rfl (by kernel_rfl) (fun _ _ _ h => h) (Or.inl ⟨by rfl, ?_⟩) (by assumption) ?_
  rotate_left
  · (intro w hSw; have q1 := conv_own (ho8.below hSw); go_simp; all_goals with_reducible rfl)
  try simp only [Act.put, List.setIfInBounds_toArray, List.set_cons_zero, List.set_cons_succ]
  refine anyH_take (i := 50) (v := ?_) (some 83) rfl rfl (by kernel_rfl) (fun _ _ _ h => h) (Or.inl ⟨by rfl, ?_⟩) (by assumption) ?_
  rotate_left
  · (intro w hSw; go_simp; all_goals with_reducible rfl)
  try simp only [Act.put, List.setIfInBounds_toArray, List.set_cons_zero, List.set_cons_succ]
  refine anyH_take (i := 51) (v := ?_) (some 84) rfl rfl (by kernel_rfl) (fun _ _ _ h => h) (Or.inl ⟨by rfl, ?_⟩) (by assumption) ?_
  rotate_left
  · (intro w hSw; go_simp; all_goals with_reducible rfl)
  try simp only [Act.put, List.setIfInBounds_toArray, List.set_cons_zero, List.set_cons_succ]
  refine anyH_take (i := 52) (v := ?_) (some 85) rfl rfl (by kernel_rfl) (fun _ _ _ h => h) (Or.inl ⟨by rfl, ?_⟩) (by assumption) ?_
  rotate_left
  · (intro w hSw; go_simp; all_goals with_reducible rfl)
  try simp only [Act.put, List.setIfInBounds_toArray, List.set_cons_zero, List.set_cons_succ]
  refine anyH_take (i := 53) (v := ?_) (some 86) rfl rfl (by kernel_rfl) (fun _ _ _ h => h) (Or.inl ⟨by rfl, ?_⟩) (by assumption) ?_
  rotate_left
  · (intro w hSw; go_simp; all_goals with_reducible rfl)
  try simp only [Act.put, List.setIfInBounds_toArray, List.set_cons_zero, List.set_cons_succ]
  refine anyH_take (i := 54) (v := ?_) (some 87) rfl rfl (by kernel_rfl) (fun _ _ _ h => h) (Or.inl ⟨by rfl, ?_⟩) (by assumption) ?_
  rotate_left
  · (intro w hSw; go_simp; all_goals with_reducible rfl)
  try simp only [Act.put, List.setIfInBounds_toArray, List.set_cons_zero, List.set_cons_succ]
  refine anyH_take (i := 55) (v := ?_) (some 88) rfl rfl (by kernel_rfl) (fun _ _ _ h => h) (Or.inl ⟨by rfl, ?_⟩) (by assumption) ?_
  rotate_left
  · (intro w hSw; obtain ⟨d0, d1, d2, d3, d4⟩ := hV.but (S := []) (.of_below hSw) (by simp); go_simp; all_goals with_reducible rfl)
  try simp only [Act.put, List.setIfInBounds_toArray, List.set_cons_zero, List.set_cons_succ]
  refine anyH_take (i := 58) (v := ?_) (some 91) rfl rfl (by kernel_rfl) (fun _ _ _ h => h) (Or.inl ⟨by rfl, ?_⟩) (by assumption) ?_
  rotate_left
  · (intro w hSw; go_simp; all_goals with_reducible rfl)
  try simp only [Act.put, List.setIfInBounds_toArray, List.set_cons_zero, List.set_cons_succ]
  refine anyH_take (i := 59) (v := ?_) (some 92) rfl rfl (by kernel_rfl) (fun _ _ _ h => h) (Or.inl ⟨by rfl, ?_⟩) (by assumption) ?_
  rotate_left
  · (intro w hSw; go_simp; all_goals with_reducible rfl)
  try simp only [Act.put, List.setIfInBounds_toArray, List.set_cons_zero, List.set_cons_succ]
  refine anyH_take (i := 60) (v := ?_) (some 93) rfl rfl (by kernel_rfl) (fun _ _ _ h => h) (Or.inl ⟨by rfl, ?_⟩) (by assumption) ?_
  rotate_left
  · (intro w hSw; obtain ⟨d0, d1, d2, d3, d4⟩ := hV.but (S := []) (.of_below hSw) (by simp); go_simp; all_goals with_reducible rfl)
  try simp only [Act.put, List.setIfInBounds_toArray, List.set_cons_zero, List.set_cons_succ]
  refine anyH_one (i := 56) (by kernel_rfl) rfl (fun K hK => ?_)
  go_simp
  go_at_call 18
  refine (cints hG p pc l hI hl (by omega) (by omega)).mono ?_
  rintro e w9' ⟨v9, rfl, ho9, hb9⟩
  refine hK.out _ _ hb9 (fun hHeld => ?_)
  clear hK K
  try simp only [Act.put, List.setIfInBounds_toArray, List.set_cons_zero, List.set_cons_succ]
  refine anyH_mono (S2 := (fun w' => Below w9'.heap.size w9' w')) (fun _ h => hb9.trans (h.mono hb9.size)) ?_
  replace hHeld : (fun w' => Below w9'.heap.size w9' w') w9' := Below.refl _ _
  replace hV := hV.but (S := []) (.of_below hb9) (by simp)
  replace hG := hG.but (S := []) (.of_below hb9) (by simp)
  replace hY := hY.but (S := []) (.of_below hb9) (by simp)
  replace hI := hI.below hb9
  replace hO := hO.below hb9
  replace hT := hT.trans (hb9.mono hT.size)
  refine anyH_take (i := 57) (v := ?_) (some 90) rfl rfl (by kernel_rfl) (fun _ _ _ h => h) (Or.inl ⟨by rfl, ?_⟩) (by assumption) ?_
  rotate_left
  · (intro w hSw; have q1 := conv_own (ho9.below hSw); go_simp; all_goals with_reducible rfl)
  try simp only [Act.put, List.setIfInBounds_toArray, List.set_cons_zero, List.set_cons_succ]
  refine anyH_one (i := 61) (by kernel_rfl) rfl (fun K hK => ?_)
  go_simp
  go_at_call 19
  refine (rints hY p pc l hI hl (by omega) (by omega)).mono ?_
  rintro e w10' ⟨v10, rfl, ho10, hb10⟩
  refine hK.out _ _ hb10 (fun hHeld => ?_)
  clear hK K
  try simp only [Act.put, List.setIfInBounds_toArray, List.set_cons_zero, List.set_cons_succ]
  refine anyH_mono (S2 := (fun w' => Below w10'.heap.size w10' w')) (fun _ h => hb10.trans (h.mono hb10.size)) ?_
  replace hHeld : (fun w' => Below w10'.heap.size w10' w') w10' := Below.refl _ _
  replace hV := hV.but (S := []) (.of_below hb10) (by simp)
  replace hG := hG.but (S := []) (.of_below hb10) (by simp)
  replace hY := hY.but (S := []) (.of_below hb10) (by simp)
  replace hI := hI.below hb10
  replace hO := hO.below hb10
  replace hT := hT.trans (hb10.mono hT.size)
  refine anyH_take (i := 62) (v := ?_) (some 95) rfl rfl (by kernel_rfl) (fun _ _ _ h => h) (Or.inl ⟨by rfl, ?_⟩) (by assumption) ?_
  rotate_left
  · (intro w hSw; have q1 := conv_own (ho10.below hSw); go_simp; all_goals with_reducible rfl)
  try simp only [Act.put, List.setIfInBounds_toArray, List.set_cons_zero, List.set_cons_succ]
  refine anyH_take (i := 63) (v := ?_) (some 96) rfl rfl (by kernel_rfl) (fun _ _ _ h => h) (Or.inl ⟨by rfl, ?_⟩) (by assumption) ?_
  rotate_left
  · (intro w hSw; go_simp; all_goals with_reducible rfl)
  try simp only [Act.put, List.setIfInBounds_toArray, List.set_cons_zero, List.set_cons_succ]
  refine anyH_take (i := 64) (v := ?_) (some 97) rfl rfl (by kernel_rfl) (fun _ _ _ h => h) (Or.inl ⟨by rfl, ?_⟩) (by assumption) ?_
  rotate_left
  · (intro w hSw; go_simp; all_goals with_reducible rfl)
  try simp only [Act.put, List.setIfInBounds_toArray, List.set_cons_zero, List.set_cons_succ]
  refine anyH_take (i := 65) (v := ?_) (some 6) rfl rfl (by kernel_rfl) (fun _ _ _ h => h) (Or.inl ⟨by rfl, ?_⟩) (by assumption) ?_
  rotate_left
  · (intro w hSw; go_simp; all_goals with_reducible rfl)
  try simp only [Act.put, List.setIfInBounds_toArray, List.set_cons_zero, List.set_cons_succ]
  refine wpAnyH_done (by kernel_rfl) ?_ _
  go_wp2_with fail
  have hY5 := hY.but (S := []) (But.refl [] w10').drew (by simp)
  have hO5 : Own w10'.drew (w.heap.size + 1) (.slice (some ⟨g, 0, none⟩) (bs.length + 10) cap) (bs ++ spare) := hO.but (S := []) (But.refl [] w10').drew (by simp)
  have hT5 := hT.drew
  obtain ⟨X, hX⟩ : ∃ X : ByteArray, (⟨(bs ++ spare).toArray⟩ : ByteArray) = X := ⟨_, rfl⟩
  obtain ⟨M, hM⟩ : ∃ M : Nat, bs.length + 10 = M := ⟨_, rfl⟩
  rw [hM] at hO5
  have hcat : (⟨bs.toArray⟩ : ByteArray) ++ ⟨#[115, 112, 97, 114, 101, 32, 114, 111, 111, 109]⟩ = X := by
    rw [← hX]
    apply ByteArray.ext
    simp [spare]
  have hcc : ¬ 9223372036854775807 < bs.length + 10 := by omega
  have hwr : IntKind.i64.wrap ((bs.length : Int) + 10) = (M : Int) := by rw [IntKind.wrap_i64]; omega
  have hM1 : (M : Int) ≤ cap := by omega
  have hcv5 : ∀ W, Below w10'.drew.heap.size w10'.drew W → (convert 22 9 (.slice (some ⟨g, 0, none⟩) M cap)).run Try.prog W = .ok (.string X) W := fun W h => by
    have := conv_own (hO5.below h)
    rw [hX] at this
    exact this
  clear hX hM hgc
  clear hV hG hI hO hY hT
  refine wp_region_held_drew (S := (fun w' => Below w10'.drew.heap.size w10'.drew w')) (by kernel_rfl) (Below.refl _ _) (fun hHeld => ?_)
  refine anyH_take (i := 0) (v := ?_) (some 98) rfl rfl (by kernel_rfl) (fun _ _ _ h => h) (Or.inl ⟨by rfl, ?_⟩) (by assumption) ?_
  rotate_left
  · (intro w hSw; go_simp; all_goals with_reducible rfl)
  try simp only [Act.put, List.setIfInBounds_toArray, List.set_cons_zero, List.set_cons_succ]
  refine anyH_take (i := 1) (v := ?_) (some 99) rfl rfl (by kernel_rfl) (fun _ _ _ h => h) (Or.inl ⟨by rfl, ?_⟩) (by assumption) ?_
  rotate_left
  · (intro w hSw; go_simp; all_goals with_reducible rfl)
  try simp only [Act.put, List.setIfInBounds_toArray, List.set_cons_zero, List.set_cons_succ]
  refine anyH_take (i := 2) (v := ?_) (some 100) rfl rfl (by kernel_rfl) (fun _ _ _ h => h) (Or.inl ⟨by rfl, ?_⟩) (by assumption) ?_
  rotate_left
  · (intro w hSw; go_simp; all_goals with_reducible rfl)
  try simp only [Act.put, List.setIfInBounds_toArray, List.set_cons_zero, List.set_cons_succ]
  refine anyH_take (i := 3) (v := ?_) (some 101) rfl rfl (by kernel_rfl) (fun _ _ _ h => h) (Or.inl ⟨by rfl, ?_⟩) (by assumption) ?_
  rotate_left
  · (intro w hSw; go_simp; all_goals with_reducible rfl)
  try simp only [Act.put, List.setIfInBounds_toArray, List.set_cons_zero, List.set_cons_succ]
  refine anyH_take (i := 4) (v := ?_) (some 102) rfl rfl (by kernel_rfl) (fun _ _ _ h => h) (Or.inl ⟨by rfl, ?_⟩) (by assumption) ?_
  rotate_left
  · (intro w hSw; go_simp; all_goals with_reducible rfl)
  try simp only [Act.put, List.setIfInBounds_toArray, List.set_cons_zero, List.set_cons_succ]
  refine anyH_take (i := 5) (v := ?_) (some 103) rfl rfl (by kernel_rfl) (fun _ _ _ h => h) (Or.inl ⟨by rfl, ?_⟩) (by assumption) ?_
  rotate_left
  · (intro w hSw; go_simp; all_goals with_reducible rfl)
  try simp only [Act.put, List.setIfInBounds_toArray, List.set_cons_zero, List.set_cons_succ]
  refine anyH_take (i := 6) (v := ?_) (some 104) rfl rfl (by kernel_rfl) (fun _ _ _ h => h) (Or.inl ⟨by rfl, ?_⟩) (by assumption) ?_
  rotate_left
  · (intro w hSw; go_simp; all_goals with_reducible rfl)
  try simp only [Act.put, List.setIfInBounds_toArray, List.set_cons_zero, List.set_cons_succ]
  refine anyH_take (i := 7) (v := ?_) (some 105) rfl rfl (by kernel_rfl) (fun _ _ _ h => h) (Or.inl ⟨by rfl, ?_⟩) (by assumption) ?_
  rotate_left
  · (intro w hSw; have q1 := hcv5 _ hSw; go_simp; all_goals with_reducible rfl)
  try simp only [Act.put, List.setIfInBounds_toArray, List.set_cons_zero, List.set_cons_succ]
  refine anyH_take (i := 8) (v := ?_) (some 106) rfl rfl (by kernel_rfl) (fun _ _ _ h => h) (Or.inl ⟨by rfl, ?_⟩) (by assumption) ?_
  rotate_left
  · (intro w hSw; go_simp; all_goals with_reducible rfl)
  try simp only [Act.put, List.setIfInBounds_toArray, List.set_cons_zero, List.set_cons_succ]
  refine anyH_take (i := 9) (v := ?_) (some 107) rfl rfl (by kernel_rfl) (fun _ _ _ h => h) (Or.inl ⟨by rfl, ?_⟩) (by assumption) ?_
  rotate_left
  · (intro w hSw; have q1 := conv_byts (hY5.but (S := []) (.of_below hSw) (by simp)) rfl; go_simp; all_goals with_reducible rfl)
  try simp only [Act.put, List.setIfInBounds_toArray, List.set_cons_zero, List.set_cons_succ]
  refine anyH_take (i := 10) (v := ?_) (some 108) rfl rfl (by kernel_rfl) (fun _ _ _ h => h) (Or.inl ⟨by rfl, ?_⟩) (by assumption) ?_
  rotate_left
  · (intro w hSw; go_simp; all_goals with_reducible rfl)
  try simp only [Act.put, List.setIfInBounds_toArray, List.set_cons_zero, List.set_cons_succ]
  refine anyH_take (i := 11) (v := ?_) (some 109) rfl rfl (by kernel_rfl) (fun _ _ _ h => h) (Or.inl ⟨by rfl, ?_⟩) (by assumption) ?_
  rotate_left
  · (intro w hSw; go_simp; all_goals with_reducible rfl)
  try simp only [Act.put, List.setIfInBounds_toArray, List.set_cons_zero, List.set_cons_succ]
  refine anyH_take (i := 12) (v := ?_) (some 110) rfl rfl (by kernel_rfl) (fun _ _ _ h => h) (Or.inl ⟨by rfl, ?_⟩) (by assumption) ?_
  rotate_left
  · (intro w hSw; go_simp; all_goals with_reducible rfl)
  try simp only [Act.put, List.setIfInBounds_toArray, List.set_cons_zero, List.set_cons_succ]
  refine anyH_take (i := 13) (v := ?_) (some 111) rfl rfl (by kernel_rfl) (fun _ _ _ h => h) (Or.inl ⟨by rfl, ?_⟩) (by assumption) ?_
  rotate_left
  · (intro w hSw; go_simp; all_goals with_reducible rfl)
  try simp only [Act.put, List.setIfInBounds_toArray, List.set_cons_zero, List.set_cons_succ]
  refine anyH_one (i := 14) (by kernel_rfl) rfl (fun K hK => ?_)
  go_simp
  go_at_call 9
  refine (lives_any _).mono ?_
  rintro e w8 ⟨rfl, hb8⟩
  refine hK.out _ _ hb8 (fun hHeld => ?_)
  clear hK K
  try simp only [Act.put, List.setIfInBounds_toArray, List.set_cons_zero, List.set_cons_succ]
  refine anyH_take (i := 15) (v := ?_) (some 113) rfl rfl (by kernel_rfl) (fun _ _ _ h => h) (Or.inl ⟨by rfl, ?_⟩) (by assumption) ?_
  rotate_left
  · (intro w hSw; go_simp; all_goals with_reducible rfl)
  try simp only [Act.put, List.setIfInBounds_toArray, List.set_cons_zero, List.set_cons_succ]
  refine anyH_take (i := 16) (v := ?_) (some 4) rfl rfl (by kernel_rfl) (fun _ _ _ h => h) (Or.inl ⟨by rfl, ?_⟩) (by assumption) ?_
  rotate_left
  · (intro w hSw; go_simp; all_goals with_reducible rfl)
  try simp only [Act.put, List.setIfInBounds_toArray, List.set_cons_zero, List.set_cons_succ]
  refine wpAnyH_done (by kernel_rfl) ?_ _
  go_wp2_with fail
  go_ret
  exact ⟨rfl, hT5.trans (hb8.mono hT5.size)⟩

end Go.Proofs.Ytdndpncbagjidaa
