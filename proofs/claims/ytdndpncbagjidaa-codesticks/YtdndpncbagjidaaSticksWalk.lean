/- CodeSticks' walk. -/
import Derived.Test.YtdndpncbagjidaaGetsWalk
namespace Go.Proofs.Ytdndpncbagjidaa
open Go.RowKit
set_option linter.unusedVariables false

theorem GotS.zero {α : Type} {B : Nat} {w w' : World} {V : α → Value → World → Prop} {f : List UInt8 → Nat × α × List UInt8} {z : α} {st : Nat × List UInt8} {e : Ending} (h : GotS B w V f z st e w') (h0 : st.1 ≠ 0) : But [B] w w' ∧ SQ w' B st ∧ ∃ v, e = .returned v ∧ V z v w' := by
  obtain ⟨h1, h2, h3⟩ := h
  have e : getS f z st = (z, st) := by unfold getS; rw [if_neg h0]
  rw [e] at h2 h3
  exact ⟨h1, h2, h3⟩

section
variable {B : Nat} {st : Nat × List UInt8} {w : World}
theorem z28 (h : SQ w B st) (h0 : st.1 ≠ 0) (n : Nat) : Calls Try.prog 28 #[.pointer (some ⟨B, 0, none⟩), .int .u64 (n : Int)] w fun e w' => e = .returned (.int .u64 0) ∧ SQ w' B st ∧ But [B] w w' :=
  (src28 st w h n).mono (fun e w' hg => by obtain ⟨h1, h2, v, rfl, rfl⟩ := hg.zero h0; exact ⟨rfl, h2, h1⟩)
theorem z29 (h : SQ w B st) (h0 : st.1 ≠ 0) (l m : Int) : Calls Try.prog 29 #[.pointer (some ⟨B, 0, none⟩), .int .i64 l, .int .i64 m] w fun e w' => e = .returned (.int .i64 0) ∧ SQ w' B st ∧ But [B] w w' :=
  (src29 st w h l m).mono (fun e w' hg => by obtain ⟨h1, h2, v, rfl, rfl⟩ := hg.zero h0; exact ⟨rfl, h2, h1⟩)
theorem z30 (h : SQ w B st) (h0 : st.1 ≠ 0) (m : Int) (hm : -9223372036854775808 ≤ m ∧ m ≤ 9223372036854775807) : Calls Try.prog 30 #[.pointer (some ⟨B, 0, none⟩), .int .i64 m] w fun e w' => e = .returned (.string ⟨#[]⟩) ∧ SQ w' B st ∧ But [B] w w' :=
  (src30 st w h m hm).mono (fun e w' hg => by obtain ⟨h1, h2, v, rfl, rfl⟩ := hg.zero h0; exact ⟨rfl, h2, h1⟩)
theorem z31 (h : SQ w B st) (h0 : st.1 ≠ 0) : Calls Try.prog 31 #[.pointer (some ⟨B, 0, none⟩)] w fun e w' => e = .returned (.bool false) ∧ SQ w' B st ∧ But [B] w w' :=
  (src31 st w h).mono (fun e w' hg => by obtain ⟨h1, h2, v, rfl, rfl⟩ := hg.zero h0; exact ⟨rfl, h2, h1⟩)
theorem z33 (h : SQ w B st) (h0 : st.1 ≠ 0) (c l m : Int) (hc : -9223372036854775808 ≤ c ∧ c ≤ 9223372036854775807) : Calls Try.prog 33 #[.pointer (some ⟨B, 0, none⟩), .int .i64 c, .int .i64 l, .int .i64 m] w fun e w' => (∃ a k, e = .returned (.slice a 0 k)) ∧ SQ w' B st ∧ But [B] w w' :=
  (src33 st w h c l m (by obtain ⟨_, _, _, h3⟩ := h; rw [h3 h0]; simp) hc).mono (fun e w' hg => by
    obtain ⟨h1, h2, v, rfl, hv⟩ := hg.zero h0
    obtain ⟨a, k, rfl, _⟩ := RowI.at hv
    exact ⟨⟨a, k, rfl⟩, h2, h1⟩)
theorem z34 (h : SQ w B st) (h0 : st.1 ≠ 0) : Calls Try.prog 34 #[.pointer (some ⟨B, 0, none⟩)] w fun e w' => e = .returned (.int .u8 0) ∧ SQ w' B st ∧ But [B] w w' :=
  (src34 st w h).mono (fun e w' hg => by obtain ⟨h1, h2, v, rfl, rfl⟩ := hg.zero h0; exact ⟨rfl, h2, h1⟩)
end

set_option maxRecDepth 100000 in
set_option maxHeartbeats 8000000 in
theorem sticks_in (a : Option Addr) (c : Nat) (bs : List UInt8) (la : Option Addr) (lc : Nat) (xs : List Ak) (ma : Option Addr) (mc : Nat) (ys : List Ak) (w : World) (hy : Byts w w.heap.size a c bs) (hv : Asks w la xs) (hok : ∀ x ∈ xs, x.ok) (hv2 : Asks w ma ys) (hok2 : ∀ x ∈ ys, x.ok) (hl : bs.length ≤ 200) (hx : xs.length ≤ 40) (hy2 : ys.length ≤ 20) :
    Calls Try.prog 7 #[.slice a bs.length c, .slice la xs.length lc, .slice ma ys.length mc] w fun e w' => e = .returned (.bool true) ∧ Below w.heap.size w w' := by
  have g1 : ¬ (200 : Int) < bs.length := by omega
  have g2 : ¬ (40 : Int) < xs.length := by omega
  have g3 : ¬ (20 : Int) < ys.length := by omega
  have hR := read_any hy (by omega)
  go_enter Try.func7, Try.ntmps7
  go_wp2_with (first
    | (go_at_call 20; refine hR.mono ?_; rintro e w1 ⟨B, rfl, hBw, hs1, hb1⟩))
  clear hR
  go_loopw [31] (fun q wr => ∃ (j : Nat) (st : Nat × List UInt8), j ≤ xs.length ∧ q = .int .i64 (j : Int) ∧ SQ wr B st ∧ st.2.length ≤ 300 ∧ Below w.heap.size w wr) (fun q _ => 40 - (intOf q).toNat)
  case atStart => exact ⟨0, (0, bs), Nat.zero_le _, rfl, hs1, by simp only; omega, hb1⟩
  case round =>
    obtain ⟨j, st, hj, rfl, hs, hsl, hB⟩ := hrel
    clear hs1 hb1
    by_cases hlt : j < xs.length
    · obtain ⟨x, hx0⟩ : ∃ x, xs[j]? = some x := ⟨xs[j], by simp⟩
      obtain ⟨b, o, rfl, d0, d1, d2, d3, d4⟩ := (hv.below hB) j x hx0
      obtain ⟨o1, o2, o3, o4, o5⟩ := hok x (List.mem_of_getElem? hx0)
      obtain ⟨n, hn⟩ : ∃ n : Nat, x.n = (n : Int) := ⟨x.n.toNat, by have := o4.1; omega⟩
      have k1 : (j : Int) < xs.length := by omega
      have k2 : (0 : Int) ≤ j := by omega
      have hBr := hs.lt
      rw [hn] at d3
      have hb0 : But [] wr (wr.alloc (.cells #[.int .i64 x.k, .int .i64 x.l, .int .i64 x.m, .int .u64 (n : Int), .int .i64 x.c] 40)) := (But.refl [] wr).alloc _
      have hA1 := (AskAt.new wr x.k x.l x.m n x.c).but (But.refl [] _).drew (by simp)
      have hsd := hs.keep hb0.drew
      have hBd := (hB.alloc hB.size (.cells #[.int .i64 x.k, .int .i64 x.l, .int .i64 x.m, .int .u64 (n : Int), .int .i64 x.c] 40)).drew
      have hRR := rread ((hy.but (S := []) (.of_below hBd) (by simp)).up hBd.size) (by omega)
      have hao : AskOk x.k x.l x.m n x.c := ⟨o3, o5⟩
      have hnl := nxt_len x.k x.l x.m n x.c st
      have HN := Hid.mk hnl
      clear hx0 hn hnl o1 o2 o3 o4 o5
      go_wp2_with fail
      refine wp_region_held_drew (S := (fun w' => AskAt w' wr.heap.size x.k x.l x.m n x.c)) (by kernel_rfl) hA1 (fun hHeld => ?_)
      refine anyH_take (i := 0) (v := ?_) (some 35) rfl rfl (by kernel_rfl) (fun _ _ _ h => h) (Or.inl ⟨by rfl, ?_⟩) (by assumption) ?_
      rotate_left
      · (intro w hSw; go_simp; all_goals with_reducible rfl)
      try simp only [Act.put, List.setIfInBounds_toArray, List.set_cons_zero, List.set_cons_succ]
      refine anyH_take (i := 1) (v := ?_) (some 36) rfl rfl (by kernel_rfl) (fun _ _ _ h => h) (Or.inl ⟨by rfl, ?_⟩) (by assumption) ?_
      rotate_left
      · (intro w hSw; go_simp; all_goals with_reducible rfl)
      try simp only [Act.put, List.setIfInBounds_toArray, List.set_cons_zero, List.set_cons_succ]
      refine anyH_take (i := 3) (v := ?_) (some 38) rfl rfl (by kernel_rfl) (fun _ _ _ h => h) (Or.inl ⟨by rfl, ?_⟩) (by assumption) ?_
      rotate_left
      · (intro w hSw; obtain ⟨d0, d1, d2, d3, d4⟩ := hSw; go_simp; all_goals with_reducible rfl)
      try simp only [Act.put, List.setIfInBounds_toArray, List.set_cons_zero, List.set_cons_succ]
      refine anyH_one (i := 2) (by kernel_rfl) rfl (fun K hK => ?_)
      go_simp
      go_at_call 21
      refine hRR.mono ?_
      rintro e w2 ⟨M, rfl, hr2, hb2⟩
      have hG : Gt w2 B (wr.alloc (.cells #[.int .i64 x.k, .int .i64 x.l, .int .i64 x.m, .int .u64 (n : Int), .int .i64 x.c] 40)).drew.heap.size M st (0, bs) := ⟨hsd.keep (.of_below hb2), hr2, by simp; omega, by omega, by simp only; omega⟩
      have hMb := hr2.1.base
      have hget := get_all hG x.k x.l x.m x.c n hao
      refine hK.out _ _ (hHeld.but (S := []) (.of_below hb2) (by simp)) (fun hHeld => ?_)
      clear hK K
      try simp only [Act.put, List.setIfInBounds_toArray, List.set_cons_zero, List.set_cons_succ]
      refine anyH_one (i := 4) (by kernel_rfl) rfl (fun K hK => ?_)
      go_simp
      go_at_call 22
      refine hget.mono ?_
      rintro e w3 ⟨rr, rfl, -, hs3, hr3, hb3⟩
      refine hK.out _ _ (hHeld.but hb3 (by simp at hMb ⊢; omega)) (fun hHeld => ?_)
      clear hK K
      try simp only [Act.put, List.setIfInBounds_toArray, List.set_cons_zero, List.set_cons_succ]
      refine wpAnyH_done (by kernel_rfl) ?_ _
      go_wp2_with fail
      go_roundw
      case rel => exact ⟨j + 1, _, by omega, by simp, hs3, by have := HN.out; omega, (hBd.trans (hb2.mono hBd.size)).trans (hb3.below (by have := hBd.size; have := hb2.size; omega) (by have := hBd.size; simp at hMb ⊢; simp at this; omega))⟩
      case measure =>
        simp [intOf]
        omega
    · have k1 : ¬ (j : Int) < xs.length := by omega
      have hE := err_sq hs
      have hlv := lives_any wr
      by_cases h0 : st.1 = 0
      · rw [h0] at hE
        go_wp2_with (first
          | (go_at_call 23; refine hE.mono ?_; rintro e w3 ⟨rfl, rfl⟩)
          | (go_at_call 9; refine hlv.mono ?_; rintro e w3 ⟨rfl, hb3⟩))
        go_ret
        exact ⟨rfl, hB.trans (hb3.mono hB.size)⟩
      · have k3 : ((st.1 : Int) == 0) = false := by simp; omega
        have hz2 : st.2 = [] := by
          obtain ⟨_, _, _, h3⟩ := hs
          exact h3 h0
        go_wp2_with (first
          | (go_at_call 23; refine hE.mono ?_; rintro e w3 ⟨rfl, rfl⟩))
        clear hE hlv k3
        go_loopw [48] (fun q wr => ∃ (i : Nat), i ≤ ys.length ∧ q = .int .i64 (i : Int) ∧ SQ wr B st ∧ Below w.heap.size w wr) (fun q _ => 20 - (intOf q).toNat)
        case atStart => exact ⟨0, Nat.zero_le _, rfl, hs, hB⟩
        case round =>
          obtain ⟨i, hi, rfl, hs, hB⟩ := hrel
          by_cases hlt2 : i < ys.length
          · obtain ⟨x, hx0⟩ : ∃ x, ys[i]? = some x := ⟨ys[i], by simp⟩
            obtain ⟨b, o, rfl, d0, d1, d2, d3, d4⟩ := (hv2.below hB) i x hx0
            obtain ⟨o1, o2, o3, o4, o5⟩ := hok2 x (List.mem_of_getElem? hx0)
            obtain ⟨n, hn⟩ : ∃ n : Nat, x.n = (n : Int) := ⟨x.n.toNat, by have := o4.1; omega⟩
            have k1 : (i : Int) < ys.length := by omega
            have k2 : (0 : Int) ≤ i := by omega
            have hBr := hs.lt
            rw [hn] at d3
            have hb0 : But [] wr (wr.alloc (.cells #[.int .i64 x.k, .int .i64 x.l, .int .i64 x.m, .int .u64 (n : Int), .int .i64 x.c] 40)) := (But.refl [] wr).alloc _
            have hA := AskAt.new wr x.k x.l x.m n x.c
            replace hs := hs.keep hb0
            have hb : But [B] wr (wr.alloc (.cells #[.int .i64 x.k, .int .i64 x.l, .int .i64 x.m, .int .u64 (n : Int), .int .i64 x.c] 40)) := hb0.wide
            have hAB : wr.heap.size ∉ [B] := by simp; omega
            clear hx0 hn o1 o2 o4 hb0
            obtain ⟨a0, a1, a2, a3, a4⟩ := id hA
            go_wp2_with (first
              | (go_at_call 28; refine (z28 hs h0 n).mono ?_; rintro e w2 ⟨rfl, hs', hb2⟩; replace hs := hs'; replace hb := hb.trans hb2; replace hA := hA.but hb2 hAB; clear a0 a1 a2 a3 a4; obtain ⟨a0, a1, a2, a3, a4⟩ := id hA)
              | (go_at_call 29; refine (z29 hs h0 x.l x.m).mono ?_; rintro e w2 ⟨rfl, hs', hb2⟩; replace hs := hs'; replace hb := hb.trans hb2; replace hA := hA.but hb2 hAB; clear a0 a1 a2 a3 a4; obtain ⟨a0, a1, a2, a3, a4⟩ := id hA)
              | (go_at_call 30; refine (z30 hs h0 x.m o3).mono ?_; rintro e w2 ⟨rfl, hs', hb2⟩; replace hs := hs'; replace hb := hb.trans hb2; replace hA := hA.but hb2 hAB; clear a0 a1 a2 a3 a4; obtain ⟨a0, a1, a2, a3, a4⟩ := id hA)
              | (go_at_call 31; refine (z31 hs h0).mono ?_; rintro e w2 ⟨rfl, hs', hb2⟩; replace hs := hs'; replace hb := hb.trans hb2; replace hA := hA.but hb2 hAB; clear a0 a1 a2 a3 a4; obtain ⟨a0, a1, a2, a3, a4⟩ := id hA)
              | (go_at_call 33; refine (z33 hs h0 x.c x.l x.m o5).mono ?_; rintro e w2 ⟨⟨pa, pk, rfl⟩, hs', hb2⟩; replace hs := hs'; replace hb := hb.trans hb2; replace hA := hA.but hb2 hAB; clear a0 a1 a2 a3 a4; obtain ⟨a0, a1, a2, a3, a4⟩ := id hA)
              | (go_at_call 34; refine (z34 hs h0).mono ?_; rintro e w2 ⟨rfl, hs', hb2⟩; replace hs := hs'; replace hb := hb.trans hb2; replace hA := hA.but hb2 hAB; clear a0 a1 a2 a3 a4; obtain ⟨a0, a1, a2, a3, a4⟩ := id hA))
            go_roundw
            case rel => exact ⟨i + 1, by omega, by simp, hs, hB.trans (hb.below hB.size (by simpa using hBw))⟩
            case measure =>
              simp [intOf]
              omega
          · have k1 : ¬ (i : Int) < ys.length := by omega
            have hE := err_sq hs
            have hE2 := end_any B _ _ hs
            have hE3 := left_any B _ _ hs
            have hlv := lives_any wr
            have e1 : endN st = st.1 := by simp [endN, h0]
            rw [e1] at hE2
            rw [hz2] at hE3
            clear e1 hz2
            generalize st.1 = en at *
            go_wp2_with (first
              | (go_at_call 23; refine hE.mono ?_; rintro e w3 ⟨rfl, rfl⟩)
              | (go_at_call 25; refine hE2.mono ?_; rintro e w3 ⟨rfl, rfl⟩)
              | (go_at_call 24; refine hE3.mono ?_; rintro e w3 ⟨rfl, rfl⟩)
              | (go_at_call 9; refine hlv.mono ?_; rintro e w3 ⟨rfl, hb3⟩))
            go_ret
            exact ⟨rfl, hB.trans (hb3.mono hB.size)⟩

set_option maxRecDepth 100000 in
set_option maxHeartbeats 2000000 in
theorem sticks_any (a : Option Addr) (c : Nat) (bs : List UInt8) (la : Option Addr) (lc : Nat) (xs : List Ak) (ma : Option Addr) (mc : Nat) (ys : List Ak) (w : World) (hy : Byts w w.heap.size a c bs) (hv : Asks w la xs) (hok : ∀ x ∈ xs, x.ok) (hv2 : Asks w ma ys) (hok2 : ∀ x ∈ ys, x.ok) :
    Calls Try.prog 7 #[.slice a bs.length c, .slice la xs.length lc, .slice ma ys.length mc] w fun e w' => e = .returned (.bool true) ∧ Below w.heap.size w w' := by
  have hlv := lives_any w
  by_cases hl : bs.length ≤ 200
  · by_cases hx : xs.length ≤ 40
    · by_cases hy2 : ys.length ≤ 20
      · exact sticks_in a c bs la lc xs ma mc ys w hy hv hok hv2 hok2 hl hx hy2
      · have g1 : ¬ (200 : Int) < bs.length := by omega
        have g2 : ¬ (40 : Int) < xs.length := by omega
        have g3 : (20 : Int) < ys.length := by omega
        go_enter Try.func7, Try.ntmps7
        go_wp2_with (go_at_call 9; refine hlv.mono ?_; rintro e w2 ⟨rfl, hb2⟩)
        go_ret
        exact ⟨rfl, hb2⟩
    · have g1 : ¬ (200 : Int) < bs.length := by omega
      have g2 : (40 : Int) < xs.length := by omega
      go_enter Try.func7, Try.ntmps7
      go_wp2_with (go_at_call 9; refine hlv.mono ?_; rintro e w2 ⟨rfl, hb2⟩)
      go_ret
      exact ⟨rfl, hb2⟩
  · have g1 : (200 : Int) < bs.length := by omega
    go_enter Try.func7, Try.ntmps7
    go_wp2_with (go_at_call 9; refine hlv.mono ?_; rintro e w2 ⟨rfl, hb2⟩)
    go_ret
    exact ⟨rfl, hb2⟩

end Go.Proofs.Ytdndpncbagjidaa
