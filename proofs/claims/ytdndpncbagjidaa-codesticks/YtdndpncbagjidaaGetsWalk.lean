/- CodeGets' walk. -/
import Derived.Test.YtdndpncbagjidaaGetK
import Derived.Test.YtdndpncbagjidaaBackWalk
import Derived.Test.YtdndpncbagjidaaOpens
namespace Go.Proofs.Ytdndpncbagjidaa
open Go.RowKit
set_option linter.unusedVariables false

theorem getS_len {α : Type} {f : List UInt8 → Nat × α × List UInt8} {z : α} (hf : ∀ bs, (f bs).2.2.length ≤ bs.length) (st : Nat × List UInt8) : (getS f z st).2.2.length ≤ st.2.length := by
  unfold getS
  split
  · exact hf st.2
  · exact Nat.le_refl _
theorem numT_len (most : Nat) (bs : List UInt8) : (numT most bs).2.2.length ≤ bs.length := by
  have := numG_short bs 0 0
  unfold numT
  simp only
  split
  · split
    · simp
    · exact this
  · exact this
theorem intT_len (l m : Int) (bs : List UInt8) : (intT l m bs).2.2.length ≤ bs.length := by
  have := numG_short bs 0 0
  unfold intT
  simp only
  split
  · split
    · simp
    · exact this
  · simp
theorem textT_len (m : Int) (bs : List UInt8) : (textT m bs).2.2.length ≤ bs.length := by
  have := numT_len (upN m) bs
  unfold textT
  simp only
  split
  · split
    · simp
    · simp only [List.length_drop]
      omega
  · simp
theorem flagT_len (bs : List UInt8) : (flagT bs).2.2.length ≤ bs.length := by
  cases bs with
  | nil => simp [flagT]
  | cons c t =>
    by_cases h : 1 < c.toNat <;> simp [flagT, h]
theorem byteT_len (bs : List UInt8) : (byteT bs).2.2.length ≤ bs.length := by
  cases bs with
  | nil => simp [byteT]
  | cons c t => simp [byteT]
theorem nxt_len (k l m : Int) (n : Nat) (c : Int) (st : Nat × List UInt8) : (nxt k l m n c st).2.length ≤ st.2.length := by
  unfold nxt
  split
  · exact getS_len (numT_len n) st
  split
  · exact getS_len (intT_len l m) st
  split
  · exact getS_len (textT_len m) st
  split
  · exact getS_len flagT_len st
  split
  · exact getS_len (fun bs => by have := intsT_len c l m bs; omega) st
  · exact getS_len byteT_len st

theorem get_all {w : World} {B lo M : Nat} {st st' : Nat × List UInt8} (h : Gt w B lo M st st') (k l m c : Int) (n : Nat) (ha : AskOk k l m n c) :
    Calls Try.prog 22 #[.pointer (some ⟨B, 0, none⟩), .pointer (some ⟨M, 0, none⟩), .agg #[.int .i64 k, .int .i64 l, .int .i64 m, .int .u64 (n : Int), .int .i64 c]] w fun e w' => GetsT B lo M w st st' (nxt k l m n c st) (nxt k l m n c st') e w' := by
  by_cases q0 : k = 0
  · subst q0
    exact get0 h 0 l m c n ha
  by_cases q1 : k = 1
  · subst q1
    exact get1 h 1 l m c n ha
  by_cases q2 : k = 2
  · subst q2
    exact get2 h 2 l m c n ha
  by_cases q3 : k = 3
  · subst q3
    exact get3 h 3 l m c n ha
  by_cases q4 : k = 4
  · subst q4
    by_cases hst : st = st'
    · exact get4a h 4 l m c n ha hst
    · exact get4b h 4 l m c n ha hst
  · exact get5 h k l m c n ha q0 q1 q2 q3 q4

set_option maxRecDepth 100000 in
set_option maxHeartbeats 8000000 in
theorem gets_any (a : Option Addr) (c : Nat) (bs : List UInt8) (la : Option Addr) (lc : Nat) (xs : List Ak) (w : World) (hy : Byts w w.heap.size a c bs) (hv : Asks w la xs) (hok : ∀ x ∈ xs, x.ok) :
    Calls Try.prog 4 #[.slice a bs.length c, .slice la xs.length lc] w fun e w' => e = .returned (.bool true) ∧ Below w.heap.size w w' := by
  by_cases hl : bs.length ≤ 300
  · by_cases hx : xs.length ≤ 60
    · have g1 : ¬ (300 : Int) < bs.length := by omega
      have g2 : ¬ (60 : Int) < xs.length := by omega
      have hR := read_any hy (by omega)
      have hRR : ∀ W, Below w.heap.size w W → _ := fun W hb => rread ((hy.but (S := []) (.of_below hb) (by simp)).up hb.size) (by omega)
      go_enter Try.func4, Try.ntmps4
      go_wp2_with (first
        | (go_at_call 20; refine hR.mono ?_; rintro e w1 ⟨B, rfl, hBw, hs1, hb1⟩)
        | (go_at_call 21; refine (hRR _ hb1).mono ?_; rintro e w2 ⟨M, rfl, hr2, hb2⟩))
      have hs2 := hs1.keep (.of_below hb2)
      have hB1 := hs1.lt
      have hMw := hr2.1.base
      generalize w1.heap.size = lo at *
      have hT : Below w.heap.size w w2 := hb1.trans (hb2.mono (by have := hb1.size; omega))
      clear hb1 hb2 hs1 hR hRR
      go_loopw [24] (fun q wr => ∃ (j : Nat) (st : Nat × List UInt8), j ≤ xs.length ∧ q = .int .i64 (j : Int) ∧ SQ wr B st ∧ RQ wr lo M st ∧ st.2.length ≤ 300 ∧ Below w.heap.size w wr) (fun q _ => 60 - (intOf q).toNat)
      case atStart => exact ⟨0, (0, bs), Nat.zero_le _, rfl, hs2, hr2, hl, hT⟩
      case round =>
        obtain ⟨j, st, hj, rfl, hs, hr, hsl, hB⟩ := hrel
        clear hs2 hr2 hT
        by_cases hlt : j < xs.length
        · obtain ⟨x, hx0⟩ : ∃ x, xs[j]? = some x := ⟨xs[j], by simp⟩
          obtain ⟨b, o, rfl, d0, d1, d2, d3, d4⟩ := (hv.below hB) j x hx0
          obtain ⟨o1, o2, o3, o4, o5⟩ := hok x (List.mem_of_getElem? hx0)
          obtain ⟨n, hn⟩ : ∃ n : Nat, x.n = (n : Int) := ⟨x.n.toNat, by have := o4.1; omega⟩
          have k1 : (j : Int) < xs.length := by omega
          have k2 : (0 : Int) ≤ j := by omega
          have hBr := hs.lt
          have hMr := hr.lt
          rw [hn] at d3
          have hb0 : But [] wr (wr.alloc (.cells #[.int .i64 x.k, .int .i64 x.l, .int .i64 x.m, .int .u64 (n : Int), .int .i64 x.c] 40)) := (But.refl [] wr).alloc _
          have hA1 := (AskAt.new wr x.k x.l x.m n x.c).but (But.refl [] _).drew (by simp)
          have hG : Gt (wr.alloc (.cells #[.int .i64 x.k, .int .i64 x.l, .int .i64 x.m, .int .u64 (n : Int), .int .i64 x.c] 40)).drew B lo M st st := ⟨hs.keep hb0.drew, hr.keep hb0.drew, hB1, by omega, by omega⟩
          have hget := get_all hG x.k x.l x.m x.c n ⟨o3, o5⟩
          have hnl := nxt_len x.k x.l x.m n x.c st
          have HN := Hid.mk hnl
          clear hx0 hn hG hnl o1 o2 o3 o4 o5
          go_wp2_with fail
          refine wp_region_held_drew (S := (fun w' => AskAt w' wr.heap.size x.k x.l x.m n x.c)) (by kernel_rfl) hA1 (fun hHeld => ?_)
          refine anyH_take (i := 0) (v := ?_) (some 28) rfl rfl (by kernel_rfl) (fun _ _ _ h => h) (Or.inl ⟨by rfl, ?_⟩) (by assumption) ?_
          rotate_left
          · (intro w hSw; go_simp; all_goals with_reducible rfl)
          try simp only [Act.put, List.setIfInBounds_toArray, List.set_cons_zero, List.set_cons_succ]
          refine anyH_take (i := 1) (v := ?_) (some 29) rfl rfl (by kernel_rfl) (fun _ _ _ h => h) (Or.inl ⟨by rfl, ?_⟩) (by assumption) ?_
          rotate_left
          · (intro w hSw; go_simp; all_goals with_reducible rfl)
          try simp only [Act.put, List.setIfInBounds_toArray, List.set_cons_zero, List.set_cons_succ]
          refine anyH_take (i := 2) (v := ?_) (some 30) rfl rfl (by kernel_rfl) (fun _ _ _ h => h) (Or.inl ⟨by rfl, ?_⟩) (by assumption) ?_
          rotate_left
          · (intro w hSw; obtain ⟨d0, d1, d2, d3, d4⟩ := hSw; go_simp; all_goals with_reducible rfl)
          try simp only [Act.put, List.setIfInBounds_toArray, List.set_cons_zero, List.set_cons_succ]
          refine anyH_one (i := 3) (by kernel_rfl) rfl (fun K hK => ?_)
          go_simp
          go_at_call 22
          refine hget.mono ?_
          rintro e w2 ⟨rr, rfl, hrr, hs2, hr2, hb2⟩
          obtain rfl := hrr rfl
          have hE := err_sq hs2
          have hL := left_any B _ w2 hs2
          obtain ⟨ma, mc, e0, hym⟩ := hr2.1.c0
          have e1 := hr2.1.c1
          refine hK.out _ _ (hHeld.but hb2 (by simp; omega)) (fun hHeld => ?_)
          clear hK K
          try simp only [Act.put, List.setIfInBounds_toArray, List.set_cons_zero, List.set_cons_succ]
          refine anyH_mono (S2 := (fun w' => AskAt w' wr.heap.size x.k x.l x.m n x.c ∧ w'.cell? ⟨M, 1, none⟩ = some (.int .i64 ((nxt x.k x.l x.m n x.c st).1 : Int)) ∧ w'.cell? ⟨M, 0, none⟩ = some (.slice ma (nxt x.k x.l x.m n x.c st).2.length mc))) (fun _ h => h.1) ?_
          replace hHeld : (fun w' => AskAt w' wr.heap.size x.k x.l x.m n x.c ∧ w'.cell? ⟨M, 1, none⟩ = some (.int .i64 ((nxt x.k x.l x.m n x.c st).1 : Int)) ∧ w'.cell? ⟨M, 0, none⟩ = some (.slice ma (nxt x.k x.l x.m n x.c st).2.length mc)) _ := ⟨hHeld, e1, e0⟩
          refine anyH_take (i := 4) (v := ?_) (some 32) rfl rfl (by kernel_rfl) (fun _ _ _ h => h) (Or.inl ⟨by rfl, ?_⟩) (by assumption) ?_
          rotate_left
          · (intro w hSw; go_simp; all_goals with_reducible rfl)
          try simp only [Act.put, List.setIfInBounds_toArray, List.set_cons_zero, List.set_cons_succ]
          refine anyH_take (i := 5) (v := ?_) (some 33) rfl rfl (by kernel_rfl) (fun _ _ _ h => h) (Or.inl ⟨by rfl, ?_⟩) (by assumption) ?_
          rotate_left
          · (intro w hSw; go_simp; all_goals with_reducible rfl)
          try simp only [Act.put, List.setIfInBounds_toArray, List.set_cons_zero, List.set_cons_succ]
          refine anyH_take (i := 6) (v := ?_) (some 34) rfl rfl (by kernel_rfl) (fun _ _ _ h => h) (Or.inl ⟨by rfl, ?_⟩) (by assumption) ?_
          rotate_left
          · (intro w hSw; go_simp; all_goals with_reducible rfl)
          try simp only [Act.put, List.setIfInBounds_toArray, List.set_cons_zero, List.set_cons_succ]
          refine anyH_take (i := 8) (v := ?_) (some 36) rfl rfl (by kernel_rfl) (fun _ _ _ h => h) (Or.inl ⟨by rfl, ?_⟩) (by assumption) ?_
          rotate_left
          · (intro w hSw; go_simp; all_goals with_reducible rfl)
          try simp only [Act.put, List.setIfInBounds_toArray, List.set_cons_zero, List.set_cons_succ]
          refine anyH_take (i := 9) (v := ?_) (some 37) rfl rfl (by kernel_rfl) (fun _ _ _ h => h) (Or.inl ⟨by rfl, ?_⟩) (by assumption) ?_
          rotate_left
          · (intro w hSw; go_simp; all_goals with_reducible rfl)
          try simp only [Act.put, List.setIfInBounds_toArray, List.set_cons_zero, List.set_cons_succ]
          refine anyH_take (i := 10) (v := ?_) (some 38) rfl rfl (by kernel_rfl) (fun _ _ _ h => h) (Or.inl ⟨by rfl, ?_⟩) (by assumption) ?_
          rotate_left
          · (intro w hSw; go_simp; all_goals with_reducible rfl)
          try simp only [Act.put, List.setIfInBounds_toArray, List.set_cons_zero, List.set_cons_succ]
          refine anyH_take (i := 11) (v := ?_) (some 39) rfl rfl (by kernel_rfl) (fun _ _ _ h => h) (Or.inl ⟨by rfl, ?_⟩) (by assumption) ?_
          rotate_left
          · (intro w hSw; obtain ⟨_, e1, e0⟩ := hSw; go_simp; all_goals with_reducible rfl)
          try simp only [Act.put, List.setIfInBounds_toArray, List.set_cons_zero, List.set_cons_succ]
          refine anyH_one (i := 7) (by kernel_rfl) rfl (fun K hK => ?_)
          go_simp
          go_at_call 23
          refine hE.mono ?_
          rintro e w3 ⟨rfl, rfl⟩
          refine hK.out _ _ hHeld (fun hHeld => ?_)
          clear hK K
          try simp only [Act.put, List.setIfInBounds_toArray, List.set_cons_zero, List.set_cons_succ]
          refine anyH_take (i := 12) (v := ?_) (some 40) rfl rfl (by kernel_rfl) (fun _ _ _ h => h) (Or.inl ⟨by rfl, ?_⟩) (by assumption) ?_
          rotate_left
          · (intro w hSw; go_simp; all_goals with_reducible rfl)
          try simp only [Act.put, List.setIfInBounds_toArray, List.set_cons_zero, List.set_cons_succ]
          refine anyH_take (i := 13) (v := ?_) (some 41) rfl rfl (by kernel_rfl) (fun _ _ _ h => h) (Or.inl ⟨by rfl, ?_⟩) (by assumption) ?_
          rotate_left
          · (intro w hSw; go_simp; all_goals with_reducible rfl)
          try simp only [Act.put, List.setIfInBounds_toArray, List.set_cons_zero, List.set_cons_succ]
          refine anyH_take (i := 14) (v := ?_) (some 42) rfl rfl (by kernel_rfl) (fun _ _ _ h => h) (Or.inl ⟨by rfl, ?_⟩) (by assumption) ?_
          rotate_left
          · (intro w hSw; go_simp; all_goals with_reducible rfl)
          try simp only [Act.put, List.setIfInBounds_toArray, List.set_cons_zero, List.set_cons_succ]
          refine anyH_take (i := 15) (v := ?_) (some 43) rfl rfl (by kernel_rfl) (fun _ _ _ h => h) (Or.inl ⟨by rfl, ?_⟩) (by assumption) ?_
          rotate_left
          · (intro w hSw; go_simp; all_goals with_reducible rfl)
          try simp only [Act.put, List.setIfInBounds_toArray, List.set_cons_zero, List.set_cons_succ]
          refine anyH_take (i := 17) (v := ?_) (some 45) rfl rfl (by kernel_rfl) (fun _ _ _ h => h) (Or.inl ⟨by rfl, ?_⟩) (by assumption) ?_
          rotate_left
          · (intro w hSw; go_simp; all_goals with_reducible rfl)
          try simp only [Act.put, List.setIfInBounds_toArray, List.set_cons_zero, List.set_cons_succ]
          refine anyH_take (i := 18) (v := ?_) (some 46) rfl rfl (by kernel_rfl) (fun _ _ _ h => h) (Or.inl ⟨by rfl, ?_⟩) (by assumption) ?_
          rotate_left
          · (intro w hSw; go_simp; all_goals with_reducible rfl)
          try simp only [Act.put, List.setIfInBounds_toArray, List.set_cons_zero, List.set_cons_succ]
          refine anyH_take (i := 19) (v := ?_) (some 47) rfl rfl (by kernel_rfl) (fun _ _ _ h => h) (Or.inl ⟨by rfl, ?_⟩) (by assumption) ?_
          rotate_left
          · (intro w hSw; go_simp; all_goals with_reducible rfl)
          try simp only [Act.put, List.setIfInBounds_toArray, List.set_cons_zero, List.set_cons_succ]
          refine anyH_take (i := 20) (v := ?_) (some 48) rfl rfl (by kernel_rfl) (fun _ _ _ h => h) (Or.inl ⟨by rfl, ?_⟩) (by assumption) ?_
          rotate_left
          · (intro w hSw; obtain ⟨_, e1, e0⟩ := hSw; go_simp; all_goals with_reducible rfl)
          try simp only [Act.put, List.setIfInBounds_toArray, List.set_cons_zero, List.set_cons_succ]
          refine anyH_take (i := 21) (v := ?_) (some 49) rfl rfl (by kernel_rfl) (fun _ _ _ h => h) (Or.inl ⟨by rfl, ?_⟩) (by assumption) ?_
          rotate_left
          · (intro w hSw; go_simp; all_goals with_reducible rfl)
          try simp only [Act.put, List.setIfInBounds_toArray, List.set_cons_zero, List.set_cons_succ]
          refine anyH_one (i := 16) (by kernel_rfl) rfl (fun K hK => ?_)
          go_simp
          go_at_call 24
          refine hL.mono ?_
          rintro e w3 ⟨rfl, rfl⟩
          refine hK.out _ _ hHeld (fun hHeld => ?_)
          clear hK K
          try simp only [Act.put, List.setIfInBounds_toArray, List.set_cons_zero, List.set_cons_succ]
          refine anyH_take (i := 22) (v := ?_) (some 50) rfl rfl (by kernel_rfl) (fun _ _ _ h => h) (Or.inl ⟨by rfl, ?_⟩) (by assumption) ?_
          rotate_left
          · (intro w hSw; go_simp; all_goals with_reducible rfl)
          try simp only [Act.put, List.setIfInBounds_toArray, List.set_cons_zero, List.set_cons_succ]
          refine anyH_take (i := 23) (v := ?_) (some 51) rfl rfl (by kernel_rfl) (fun _ _ _ h => h) (Or.inl ⟨by rfl, ?_⟩) (by assumption) ?_
          rotate_left
          · (intro w hSw; go_simp; all_goals with_reducible rfl)
          try simp only [Act.put, List.setIfInBounds_toArray, List.set_cons_zero, List.set_cons_succ]
          refine wpAnyH_done (by kernel_rfl) ?_ _
          go_wp2_with fail
          go_roundw
          case rel => exact ⟨j + 1, _, by omega, by simp, hs2, hr2, by have := HN.out; omega, (hB.alloc hB.size _).drew.trans (hb2.below (by have := hB.size; simp; omega) (by simp; omega))⟩
          case measure =>
            simp [intOf]
            omega
        · have k1 : ¬ (j : Int) < xs.length := by omega
          have hE := end_any B _ _ hs
          have hE2 := rend st hr
          have hlv := lives_any wr
          generalize endN st = en at *
          go_wp2_with (first
            | (go_at_call 25; refine hE.mono ?_; rintro e w3 ⟨rfl, rfl⟩)
            | (go_at_call 26; refine hE2.mono ?_; rintro e w3 ⟨rfl, rfl⟩)
            | (go_at_call 9; refine hlv.mono ?_; rintro e w3 ⟨rfl, hb3⟩))
          go_ret
          exact ⟨rfl, hB.trans (hb3.mono hB.size)⟩
    · have g1 : ¬ (300 : Int) < bs.length := by omega
      have g2 : (60 : Int) < xs.length := by omega
      have hlv := lives_any w
      go_enter Try.func4, Try.ntmps4
      go_wp2_with (go_at_call 9; refine hlv.mono ?_; rintro e w2 ⟨rfl, hb2⟩)
      go_ret
      exact ⟨rfl, hb2⟩
  · have g1 : (300 : Int) < bs.length := by omega
    have hlv := lives_any w
    go_enter Try.func4, Try.ntmps4
    go_wp2_with (go_at_call 9; refine hlv.mono ?_; rintro e w2 ⟨rfl, hb2⟩)
    go_ret
    exact ⟨rfl, hb2⟩

end Go.Proofs.Ytdndpncbagjidaa
