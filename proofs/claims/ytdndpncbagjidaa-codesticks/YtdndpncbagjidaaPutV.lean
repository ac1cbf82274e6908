/- A value behind bytes, by its kind: put. -/
import Derived.Test.YtdndpncbagjidaaPutL
import Derived.Test.YtdndpncbagjidaaBackM
import Derived.Test.YtdndpncbagjidaaHoldT
namespace Go.Proofs.Ytdndpncbagjidaa
open Go.RowKit

/-- A value in a block of its own. -/
structure ValAt (w : World) (A : Nat) (x : Vl) : Prop where
  c0 : w.cell? ⟨A, 0, none⟩ = some (.int .i64 x.k)
  c1 : w.cell? ⟨A, 1, none⟩ = some (.int .u64 x.n)
  c2 : w.cell? ⟨A, 2, none⟩ = some (.int .i64 x.i)
  c3 : w.cell? ⟨A, 3, none⟩ = some (.string x.s)
  c4 : w.cell? ⟨A, 4, none⟩ = some (.slice x.a x.l.length x.c)
theorem ValAt.but {S : List Nat} {w w' : World} {A : Nat} {x : Vl} (h : ValAt w A x) (hb : But S w w') (hA : A ∉ S) : ValAt w' A x :=
  ⟨hb.cell' h.c0 hA, hb.cell' h.c1 hA, hb.cell' h.c2 hA, hb.cell' h.c3 hA, hb.cell' h.c4 hA⟩
theorem ValAt.new (w : World) (x : Vl) : ValAt (w.alloc (.cells #[.int .i64 x.k, .int .u64 x.n, .int .i64 x.i, .string x.s, .slice x.a x.l.length x.c] 26)) w.heap.size x := by
  constructor <;> simp [go_sem]

theorem byts_on {w w' : World} {S : List Nat} {G l : Nat} {B c : Nat} {bs : List UInt8} (h : Byts w B (some ⟨G, l, none⟩) c bs) (hb : But S w w') (hG : G ∉ S) : Byts w' B (some ⟨G, l, none⟩) c bs := by
  rcases h with h | ⟨G', o, e, hG', hl', hm, hc⟩
  · exact .inl h
  · cases e
    exact .inr ⟨G, l, rfl, hG', hl', hm, fun j b hj => hb.cell' (hc j b hj) hG⟩
theorem byts_below {w w' : World} {B lo c : Nat} {a : Option Addr} {bs : List UInt8} (h : Byts w B a c bs) (hb : Below lo w w') (hl : B ≤ lo) : Byts w' B a c bs := by
  rcases h with h | ⟨G, o, e, hG, hl', hm, hc⟩
  · exact .inl h
  · exact .inr ⟨G, o, e, hG, hl', hm, fun j b hj => (hb.cell (p := ⟨G, o + j, none⟩) (by simp; omega)).trans (hc j b hj)⟩

section
variable {B : Nat} {a : Option Addr} {c : Nat} {bs : List UInt8} {w : World}

set_option maxRecDepth 100000 in
set_option maxHeartbeats 2000000 in
theorem put_any (h : Byts w w.heap.size a c bs) (hbs : bs.length ≤ 100000) (x : Vl) (hx : x.ok) (hf : x.fit) (hi : IntsAt w x.a x.l) :
    Calls Try.prog 27 #[.slice a bs.length c, .agg #[.int .i64 x.k, .int .u64 x.n, .int .i64 x.i, .string x.s, .slice x.a x.l.length x.c]] w fun e w' => ∃ v', e = .returned v' ∧ Own w' w.heap.size v' (bs ++ putL x) ∧ Below w.heap.size w w' := by
  obtain ⟨k, n, i, s, p, pc, l⟩ := x
  obtain ⟨hk, hn, hii, hl⟩ := hx
  obtain ⟨hf1, hf2⟩ := hf
  simp only at hk hn hii hl hf1 hf2 hi ⊢
  obtain ⟨N, rfl⟩ : ∃ N : Nat, n = (N : Int) := ⟨n.toNat, by have := hn.1; omega⟩
  have hN2 : N < 2 ^ 64 := by have := hn.2; omega
  have key : ∀ k : Int, Calls Try.prog 27 #[.slice a bs.length c, .agg #[.int .i64 k, .int .u64 (N : Int), .int .i64 i, .string s, .slice p l.length pc]] w fun e w' => ∃ v', e = .returned v' ∧ Own w' w.heap.size v' (bs ++ putL ⟨k, N, i, s, p, pc, l⟩) ∧ Below w.heap.size w w' := fun k => by
    have hV := ValAt.new w ⟨k, N, i, s, p, pc, l⟩
    have hb0 : Below w.heap.size w (w.alloc (.cells #[.int .i64 k, .int .u64 (N : Int), .int .i64 i, .string s, .slice p l.length pc] 26)) := (Below.refl _ w).alloc (Nat.le_refl _) _
    have h1 := h.but (S := []) (.of_below hb0) (by simp)
    have hi1 := hi.below hb0
    have fin : ∀ {w' : World} {v' : Value} {l' : List UInt8}, Own w' (w.alloc (.cells #[.int .i64 k, .int .u64 (N : Int), .int .i64 i, .string s, .slice p l.length pc] 26)).heap.size v' l' → Below (w.alloc (.cells #[.int .i64 k, .int .u64 (N : Int), .int .i64 i, .string s, .slice p l.length pc] 26)).heap.size (w.alloc (.cells #[.int .i64 k, .int .u64 (N : Int), .int .i64 i, .string s, .slice p l.length pc] 26)) w' → Own w' w.heap.size v' l' ∧ Below w.heap.size w w' := fun ho hb => ⟨ho.lower (by simp), hb0.trans (hb.mono (by simp))⟩
    obtain ⟨c0, c1, c2, c3, c4⟩ := hV
    simp only at c0 c1 c2 c3 c4
    by_cases q0 : k = 0
    · subst q0
      have e : putL ⟨0, N, i, s, p, pc, l⟩ = numL N := by simp [putL]
      rw [e]
      have hc := cnum h1 N hN2 (by omega)
      clear e
      go_enter Try.func27, Try.ntmps27
      go_wp2_with (go_at_call 10; refine hc.mono ?_; rintro e w' ⟨v', rfl, ho, hb⟩)
      go_ret
      exact ⟨_, rfl, fin ho hb⟩
    by_cases q1 : k = 1
    · subst q1
      have e : putL ⟨1, N, i, s, p, pc, l⟩ = numL (zigN i) := by simp [putL]
      rw [e]
      have hc := cint h1 i hii (by omega)
      clear e
      go_enter Try.func27, Try.ntmps27
      go_wp2_with (go_at_call 12; refine hc.mono ?_; rintro e w' ⟨v', rfl, ho, hb⟩)
      go_ret
      exact ⟨_, rfl, fin ho hb⟩
    by_cases q2 : k = 2
    · subst q2
      have e : putL ⟨2, N, i, s, p, pc, l⟩ = numL s.size ++ s.data.toList := by simp [putL]
      rw [e]
      have hc := ctext h1 s (by omega) (by omega)
      clear e
      go_enter Try.func27, Try.ntmps27
      go_wp2_with (go_at_call 14; refine hc.mono ?_; rintro e w' ⟨v', rfl, ho, hb⟩)
      go_ret
      exact ⟨_, rfl, fin ho hb⟩
    by_cases q3 : k = 3
    · subst q3
      have e : putL ⟨3, N, i, s, p, pc, l⟩ = [if decide (0 < i) then 1 else 0] := by simp [putL]
      rw [e]
      have hc := cflag h1 (decide (0 < i)) (by omega)
      generalize (if decide (0 < i) = true then (1 : UInt8) else 0) = f at *
      clear e
      go_enter Try.func27, Try.ntmps27
      go_wp2_with (go_at_call 16; refine hc.mono ?_; rintro e w' ⟨v', rfl, ho, hb⟩)
      go_ret
      exact ⟨_, rfl, fin ho hb⟩
    by_cases q4 : k = 4
    · subst q4
      have e : putL ⟨4, N, i, s, p, pc, l⟩ = intsL l := by simp [putL]
      rw [e]
      have hc := cints h1 p pc l hi1 hl (by omega) (by omega)
      clear e
      go_enter Try.func27, Try.ntmps27
      go_wp2_with (go_at_call 18; refine hc.mono ?_; rintro e w' ⟨v', rfl, ho, hb⟩)
      go_ret
      exact ⟨_, rfl, fin ho hb⟩
    · have e : putL ⟨k, N, i, s, p, pc, l⟩ = [UInt8.ofNat (N % 256)] := by simp [putL, q0, q1, q2, q3, q4]
      rw [e]
      have HX : Hid ((N : Int) % 256 = ((UInt8.ofNat (N % 256)).toNat : Int)) := Hid.mk (by rw [u8_small (by omega)]; omega)
      generalize UInt8.ofNat (N % 256) = b at *
      obtain ⟨n1, n2⟩ := hn
      clear e fin
      go_enter Try.func27, Try.ntmps27
      go_wp2_with fail
      generalize hW1 : (w.alloc (.cells #[.int .i64 k, .int .u64 (N : Int), .int .i64 i, .string s, .slice p l.length pc] 26)) = W1 at *
      clear hW1
      have hz1 := hb0.size
      have hcv : ∀ W, (convert 23 5 (.int .u64 (N : Int))).run Try.prog W = .ok (.int .u8 (b.toNat : Int)) W := fun W => by
        rw [← HX.out]
        simp [convert, run_underlying Try.underlying23, run_underlying Try.underlying5, go_sem, IntKind.wrap_u8]
      have hSd : W1.drew.cell? ⟨w.heap.size, 1, none⟩ = some (.int .u64 (N : Int)) ∧ Byts W1.drew w.heap.size a c bs := ⟨c1, h1.but (S := []) (But.refl [] W1).drew (by simp)⟩
      have hw0 : Below w.heap.size w W1.drew := hb0.drew
      clear hb0 c0 c2 c3 c4 h1 hi1 HX q0 q1 q2 q3 q4
      generalize hW2 : W1.drew = W2 at *
      refine wp_region_held_drew (S := (fun w' => w'.cell? ⟨w.heap.size, 1, none⟩ = some (.int .u64 (N : Int)) ∧ Byts w' w.heap.size a c bs)) (by kernel_rfl) (by rw [hW2]; exact hSd) (fun hHeld => ?_)
      rw [hW2] at hHeld ⊢
      clear hW2
      refine anyH_take (i := 1) (v := ?_) (some 39) rfl rfl (by kernel_rfl) (fun _ _ _ h => h) (Or.inl ⟨by rfl, ?_⟩) (by assumption) ?_
      rotate_left
      · (intro w hSw; go_simp; all_goals with_reducible rfl)
      try simp only [Act.put, List.setIfInBounds_toArray, List.set_cons_zero, List.set_cons_succ]
      refine anyH_take (i := 3) (v := ?_) (some 41) rfl rfl (by kernel_rfl) (fun _ _ _ h => h) (Or.inl ⟨by rfl, ?_⟩) (by assumption) ?_
      rotate_left
      · (intro w hSw; go_simp; all_goals with_reducible rfl)
      try simp only [Act.put, List.setIfInBounds_toArray, List.set_cons_zero, List.set_cons_succ]
      refine anyH_take (i := 4) (v := ?_) (some 42) rfl rfl (by kernel_rfl) (fun _ _ _ h => h) (Or.inl ⟨by rfl, ?_⟩) (by assumption) ?_
      rotate_left
      · (intro w hSw; go_simp; all_goals with_reducible rfl)
      try simp only [Act.put, List.setIfInBounds_toArray, List.set_cons_zero, List.set_cons_succ]
      refine anyH_take (i := 5) (v := ?_) (some 43) rfl rfl (by kernel_rfl) (fun _ _ _ h => h) (Or.inl ⟨by rfl, ?_⟩) (by assumption) ?_
      rotate_left
      · (intro w hSw; go_simp; all_goals with_reducible rfl)
      try simp only [Act.put, List.setIfInBounds_toArray, List.set_cons_zero, List.set_cons_succ]
      have hz0 : w.heap.size < W2.heap.size := World.block_lt_of_cell? _ _ hSd.1
      have hz0' : w.heap.size ≤ W2.heap.size := Nat.le_of_lt hz0
      refine anyH_two (i := 0) (j := 6) (by kernel_rfl) rfl rfl (fun K hK => ?_) (fun K hK => ?_)
      · go_simp
        have hx0 : But [] W2 (W2.alloc (.cells #[] 5)) := (But.refl [] _).alloc _
        have own0 := own_nob W2
        refine hK.out _ _ ⟨hx0.cell hHeld.1, hHeld.2.but (S := []) hx0 (by simp)⟩ (fun hHeld => ?_)
        clear hK K
        try simp only [Act.put, List.setIfInBounds_toArray, List.set_cons_zero, List.set_cons_succ]
        refine anyH_two (i := 2) (j := 6) (by kernel_rfl) rfl rfl (fun K hK => ?_) (fun K hK => ?_)
        · have b1 := hw0.alloc hz0' (.cells #[] 5)
          refine step_bown (some 40) rfl rfl _ _ rfl W2.heap.size (.slice (some ⟨W2.heap.size, 0, none⟩) 0 0) [] rfl own0 _ _ _ _ bs rfl rfl hHeld.2 (by simp; omega) (by first | (simp; done) | (simp; omega)) ?_
          intro v2 w2 ho2 hg2 hn2
          have hz2 := hg2.size
          simp at hz2
          refine hK.out _ _ ⟨(hg2.cell (p := ⟨w.heap.size, 1, none⟩) (by first | omega | (simp; omega))).trans hHeld.1, byts_below hHeld.2 hg2 (by first | omega | (simp; omega))⟩ (fun hHeld => ?_)
          clear hK K
          try simp only [Act.put, List.setIfInBounds_toArray, List.set_cons_zero, List.set_cons_succ]
          have b2 := b1.trans (hg2.mono hz0')
          refine anyH_one (i := 6) (by kernel_rfl) rfl (fun K hK => ?_)
          go_simp
          have hx6 : But [] w2 (w2.alloc (.cells #[.int .u8 (b.toNat : Int)] 5)) := (But.refl [] _).alloc _
          have byt6 := byts_one w2 b rfl
          refine hK.out _ _ ⟨hx6.cell hHeld.1, hHeld.2.but (S := []) hx6 (by simp)⟩ (fun hHeld => ?_)
          clear hK K
          try simp only [Act.put, List.setIfInBounds_toArray, List.set_cons_zero, List.set_cons_succ]
          refine anyH_one (i := 7) (by kernel_rfl) rfl (fun K hK => ?_)
          refine step_bown (some 45) rfl rfl _ _ rfl W2.heap.size _ bs rfl (ho2.alloc _) _ _ _ _ [b] rfl rfl byt6 (by simp; omega) (by first | omega | (simp; omega)) ?_
          intro v7 w7 ho7 hg7 hn7
          refine hK.out _ _ ⟨(hg7.cell (p := ⟨w.heap.size, 1, none⟩) (by first | omega | (simp; omega))).trans hHeld.1, byts_below hHeld.2 hg7 (by first | omega | (simp; omega))⟩ (fun hHeld => ?_)
          clear hK K
          try simp only [Act.put, List.setIfInBounds_toArray, List.set_cons_zero, List.set_cons_succ]
          refine anyH_one (i := 8) (by kernel_rfl) rfl (fun K hK => ?_)
          go_simp
          refine hK.out _ _ hHeld (fun hHeld => ?_)
          clear hK K
          try simp only [Act.put, List.setIfInBounds_toArray, List.set_cons_zero, List.set_cons_succ]
          refine wpAnyH_done (by kernel_rfl) ?_ _
          go_wp2_with fail
          go_ret
          exact ⟨_, rfl, ho7.lower (by omega), (b2.alloc b2.size _).trans (hg7.mono hz0')⟩
        · have b1 := hw0.alloc hz0' (.cells #[] 5)
          go_simp
          have hx6 : But [] (W2.alloc (.cells #[] 5)) ((W2.alloc (.cells #[] 5)).alloc (.cells #[.int .u8 (b.toNat : Int)] 5)) := (But.refl [] _).alloc _
          have byt6 := byts_one (W2.alloc (.cells #[] 5)) b rfl
          refine hK.out _ _ ⟨hx6.cell hHeld.1, hHeld.2.but (S := []) hx6 (by simp)⟩ (fun hHeld => ?_)
          clear hK K
          try simp only [Act.put, List.setIfInBounds_toArray, List.set_cons_zero, List.set_cons_succ]
          rw [show (W2.alloc (.cells #[] 5)).heap.size = W2.heap.size + 1 by simp] at byt6
          have b2 := b1.alloc b1.size (.cells #[.int .u8 (b.toNat : Int)] 5)
          refine anyH_one (i := 2) (by kernel_rfl) rfl (fun K hK => ?_)
          refine step_bown (some 40) rfl rfl _ _ rfl W2.heap.size (.slice (some ⟨W2.heap.size, 0, none⟩) 0 0) [] rfl (own0.alloc _) _ _ _ _ bs rfl rfl hHeld.2 (by simp; omega) (by first | (simp; done) | (simp; omega)) ?_
          intro v2 w2 ho2 hg2 hn2
          have hz2 := hg2.size
          simp at hz2
          refine hK.out _ _ ⟨(hg2.cell (p := ⟨w.heap.size, 1, none⟩) (by first | omega | (simp; omega))).trans hHeld.1, byts_below hHeld.2 hg2 (by first | omega | (simp; omega))⟩ (fun hHeld => ?_)
          clear hK K
          try simp only [Act.put, List.setIfInBounds_toArray, List.set_cons_zero, List.set_cons_succ]
          refine anyH_one (i := 7) (by kernel_rfl) rfl (fun K hK => ?_)
          refine step_bown (some 45) rfl rfl _ _ rfl W2.heap.size _ bs rfl ho2 _ _ _ _ [b] rfl rfl (byts_on byt6 hn2 (by simp [Value.ownBlock])) (by simp; omega) (by first | omega | (simp; omega)) ?_
          intro v7 w7 ho7 hg7 hn7
          refine hK.out _ _ ⟨(hg7.cell (p := ⟨w.heap.size, 1, none⟩) (by first | omega | (simp; omega))).trans hHeld.1, byts_below hHeld.2 hg7 (by first | omega | (simp; omega))⟩ (fun hHeld => ?_)
          clear hK K
          try simp only [Act.put, List.setIfInBounds_toArray, List.set_cons_zero, List.set_cons_succ]
          refine anyH_one (i := 8) (by kernel_rfl) rfl (fun K hK => ?_)
          go_simp
          refine hK.out _ _ hHeld (fun hHeld => ?_)
          clear hK K
          try simp only [Act.put, List.setIfInBounds_toArray, List.set_cons_zero, List.set_cons_succ]
          refine wpAnyH_done (by kernel_rfl) ?_ _
          go_wp2_with fail
          go_ret
          exact ⟨_, rfl, ho7.lower (by omega), (b2.trans (hg2.mono hz0')).trans (hg7.mono hz0')⟩
      · go_simp
        have hx6 : But [] W2 (W2.alloc (.cells #[.int .u8 (b.toNat : Int)] 5)) := (But.refl [] _).alloc _
        have byt6 := byts_one W2 b rfl
        refine hK.out _ _ ⟨hx6.cell hHeld.1, hHeld.2.but (S := []) hx6 (by simp)⟩ (fun hHeld => ?_)
        clear hK K
        try simp only [Act.put, List.setIfInBounds_toArray, List.set_cons_zero, List.set_cons_succ]
        refine anyH_one (i := 0) (by kernel_rfl) rfl (fun K hK => ?_)
        go_simp
        have hx0 : But [] (W2.alloc (.cells #[.int .u8 (b.toNat : Int)] 5)) ((W2.alloc (.cells #[.int .u8 (b.toNat : Int)] 5)).alloc (.cells #[] 5)) := (But.refl [] _).alloc _
        have own0 := own_nob (W2.alloc (.cells #[.int .u8 (b.toNat : Int)] 5))
        refine hK.out _ _ ⟨hx0.cell hHeld.1, hHeld.2.but (S := []) hx0 (by simp)⟩ (fun hHeld => ?_)
        clear hK K
        try simp only [Act.put, List.setIfInBounds_toArray, List.set_cons_zero, List.set_cons_succ]
        have b1 := hw0.alloc hz0' (.cells #[.int .u8 (b.toNat : Int)] 5)
        have b2 := b1.alloc b1.size (.cells #[] 5)
        rw [show (W2.alloc (.cells #[.int .u8 (b.toNat : Int)] 5)).heap.size = W2.heap.size + 1 by simp] at own0
        refine anyH_one (i := 2) (by kernel_rfl) rfl (fun K hK => ?_)
        refine step_bown (some 40) rfl rfl _ _ rfl (W2.heap.size + 1) (.slice (some ⟨(W2.heap.size + 1), 0, none⟩) 0 0) [] rfl own0 _ _ _ _ bs rfl rfl hHeld.2 (by simp; omega) (by first | (simp; done) | (simp; omega)) ?_
        intro v2 w2 ho2 hg2 hn2
        have hz2 := hg2.size
        simp at hz2
        refine hK.out _ _ ⟨(hg2.cell (p := ⟨w.heap.size, 1, none⟩) (by first | omega | (simp; omega))).trans hHeld.1, byts_below hHeld.2 hg2 (by first | omega | (simp; omega))⟩ (fun hHeld => ?_)
        clear hK K
        try simp only [Act.put, List.setIfInBounds_toArray, List.set_cons_zero, List.set_cons_succ]
        refine anyH_one (i := 7) (by kernel_rfl) rfl (fun K hK => ?_)
        refine step_bown (some 45) rfl rfl _ _ rfl (W2.heap.size + 1) _ bs rfl ho2 _ _ _ _ [b] rfl rfl (byts_on (byt6.but (S := []) ((But.refl [] _).alloc _) (by simp)) hn2 (by simp [Value.ownBlock])) (by simp; omega) (by first | omega | (simp; omega)) ?_
        intro v7 w7 ho7 hg7 hn7
        refine hK.out _ _ ⟨(hg7.cell (p := ⟨w.heap.size, 1, none⟩) (by first | omega | (simp; omega))).trans hHeld.1, byts_below hHeld.2 hg7 (by first | omega | (simp; omega))⟩ (fun hHeld => ?_)
        clear hK K
        try simp only [Act.put, List.setIfInBounds_toArray, List.set_cons_zero, List.set_cons_succ]
        refine anyH_one (i := 8) (by kernel_rfl) rfl (fun K hK => ?_)
        go_simp
        refine hK.out _ _ hHeld (fun hHeld => ?_)
        clear hK K
        try simp only [Act.put, List.setIfInBounds_toArray, List.set_cons_zero, List.set_cons_succ]
        refine wpAnyH_done (by kernel_rfl) ?_ _
        go_wp2_with fail
        go_ret
        exact ⟨_, rfl, ho7.lower (by omega), (b2.trans (hg2.mono (by omega))).trans (hg7.mono (by omega))⟩
  exact key k
end
end Go.Proofs.Ytdndpncbagjidaa
