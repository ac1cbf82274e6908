/- The reference's Put. -/
import Derived.Test.YtcffmdimfmpheaaDoorMlFns
import Derived.Test.YtcffmdimfmpheaaDoorMlTail
import Derived.Deep.CutRange
namespace Go.Proofs.YtcffmdimfmpheaaDoor
open Go Go.RowKit
set_option linter.unusedSimpArgs false

theorem OwE.drew {w : World} {B : Nat} {v : Value} {xs : List Ev} (h : OwE w B v xs) : OwE w.drew B v xs := h.below ((Below.refl _ _).drew)
theorem OwE.alloc {w : World} {B : Nat} {v : Value} {xs : List Ev} (h : OwE w B v xs) (o : Obj) : OwE (w.alloc o) B v xs := h.below ((Below.refl _ _).alloc (Nat.le_refl _) _)
theorem EV.keep {w w' : World} {a : Option Addr} {xs : List Ev} (h : EV w a xs) (hb : But [] w w') : EV w' a xs := h.below hb.to_below
theorem EV.grown {w w' : World} {row : Option Nat} {b o : Nat} {xs : List Ev} (h : EV w (some ⟨b, o, none⟩) xs) (hg : w.grownBy w' row) (hr : row ≠ some b) (hb : b < w.heap.size) : EV w' (some ⟨b, o, none⟩) xs :=
  h.put (fun b' o' e => by cases e; exact hg.block b hb (fun e => hr e.symm))
theorem c15_A (e : Ev) : (c15 e).toArray = evA e := rfl
theorem size15r : (Tryd.prog.info? 33).map (·.size) = some 15 := by kernel_rfl
section
variable {w : World} {M N : Nat} {R : List Nat} {xs : List Ev}
set_option maxHeartbeats 4000000 in
set_option maxRecDepth 100000 in
theorem rput_any (h : RQ w M R N xs) (hl : xs.length ≤ 4096) (e : Ev) :
    Calls Tryd.prog 25 #[.pointer (some ⟨M, 0, none⟩), .agg (evA e)] w fun r w' => r = .returned (.int .i64 (askE N xs [e])) ∧ ∃ R', RQ w' M R' N (putX N xs e) ∧ Step R w R' w' := by
  obtain ⟨v, rfl, hm⟩ := h
  have ba : Below w.heap.size w (w.alloc (.cells (evA e) 33)) := (Below.refl _ w).alloc (Nat.le_refl _) _
  have MY := rmay_any e (w.alloc (.cells (evA e) 33))
  have hma := hm.below ba
  have hat := at15_new w e
  obtain ⟨sl, c, rfl, -, -, -⟩ := hm.shape
  have HK : ∀ W, Below (w.alloc (.cells (evA e) 33)).heap.size (w.alloc (.cells (evA e) 33)) W → RM W M N (.slice sl xs.length c) xs ∧ Below w.heap.size w W ∧ At15 W w.heap.size 0 e := fun W b => ⟨hma.below b, below2 ba ba.size b, hat.below b⟩
  cases hA : mayE e with
  | false =>
    have h1 : askE N xs [e] = 2 := askE_arg (by rw [allM_one]; exact hA)
    have h2 : putX N xs e = xs := by unfold putX; rw [h1]; rfl
    rw [hA] at MY
    rw [h1, h2]
    clear hA h1 h2 hat
    unfold evA at *
    go_enter Tryd.func25, Tryd.ntmps25
    go_wp2_with (go_at_call 39; (with_reducible refine MY.mono ?_); rintro r w1 ⟨rfl, b1⟩)
    go_ret
    exact ⟨rfl, _, ⟨_, rfl, (HK _ b1).1⟩, Step.keep (.of_below (HK _ b1).2.1)⟩
  | true =>
    rw [hA] at MY
    by_cases hf : xs.length + 1 ≤ N
    · have h1 : askE N xs [e] = 0 := askE_ok (by rw [allM_one]; exact hA) (by simpa using hf)
      have h2 : putX N xs e = xs ++ [e] := by unfold putX; rw [h1]; rfl
      rw [h1, h2]
      have hq : ¬ ((N : Int) ≤ (xs.length : Int)) := by omega
      have hq2 : ¬ (N ≤ xs.length) := by omega
      have hmx : Tryd.prog.follows .mixedOrders = true := by kernel_rfl
      clear hA h1 h2 hat hf
      unfold evA at *
      go_enter Tryd.func25, Tryd.ntmps25
      go_upto_region 3 with (go_at_call 39; (with_reducible refine MY.mono ?_); rintro r w1 ⟨rfl, b1⟩)
      obtain ⟨k1, bw, a1⟩ := HK _ b1
      have d0 := k1.c0
      have d1 := k1.c1
      clear HK MY b1
      go_quiet (fail)
      go_upto_region 5 with fail
      have k2 := k1.keep ((But.refl [] w1).drewN nq)
      have a2 : At15 (w1.drewN nq) w.heap.size 0 e := a1
      have bw2 := below_drewN bw nq
      clear d0 d1 k1 a1 bw
      generalize w1.drewN nq = W at *
      have s4 : Step (bks M (.slice sl xs.length c)) w (bks M (.slice sl xs.length c)) W := Step.keep (.of_below bw2)
      have OW1 := (owE_none W).drew
      have OW2 := ((owE_none W).alloc (.cells (evA e) 33)).drew
      have OW3 : OwE ((W.alloc (.cells (evA e) 33)).alloc (.cells #[] 33)).drew W.heap.size (.slice (some ⟨W.heap.size + 1, 0, none⟩) 0 0) [] := by
        have := (owE_none (W.alloc (.cells (evA e) 33))).lower (B := W.heap.size) (by simp)
        rw [World.size_alloc] at this
        exact this.drew
      have B1 : But [] W (W.alloc (.cells #[] 33)).drew := ((But.refl [] W).alloc _).drew
      have B2 : But [] W ((W.alloc (.cells #[] 33)).alloc (.cells (evA e) 33)).drew := (((But.refl [] W).alloc _).alloc _).drew
      have B0 : But [] W (W.alloc (.cells (evA e) 33)).drew := ((But.refl [] W).alloc _).drew
      have B3 : But [] W ((W.alloc (.cells (evA e) 33)).alloc (.cells #[] 33)).drew := (((But.refl [] W).alloc _).alloc _).drew
      have T2 : EV ((W.alloc (.cells #[] 33)).alloc (.cells (evA e) 33)).drew (some ⟨W.heap.size + 1, 0, none⟩) [e] := by
        have := ev_one (W.alloc (.cells #[] 33)) e
        rw [World.size_alloc] at this
        exact this.keep (But.refl [] _).drew
      have T3 : EV ((W.alloc (.cells (evA e) 33)).alloc (.cells #[] 33)).drew (some ⟨W.heap.size, 0, none⟩) [e] := (ev_one W e).keep ((But.refl [] _).alloc _).drew
      have KS : ∀ w1, But [] W w1 → w1.cell? ⟨M, 1, none⟩ = some (.slice sl xs.length c) ∧ At15 w1 w.heap.size 0 e := fun w1 hb => ⟨hb.cell k2.c1, a2.but hb (by simp)⟩
      have HF : ∀ w1, But [] W w1 → w1.frozen? ⟨M, 1, none⟩ = false := fun w1 hb => (k2.keep hb).fb 1
      have hrv := k2.h.ev_.2.2
      have hmu := fun w2 v' ys (hb : But [] W w2) => k2.fresh (w2 := w2) (v' := v') (ys := ys) hb.to_below
      refine wp_region_K 12 (fun w' => w'.cell? ⟨M, 1, none⟩ = some (.slice sl xs.length c) ∧ At15 w' w.heap.size 0 e) hmx (by kernel_rfl) (KS _ (But.refl [] W).drew) (fun hHeld hdep => ?_)
      refine wpAnyK_take (i := 0) (v := ?_) (some 18) rfl rfl hdep (by kernel_rfl) (fun _ _ _ h => h) (Or.inl ⟨by rfl, ?_⟩) hHeld ?_
      rotate_left
      · (intro w hSw; obtain ⟨z0, -⟩ := hSw; go_simp; all_goals with_reducible rfl)
      try simp only [Act.put, List.setIfInBounds_toArray, List.set_cons_zero, List.set_cons_succ]
      refine wpAnyK_take (i := 2) (v := ?_) (some 20) rfl rfl hdep (by kernel_rfl) (fun _ _ _ h => h) (Or.inl ⟨by rfl, ?_⟩) hHeld ?_
      rotate_left
      · (intro w hSw; obtain ⟨z0, -⟩ := hSw; go_simp; all_goals with_reducible rfl)
      try simp only [Act.put, List.setIfInBounds_toArray, List.set_cons_zero, List.set_cons_succ]
      refine wpAnyK_take (i := 3) (v := ?_) (some 21) rfl rfl hdep (by kernel_rfl) (fun _ _ _ h => h) (Or.inl ⟨by rfl, ?_⟩) hHeld ?_
      rotate_left
      · (intro w hSw; obtain ⟨z0, -⟩ := hSw; go_simp; all_goals with_reducible rfl)
      try simp only [Act.put, List.setIfInBounds_toArray, List.set_cons_zero, List.set_cons_succ]
      refine wpAnyK_take (i := 4) (v := ?_) (some 22) rfl rfl hdep (by kernel_rfl) (fun _ _ _ h => h) (Or.inl ⟨by rfl, ?_⟩) hHeld ?_
      rotate_left
      · (intro w hSw; obtain ⟨z0, -⟩ := hSw; go_simp; all_goals with_reducible rfl)
      try simp only [Act.put, List.setIfInBounds_toArray, List.set_cons_zero, List.set_cons_succ]
      refine wpAnyK_take (i := 5) (v := ?_) (some 23) rfl rfl hdep (by kernel_rfl) (fun _ _ _ h => h) (Or.inl ⟨by rfl, ?_⟩) hHeld ?_
      rotate_left
      · (intro w hSw; obtain ⟨z0, -⟩ := hSw; go_simp; all_goals with_reducible rfl)
      try simp only [Act.put, List.setIfInBounds_toArray, List.set_cons_zero, List.set_cons_succ]
      refine wpAnyK_take (i := 7) (v := .agg (evA e)) (some 25) rfl rfl hdep (by kernel_rfl) (fun _ _ _ h => h) (yieldsIf_load_mid (by rfl) 33 (.tmp 3) rfl w.heap.size 0 rfl (c15 e) _ (fun w1 hw1 => hw1.2) Tryd.underlying33 rfl size15r) hHeld ?_
      try simp only [Act.put, List.setIfInBounds_toArray, List.set_cons_zero, List.set_cons_succ]
      unfold evA at *
      refine wpAnyK_two (i := 1) (j := 8) (by kernel_rfl) rfl rfl (fun K hK => ?_) (fun K hK => ?_)
      · go_simp
        refine hK.out _ _ (fun _ => KS _ B1) ?_
        clear hK K
        try simp only [Act.put, List.setIfInBounds_toArray, List.set_cons_zero, List.set_cons_succ]
        refine wpAnyK_two (i := 6) (j := 8) (by kernel_rfl) rfl rfl (fun K hK => ?_) (fun K hK => ?_)
        · refine step_appE rfl (.tmp 19) (.tmp 23) rfl W.heap.size _ [] rfl OW1 _ _ _ xs rfl rfl (hrv.keep B1) (by simp; omega) (by simp [World.drew] <;> omega) ?_
          intro v2 w2 ho2 hg2 _
          rw [List.nil_append] at ho2
          have hb2 : But [] W w2 := B1.grown hg2 (fun k e => (by cases e; simp))
          obtain ⟨sa2, sc2, rfl⟩ := ho2.at_ (n := xs.length) rfl
          refine hK.out _ _ (fun _ => KS _ hb2) ?_
          clear hK K
          try simp only [Act.put, List.setIfInBounds_toArray, List.set_cons_zero, List.set_cons_succ]
          refine wpAnyK_one (i := 8) (by kernel_rfl) rfl (fun K hK => ?_)
          go_simp
          refine hK.out _ _ (fun _ => KS _ (hb2.alloc (.cells #[.int .i64 e.kd, .int .i64 e.ac, .int .i64 e.th, .int .i64 e.va, .int .i64 e.pg, .int .i64 e.pc, .int .i64 (e.rs 0), .int .i64 (e.rs 1), .int .i64 (e.rs 2), .int .i64 (e.rs 3), .int .i64 (e.rs 4), .int .i64 (e.rs 5), .int .i64 (e.rs 6), .int .i64 (e.rs 7), .int .i64 e.dp] 33))) ?_
          clear hK K
          try simp only [Act.put, List.setIfInBounds_toArray, List.set_cons_zero, List.set_cons_succ]
          refine wpAnyK_one (i := 9) (by kernel_rfl) rfl (fun K hK => ?_)
          refine step_appE rfl (.tmp 24) (.tmp 26) rfl W.heap.size _ xs rfl (ho2.alloc (.cells #[.int .i64 e.kd, .int .i64 e.ac, .int .i64 e.th, .int .i64 e.va, .int .i64 e.pg, .int .i64 e.pc, .int .i64 (e.rs 0), .int .i64 (e.rs 1), .int .i64 (e.rs 2), .int .i64 (e.rs 3), .int .i64 (e.rs 4), .int .i64 (e.rs 5), .int .i64 (e.rs 6), .int .i64 (e.rs 7), .int .i64 e.dp] 33)) _ _ _ [e] rfl rfl (ev_one w2 e) (by omega) (by have := hb2.size; first | omega | (simp; omega)) ?_
          intro v3 w3 ho3 hg3 _
          have hb3 : But [] W w3 := (hb2.alloc (.cells #[.int .i64 e.kd, .int .i64 e.ac, .int .i64 e.th, .int .i64 e.va, .int .i64 e.pg, .int .i64 e.pc, .int .i64 (e.rs 0), .int .i64 (e.rs 1), .int .i64 (e.rs 2), .int .i64 (e.rs 3), .int .i64 (e.rs 4), .int .i64 (e.rs 5), .int .i64 (e.rs 6), .int .i64 (e.rs 7), .int .i64 e.dp] 33)).grown hg3 (fun k e => (ho2.lt e).1)
          obtain ⟨sa3, sc3, rfl⟩ := ho3.at_ (n := xs.length + 1) (by simp)
          obtain ⟨g1, -⟩ := KS _ hb3
          have f1 := HF _ hb3
          refine hK.out _ _ (fun _ => KS _ hb3) ?_
          clear hK K
          try simp only [Act.put, List.setIfInBounds_toArray, List.set_cons_zero, List.set_cons_succ]
          refine wpAnyK_take (i := 10) (v := ?_) (some 28) rfl rfl hdep (by kernel_rfl) (fun _ _ _ h => h) (Or.inl ⟨by rfl, ?_⟩) (KS _ hb3) ?_
          rotate_left
          · (intro w hSw; obtain ⟨z0, -⟩ := hSw; go_simp; all_goals with_reducible rfl)
          try simp only [Act.put, List.setIfInBounds_toArray, List.set_cons_zero, List.set_cons_succ]
          refine wpAnyK_take (i := 11) (v := ?_) (some 29) rfl rfl hdep (by kernel_rfl) (fun _ _ _ h => h) (Or.inl ⟨by rfl, ?_⟩) (KS _ hb3) ?_
          rotate_left
          · (intro w hSw; obtain ⟨z0, -⟩ := hSw; go_simp; all_goals with_reducible rfl)
          try simp only [Act.put, List.setIfInBounds_toArray, List.set_cons_zero, List.set_cons_succ]
          refine wpAnyK_one (i := 12) (by kernel_rfl) rfl (fun K hK => ?_)
          go_simp
          refine hK.out _ _ (fun h => absurd rfl h) ?_
          clear hK K
          try simp only [Act.put, List.setIfInBounds_toArray, List.set_cons_zero, List.set_cons_succ]
          refine wpAnyK_done (by kernel_rfl) ?_
          obtain ⟨r1, r2, -, -⟩ := hmu _ _ _ hb3 ho3
          go_wp2_with fail
          go_ret
          exact ⟨rfl, _, ⟨_, rfl, r1⟩, s4.trans r2⟩
        · go_simp
          refine hK.out _ _ (fun _ => KS _ B2) ?_
          clear hK K
          try simp only [Act.put, List.setIfInBounds_toArray, List.set_cons_zero, List.set_cons_succ]
          refine wpAnyK_one (i := 6) (by kernel_rfl) rfl (fun K hK => ?_)
          refine step_appE rfl (.tmp 19) (.tmp 23) rfl W.heap.size _ [] rfl OW2 _ _ _ xs rfl rfl (hrv.keep B2) (by simp; omega) (by simp [World.drew] <;> omega) ?_
          intro v2 w2 ho2 hg2 _
          rw [List.nil_append] at ho2
          have hb2 : But [] W w2 := B2.grown hg2 (fun k e => (by cases e; simp))
          have TT := T2.grown hg2 (show some W.heap.size ≠ some (W.heap.size + 1) by simp) (by simp [World.drew])
          obtain ⟨sa2, sc2, rfl⟩ := ho2.at_ (n := xs.length) rfl
          refine hK.out _ _ (fun _ => KS _ hb2) ?_
          clear hK K
          try simp only [Act.put, List.setIfInBounds_toArray, List.set_cons_zero, List.set_cons_succ]
          refine wpAnyK_one (i := 9) (by kernel_rfl) rfl (fun K hK => ?_)
          refine step_appE rfl (.tmp 24) (.tmp 26) rfl W.heap.size _ xs rfl ho2 _ _ _ [e] rfl rfl TT (by omega) (by have := hb2.size; first | omega | (simp; omega)) ?_
          intro v3 w3 ho3 hg3 _
          have hb3 : But [] W w3 := hb2.grown hg3 (fun k e => (ho2.lt e).1)
          obtain ⟨sa3, sc3, rfl⟩ := ho3.at_ (n := xs.length + 1) (by simp)
          obtain ⟨g1, -⟩ := KS _ hb3
          have f1 := HF _ hb3
          refine hK.out _ _ (fun _ => KS _ hb3) ?_
          clear hK K
          try simp only [Act.put, List.setIfInBounds_toArray, List.set_cons_zero, List.set_cons_succ]
          refine wpAnyK_take (i := 10) (v := ?_) (some 28) rfl rfl hdep (by kernel_rfl) (fun _ _ _ h => h) (Or.inl ⟨by rfl, ?_⟩) (KS _ hb3) ?_
          rotate_left
          · (intro w hSw; obtain ⟨z0, -⟩ := hSw; go_simp; all_goals with_reducible rfl)
          try simp only [Act.put, List.setIfInBounds_toArray, List.set_cons_zero, List.set_cons_succ]
          refine wpAnyK_take (i := 11) (v := ?_) (some 29) rfl rfl hdep (by kernel_rfl) (fun _ _ _ h => h) (Or.inl ⟨by rfl, ?_⟩) (KS _ hb3) ?_
          rotate_left
          · (intro w hSw; obtain ⟨z0, -⟩ := hSw; go_simp; all_goals with_reducible rfl)
          try simp only [Act.put, List.setIfInBounds_toArray, List.set_cons_zero, List.set_cons_succ]
          refine wpAnyK_one (i := 12) (by kernel_rfl) rfl (fun K hK => ?_)
          go_simp
          refine hK.out _ _ (fun h => absurd rfl h) ?_
          clear hK K
          try simp only [Act.put, List.setIfInBounds_toArray, List.set_cons_zero, List.set_cons_succ]
          refine wpAnyK_done (by kernel_rfl) ?_
          obtain ⟨r1, r2, -, -⟩ := hmu _ _ _ hb3 ho3
          go_wp2_with fail
          go_ret
          exact ⟨rfl, _, ⟨_, rfl, r1⟩, s4.trans r2⟩
      · go_simp
        refine hK.out _ _ (fun _ => KS _ B0) ?_
        clear hK K
        try simp only [Act.put, List.setIfInBounds_toArray, List.set_cons_zero, List.set_cons_succ]
        refine wpAnyK_one (i := 1) (by kernel_rfl) rfl (fun K hK => ?_)
        go_simp
        refine hK.out _ _ (fun _ => KS _ B3) ?_
        clear hK K
        try simp only [Act.put, List.setIfInBounds_toArray, List.set_cons_zero, List.set_cons_succ]
        refine wpAnyK_one (i := 6) (by kernel_rfl) rfl (fun K hK => ?_)
        refine step_appE rfl (.tmp 19) (.tmp 23) rfl W.heap.size _ [] rfl OW3 _ _ _ xs rfl rfl (hrv.keep B3) (by simp; omega) (by simp [World.drew] <;> omega) ?_
        intro v2 w2 ho2 hg2 _
        rw [List.nil_append] at ho2
        have hb2 : But [] W w2 := B3.grown hg2 (fun k e => (by cases e; simp))
        have TT := T3.grown hg2 (show some (W.heap.size + 1) ≠ some W.heap.size by simp) (by simp [World.drew]; omega)
        obtain ⟨sa2, sc2, rfl⟩ := ho2.at_ (n := xs.length) rfl
        refine hK.out _ _ (fun _ => KS _ hb2) ?_
        clear hK K
        try simp only [Act.put, List.setIfInBounds_toArray, List.set_cons_zero, List.set_cons_succ]
        refine wpAnyK_one (i := 9) (by kernel_rfl) rfl (fun K hK => ?_)
        refine step_appE rfl (.tmp 24) (.tmp 26) rfl W.heap.size _ xs rfl ho2 _ _ _ [e] rfl rfl TT (by omega) (by have := hb2.size; first | omega | (simp; omega)) ?_
        intro v3 w3 ho3 hg3 _
        have hb3 : But [] W w3 := hb2.grown hg3 (fun k e => (ho2.lt e).1)
        obtain ⟨sa3, sc3, rfl⟩ := ho3.at_ (n := xs.length + 1) (by simp)
        obtain ⟨g1, -⟩ := KS _ hb3
        have f1 := HF _ hb3
        refine hK.out _ _ (fun _ => KS _ hb3) ?_
        clear hK K
        try simp only [Act.put, List.setIfInBounds_toArray, List.set_cons_zero, List.set_cons_succ]
        refine wpAnyK_take (i := 10) (v := ?_) (some 28) rfl rfl hdep (by kernel_rfl) (fun _ _ _ h => h) (Or.inl ⟨by rfl, ?_⟩) (KS _ hb3) ?_
        rotate_left
        · (intro w hSw; obtain ⟨z0, -⟩ := hSw; go_simp; all_goals with_reducible rfl)
        try simp only [Act.put, List.setIfInBounds_toArray, List.set_cons_zero, List.set_cons_succ]
        refine wpAnyK_take (i := 11) (v := ?_) (some 29) rfl rfl hdep (by kernel_rfl) (fun _ _ _ h => h) (Or.inl ⟨by rfl, ?_⟩) (KS _ hb3) ?_
        rotate_left
        · (intro w hSw; obtain ⟨z0, -⟩ := hSw; go_simp; all_goals with_reducible rfl)
        try simp only [Act.put, List.setIfInBounds_toArray, List.set_cons_zero, List.set_cons_succ]
        refine wpAnyK_one (i := 12) (by kernel_rfl) rfl (fun K hK => ?_)
        go_simp
        refine hK.out _ _ (fun h => absurd rfl h) ?_
        clear hK K
        try simp only [Act.put, List.setIfInBounds_toArray, List.set_cons_zero, List.set_cons_succ]
        refine wpAnyK_done (by kernel_rfl) ?_
        obtain ⟨r1, r2, -, -⟩ := hmu _ _ _ hb3 ho3
        go_wp2_with fail
        go_ret
        exact ⟨rfl, _, ⟨_, rfl, r1⟩, s4.trans r2⟩
    · have h1 : askE N xs [e] = 3 := askE_full (by rw [allM_one]; exact hA) (by simpa using hf)
      have h2 : putX N xs e = xs := by unfold putX; rw [h1]; rfl
      rw [h1, h2]
      have hq : (N : Int) ≤ (xs.length : Int) := by omega
      clear hA h1 h2 hat hf
      unfold evA at *
      go_enter Tryd.func25, Tryd.ntmps25
      go_upto_region 3 with (go_at_call 39; (with_reducible refine MY.mono ?_); rintro r w1 ⟨rfl, b1⟩)
      obtain ⟨k1, bw, a1⟩ := HK _ b1
      have d0 := k1.c0
      have d1 := k1.c1
      clear HK MY b1
      go_quiet (fail)
      go_wp2_with fail
      go_ret
      exact ⟨rfl, _, ⟨_, rfl, k1.keep ((But.refl [] w1).drewN _)⟩, Step.keep (.of_below (below_drewN bw _))⟩
end
end Go.Proofs.YtcffmdimfmpheaaDoor
