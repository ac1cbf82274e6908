/- Contract of the reference's Push. -/
import Derived.Test.YtpaedcknhlojkaaRefP
import Derived.Test.YtpaedcknhlojkaaTail
namespace Go.Proofs.Ytpaedcknhlojkaa
open Go.RowKit
set_option linter.unusedSimpArgs false

theorem Reads.grown {w w' : World} {row : Option Nat} {b o : Nat} {c : Nat} {xs : List Int} (h : Reads w (some ⟨b, o, none⟩) c xs) (hg : w.grownBy w' row) (hr : row ≠ some b) : Reads w' (some ⟨b, o, none⟩) c xs := by
  rcases h with ⟨e, _⟩ | ⟨ad, e, hc⟩
  · cases e
  · refine .inr ⟨ad, e, fun j x hx => ?_⟩
    have h1 := hc j x hx
    have hb : (ad.add j).block = b := by cases e; rw [WideShapes.add_plain]
    refine (World.cell?_of_block (hg.block _ (World.block_lt_of_cell? w _ h1) ?_)).trans h1
    rw [hb]
    exact fun e => hr e.symm

section
variable {w : World} {lo M LB N L : Nat} {ls : List (List Nat)}

set_option maxHeartbeats 4000000 in
theorem rpush_any (h : RL w lo M LB N L ls) (i t : Int) :
    Calls Try.prog 27 #[.pointer (some ⟨M, 0, none⟩), .int .i64 i, .int .i64 t] w fun e w' => e = .returned (.int .i64 (putE N L ls i t)) ∧ RL w' lo M LB N L (pushS N L ls i t) ∧ But [LB] w w' := by
  have HA := rmay_any h i t
  unfold pushS
  by_cases hz : putE N L ls i t = 0
  · rw [if_pos hz]
    rw [hz] at HA ⊢
    obtain ⟨k, b, rfl, rfl, hk, hb, hn⟩ := putE_zero h.ok hz
    clear hz
    rw [Int.toNat_natCast, Int.toNat_natCast]
    have hq := h.ok.at hk
    have hle := h.ok.short hq
    have hN := h.n
    have ho : Ok N L (ls.set k (lsI ls (k : Int) ++ [b])) := h.ok.put (post := []) (by simpa using hq) hb hn
    obtain ⟨a, c, hc, hr⟩ := h.row hq
    have c1 := h.c1
    have hlo := h.lo
    have hl := ints_len (lsI ls (k : Int))
    have Hl : Hid ((ints (lsI ls (k : Int))).length = (lsI ls (k : Int)).length) := hl
    have PT : ∀ w1 v', But [] w w1 → RowI w1 lo v' (ints (lsI ls (k : Int) ++ [b])) → RL (w1.setCell ⟨LB, k, none⟩ v') lo M LB N L (ls.set k (lsI ls (k : Int) ++ [b])) ∧ But [LB] w (w1.setCell ⟨LB, k, none⟩ v') := fun w1 v' hb hr => h.put hb hk hr ho
    have hk' : (k : Int) < (L : Int) := by omega
    have hk0 : (0 : Int) ≤ (k : Int) := by omega
    have HF : ∀ w1, But [] w w1 → w1.cell? ⟨M, 1, none⟩ = some (.slice (some ⟨LB, 0, none⟩) L L) ∧ w1.cell? ⟨LB, k, none⟩ = some (.slice a (lsI ls (k : Int)).length c) ∧ w1.frozen? ⟨LB, k, none⟩ = false := fun w1 hb => ⟨hb.cell c1, hb.cell hc, (h.keep hb).fz k⟩
    have eb : ints (lsI ls (k : Int) ++ [b]) = ints (lsI ls (k : Int)) ++ [(b : Int)] := by simp [ints]
    rw [eb] at PT
    clear eb hl hn hq ho
    generalize ls.set k (lsI ls (k : Int) ++ [b]) = ls' at *
    generalize lsI ls (k : Int) = q at *
    have OW1 := (own_none w).drew
    have OW2 := ((own_none w).alloc (.cells #[.int .i64 (b : Int)] 3)).drew
    have OW3 : (((w.alloc (.cells #[.int .i64 (b : Int)] 3)).alloc (.cells #[] 3)).drew).ownsRow w.heap.size 3 1 (.slice (some ⟨w.heap.size + 1, 0, none⟩) 0 0) 0 (([] : List Int).map (Value.int .i64)) := by
      have := row_lower (own_none (w.alloc (.cells #[.int .i64 (b : Int)] 3))) (b := w.heap.size) (by simp)
      rw [World.size_alloc] at this
      exact this.drew
    have B1 : But [] w (w.alloc (.cells #[] 3)).drew := ((But.refl [] w).alloc _).drew
    have B2 : But [] w ((w.alloc (.cells #[] 3)).alloc (.cells #[.int .i64 (b : Int)] 3)).drew := (((But.refl [] w).alloc _).alloc _).drew
    have B3 : But [] w ((w.alloc (.cells #[.int .i64 (b : Int)] 3)).alloc (.cells #[] 3)).drew := (((But.refl [] w).alloc _).alloc _).drew
    have T2 : Reads ((w.alloc (.cells #[] 3)).alloc (.cells #[.int .i64 (b : Int)] 3)).drew (some ⟨w.heap.size + 1, 0, none⟩) 1 [(b : Int)] := by
      have := reads_one (w.alloc (.cells #[] 3)) (b : Int)
      rw [World.size_alloc] at this
      exact this
    have T3 : Reads ((w.alloc (.cells #[.int .i64 (b : Int)] 3)).alloc (.cells #[] 3)).drew (some ⟨w.heap.size, 0, none⟩) 1 [(b : Int)] := (reads_one w (b : Int)).but ((But.refl [] _).alloc _).drew
    go_enter Try.func27, Try.ntmps27
    go_wp2_with (first
      | (go_at_call 45; refine HA.mono ?_; rintro e w' ⟨rfl, hw⟩; subst w'))
    have hmx : Try.prog.follows .mixedOrders = true := by kernel_rfl
    have KS : ∀ w1, But [] w w1 → w1.cell? ⟨M, 1, none⟩ = some (.slice (some ⟨LB, 0, none⟩) L L) ∧ w1.cell? ⟨LB, k, none⟩ = some (.slice a q.length c) := fun w1 hb => ⟨(HF w1 hb).1, (HF w1 hb).2.1⟩
    refine wp_region_K 18 (fun w' => w'.cell? ⟨M, 1, none⟩ = some (.slice (some ⟨LB, 0, none⟩) L L) ∧ w'.cell? ⟨LB, k, none⟩ = some (.slice a q.length c)) hmx (by kernel_rfl) ⟨c1, hc⟩ (fun hHeld hdep => ?_)
    refine wpAnyK_take (i := 0) (v := ?_) (some 15) rfl rfl hdep (by kernel_rfl) (fun _ _ _ h => h) (Or.inl ⟨by rfl, ?_⟩) hHeld ?_
    rotate_left
    · (intro w hSw; go_simp; all_goals with_reducible rfl)
    try simp only [Act.put, List.setIfInBounds_toArray, List.set_cons_zero, List.set_cons_succ]
    refine wpAnyK_take (i := 1) (v := ?_) (some 16) rfl rfl hdep (by kernel_rfl) (fun _ _ _ h => h) (Or.inl ⟨by rfl, ?_⟩) hHeld ?_
    rotate_left
    · (intro w hSw; go_simp; all_goals with_reducible rfl)
    try simp only [Act.put, List.setIfInBounds_toArray, List.set_cons_zero, List.set_cons_succ]
    refine wpAnyK_take (i := 2) (v := ?_) (some 17) rfl rfl hdep (by kernel_rfl) (fun _ _ _ h => h) (Or.inl ⟨by rfl, ?_⟩) hHeld ?_
    rotate_left
    · (intro w hSw; go_simp; all_goals with_reducible rfl)
    try simp only [Act.put, List.setIfInBounds_toArray, List.set_cons_zero, List.set_cons_succ]
    refine wpAnyK_take (i := 3) (v := ?_) (some 18) rfl rfl hdep (by kernel_rfl) (fun _ _ _ h => h) (Or.inl ⟨by rfl, ?_⟩) hHeld ?_
    rotate_left
    · (intro w hSw; go_simp; all_goals with_reducible rfl)
    try simp only [Act.put, List.setIfInBounds_toArray, List.set_cons_zero, List.set_cons_succ]
    refine wpAnyK_take (i := 4) (v := ?_) (some 19) rfl rfl hdep (by kernel_rfl) (fun _ _ _ h => h) (Or.inl ⟨by rfl, ?_⟩) hHeld ?_
    rotate_left
    · (intro w hSw; go_simp; all_goals with_reducible rfl)
    try simp only [Act.put, List.setIfInBounds_toArray, List.set_cons_zero, List.set_cons_succ]
    refine wpAnyK_take (i := 6) (v := ?_) (some 21) rfl rfl hdep (by kernel_rfl) (fun _ _ _ h => h) (Or.inl ⟨by rfl, ?_⟩) hHeld ?_
    rotate_left
    · (intro w hSw; go_simp; all_goals with_reducible rfl)
    try simp only [Act.put, List.setIfInBounds_toArray, List.set_cons_zero, List.set_cons_succ]
    refine wpAnyK_take (i := 7) (v := ?_) (some 22) rfl rfl hdep (by kernel_rfl) (fun _ _ _ h => h) (Or.inl ⟨by rfl, ?_⟩) hHeld ?_
    rotate_left
    · (intro w hSw; go_simp; all_goals with_reducible rfl)
    try simp only [Act.put, List.setIfInBounds_toArray, List.set_cons_zero, List.set_cons_succ]
    refine wpAnyK_take (i := 8) (v := ?_) (some 23) rfl rfl hdep (by kernel_rfl) (fun _ _ _ h => h) (Or.inl ⟨by rfl, ?_⟩) hHeld ?_
    rotate_left
    · (intro w hSw; go_simp; all_goals with_reducible rfl)
    try simp only [Act.put, List.setIfInBounds_toArray, List.set_cons_zero, List.set_cons_succ]
    refine wpAnyK_take (i := 9) (v := ?_) (some 24) rfl rfl hdep (by kernel_rfl) (fun _ _ _ h => h) (Or.inl ⟨by rfl, ?_⟩) hHeld ?_
    rotate_left
    · (intro w hSw; go_simp; all_goals with_reducible rfl)
    try simp only [Act.put, List.setIfInBounds_toArray, List.set_cons_zero, List.set_cons_succ]
    refine wpAnyK_take (i := 10) (v := ?_) (some 25) rfl rfl hdep (by kernel_rfl) (fun _ _ _ h => h) (Or.inl ⟨by rfl, ?_⟩) hHeld ?_
    rotate_left
    · (intro w hSw; go_simp; all_goals with_reducible rfl)
    try simp only [Act.put, List.setIfInBounds_toArray, List.set_cons_zero, List.set_cons_succ]
    refine wpAnyK_take (i := 11) (v := ?_) (some 26) rfl rfl hdep (by kernel_rfl) (fun _ _ _ h => h) (Or.inl ⟨by rfl, ?_⟩) hHeld ?_
    rotate_left
    · (intro w hSw; go_simp; all_goals with_reducible rfl)
    try simp only [Act.put, List.setIfInBounds_toArray, List.set_cons_zero, List.set_cons_succ]
    refine wpAnyK_take (i := 12) (v := ?_) (some 27) rfl rfl hdep (by kernel_rfl) (fun _ _ _ h => h) (Or.inl ⟨by rfl, ?_⟩) hHeld ?_
    rotate_left
    · (intro w hSw; go_simp; all_goals with_reducible rfl)
    try simp only [Act.put, List.setIfInBounds_toArray, List.set_cons_zero, List.set_cons_succ]
    refine wpAnyK_take (i := 14) (v := ?_) (some 29) rfl rfl hdep (by kernel_rfl) (fun _ _ _ h => h) (Or.inl ⟨by rfl, ?_⟩) hHeld ?_
    rotate_left
    · (intro w hSw; go_simp; all_goals with_reducible rfl)
    try simp only [Act.put, List.setIfInBounds_toArray, List.set_cons_zero, List.set_cons_succ]
    refine wpAnyK_two (i := 5) (j := 15) (by kernel_rfl) rfl rfl (fun K hK => ?_) (fun K hK => ?_)
    · go_simp
      refine hK.out _ _ (fun _ => KS _ B1) ?_
      clear hK K
      try simp only [Act.put, List.setIfInBounds_toArray, List.set_cons_zero, List.set_cons_succ]
      refine wpAnyK_two (i := 13) (j := 15) (by kernel_rfl) rfl rfl (fun K hK => ?_) (fun K hK => ?_)
      · refine step_app rfl (.tmp 20) (.tmp 27) rfl w.heap.size _ 0 [] rfl OW1 _ _ _ (ints q) rfl Hl.out (hr.reads.but B1) (by omega) (by simp [World.drew] <;> omega) ?_
        intro v2 w2 ho2 hg2
        rw [Nat.zero_add, List.nil_append] at ho2
        have hb2 : But [] w w2 := B1.grown hg2 (fun k e => by cases e; simp)
        obtain ⟨sa2, sc2, rfl⟩ := own_shape ho2
        refine hK.out _ _ (fun _ => KS _ hb2) ?_
        clear hK K
        try simp only [Act.put, List.setIfInBounds_toArray, List.set_cons_zero, List.set_cons_succ]
        refine wpAnyK_one (i := 15) (by kernel_rfl) rfl (fun K hK => ?_)
        go_simp
        refine hK.out _ _ (fun _ => KS _ (hb2.alloc _)) ?_
        clear hK K
        try simp only [Act.put, List.setIfInBounds_toArray, List.set_cons_zero, List.set_cons_succ]
        refine wpAnyK_one (i := 16) (by kernel_rfl) rfl (fun K hK => ?_)
        refine step_app rfl (.tmp 28) (.tmp 30) rfl w.heap.size _ q.length (ints q) rfl (ho2.alloc _) _ _ _ [(b : Int)] rfl rfl (reads_one w2 (b : Int)) (by omega) (by have := hb2.size; first | omega | (simp; omega)) ?_
        intro v3 w3 ho3 hg3
        have hb3 : But [] w w3 := (hb2.alloc _).grown hg3 (fun k e => (ho2.lt k e).1)
        obtain ⟨sa3, sc3, rfl⟩ := own_shape ho3
        obtain ⟨g1, g2, g3⟩ := HF _ hb3
        refine hK.out _ _ (fun _ => KS _ hb3) ?_
        clear hK K
        try simp only [Act.put, List.setIfInBounds_toArray, List.set_cons_zero, List.set_cons_succ]
        refine wpAnyK_take (i := 17) (v := ?_) (some 32) rfl rfl hdep (by kernel_rfl) (fun _ _ _ h => h) (Or.inl ⟨by rfl, ?_⟩) (KS _ hb3) ?_
        rotate_left
        · (intro w hSw; go_simp; all_goals with_reducible rfl)
        try simp only [Act.put, List.setIfInBounds_toArray, List.set_cons_zero, List.set_cons_succ]
        refine wpAnyK_one (i := 18) (by kernel_rfl) rfl (fun K hK => ?_)
        go_simp
        refine hK.out _ _ (fun h => absurd rfl h) ?_
        clear hK K
        try simp only [Act.put, List.setIfInBounds_toArray, List.set_cons_zero, List.set_cons_succ]
        refine wpAnyK_done (by kernel_rfl) ?_
        go_wp2_with fail
        go_ret
        have R3 : RowI w3 lo (.slice sa3 (q.length + 1) sc3) (ints q ++ [(b : Int)]) := by
          unfold RowI
          rw [List.length_append, Hl.out]
          exact row_lower ho3 hlo
        obtain ⟨r1, r2⟩ := PT _ _ hb3 R3
        exact ⟨rfl, r1, r2⟩
      · go_simp
        refine hK.out _ _ (fun _ => KS _ B2) ?_
        clear hK K
        try simp only [Act.put, List.setIfInBounds_toArray, List.set_cons_zero, List.set_cons_succ]
        refine wpAnyK_one (i := 13) (by kernel_rfl) rfl (fun K hK => ?_)
        refine step_app rfl (.tmp 20) (.tmp 27) rfl w.heap.size _ 0 [] rfl OW2 _ _ _ (ints q) rfl Hl.out (hr.reads.but B2) (by omega) (by simp [World.drew] <;> omega) ?_
        intro v2 w2 ho2 hg2
        rw [Nat.zero_add, List.nil_append] at ho2
        have hb2 : But [] w w2 := B2.grown hg2 (fun k e => by cases e; simp)
        have TT := T2.grown hg2 (show some w.heap.size ≠ some (w.heap.size + 1) by simp)
        obtain ⟨sa2, sc2, rfl⟩ := own_shape ho2
        refine hK.out _ _ (fun _ => KS _ hb2) ?_
        clear hK K
        try simp only [Act.put, List.setIfInBounds_toArray, List.set_cons_zero, List.set_cons_succ]
        refine wpAnyK_one (i := 16) (by kernel_rfl) rfl (fun K hK => ?_)
        refine step_app rfl (.tmp 28) (.tmp 30) rfl w.heap.size _ q.length (ints q) rfl ho2 _ _ _ [(b : Int)] rfl rfl TT (by omega) (by have := hb2.size; first | omega | (simp; omega)) ?_
        intro v3 w3 ho3 hg3
        have hb3 : But [] w w3 := hb2.grown hg3 (fun k e => (ho2.lt k e).1)
        obtain ⟨sa3, sc3, rfl⟩ := own_shape ho3
        obtain ⟨g1, g2, g3⟩ := HF _ hb3
        refine hK.out _ _ (fun _ => KS _ hb3) ?_
        clear hK K
        try simp only [Act.put, List.setIfInBounds_toArray, List.set_cons_zero, List.set_cons_succ]
        refine wpAnyK_take (i := 17) (v := ?_) (some 32) rfl rfl hdep (by kernel_rfl) (fun _ _ _ h => h) (Or.inl ⟨by rfl, ?_⟩) (KS _ hb3) ?_
        rotate_left
        · (intro w hSw; go_simp; all_goals with_reducible rfl)
        try simp only [Act.put, List.setIfInBounds_toArray, List.set_cons_zero, List.set_cons_succ]
        refine wpAnyK_one (i := 18) (by kernel_rfl) rfl (fun K hK => ?_)
        go_simp
        refine hK.out _ _ (fun h => absurd rfl h) ?_
        clear hK K
        try simp only [Act.put, List.setIfInBounds_toArray, List.set_cons_zero, List.set_cons_succ]
        refine wpAnyK_done (by kernel_rfl) ?_
        go_wp2_with fail
        go_ret
        have R3 : RowI w3 lo (.slice sa3 (q.length + 1) sc3) (ints q ++ [(b : Int)]) := by
          unfold RowI
          rw [List.length_append, Hl.out]
          exact row_lower ho3 hlo
        obtain ⟨r1, r2⟩ := PT _ _ hb3 R3
        exact ⟨rfl, r1, r2⟩
    · go_simp
      refine hK.out _ _ (fun _ => KS _ (((But.refl [] w).alloc _).drew)) ?_
      clear hK K
      try simp only [Act.put, List.setIfInBounds_toArray, List.set_cons_zero, List.set_cons_succ]
      refine wpAnyK_one (i := 5) (by kernel_rfl) rfl (fun K hK => ?_)
      go_simp
      refine hK.out _ _ (fun _ => KS _ B3) ?_
      clear hK K
      try simp only [Act.put, List.setIfInBounds_toArray, List.set_cons_zero, List.set_cons_succ]
      refine wpAnyK_one (i := 13) (by kernel_rfl) rfl (fun K hK => ?_)
      refine step_app rfl (.tmp 20) (.tmp 27) rfl w.heap.size _ 0 [] rfl OW3 _ _ _ (ints q) rfl Hl.out (hr.reads.but B3) (by omega) (by simp [World.drew] <;> omega) ?_
      intro v2 w2 ho2 hg2
      rw [Nat.zero_add, List.nil_append] at ho2
      have hb2 : But [] w w2 := B3.grown hg2 (fun k e => by cases e; simp)
      have TT := T3.grown hg2 (show some (w.heap.size + 1) ≠ some w.heap.size by simp)
      obtain ⟨sa2, sc2, rfl⟩ := own_shape ho2
      refine hK.out _ _ (fun _ => KS _ hb2) ?_
      clear hK K
      try simp only [Act.put, List.setIfInBounds_toArray, List.set_cons_zero, List.set_cons_succ]
      refine wpAnyK_one (i := 16) (by kernel_rfl) rfl (fun K hK => ?_)
      refine step_app rfl (.tmp 28) (.tmp 30) rfl w.heap.size _ q.length (ints q) rfl ho2 _ _ _ [(b : Int)] rfl rfl TT (by omega) (by have := hb2.size; first | omega | (simp; omega)) ?_
      intro v3 w3 ho3 hg3
      have hb3 : But [] w w3 := hb2.grown hg3 (fun k e => (ho2.lt k e).1)
      obtain ⟨sa3, sc3, rfl⟩ := own_shape ho3
      obtain ⟨g1, g2, g3⟩ := HF _ hb3
      refine hK.out _ _ (fun _ => KS _ hb3) ?_
      clear hK K
      try simp only [Act.put, List.setIfInBounds_toArray, List.set_cons_zero, List.set_cons_succ]
      refine wpAnyK_take (i := 17) (v := ?_) (some 32) rfl rfl hdep (by kernel_rfl) (fun _ _ _ h => h) (Or.inl ⟨by rfl, ?_⟩) (KS _ hb3) ?_
      rotate_left
      · (intro w hSw; go_simp; all_goals with_reducible rfl)
      try simp only [Act.put, List.setIfInBounds_toArray, List.set_cons_zero, List.set_cons_succ]
      refine wpAnyK_one (i := 18) (by kernel_rfl) rfl (fun K hK => ?_)
      go_simp
      refine hK.out _ _ (fun h => absurd rfl h) ?_
      clear hK K
      try simp only [Act.put, List.setIfInBounds_toArray, List.set_cons_zero, List.set_cons_succ]
      refine wpAnyK_done (by kernel_rfl) ?_
      go_wp2_with fail
      go_ret
      have R3 : RowI w3 lo (.slice sa3 (q.length + 1) sc3) (ints q ++ [(b : Int)]) := by
        unfold RowI
        rw [List.length_append, Hl.out]
        exact row_lower ho3 hlo
      obtain ⟨r1, r2⟩ := PT _ _ hb3 R3
      exact ⟨rfl, r1, r2⟩
  · rw [if_neg hz]
    generalize putE N L ls i t = e at *
    have hz' : (e == 0) = false := by simpa using hz
    go_enter Try.func27, Try.ntmps27
    go_wp2_with (first
      | (go_at_call 45; refine HA.mono ?_; rintro e w' ⟨rfl, hw⟩; subst w'))
    go_ret
    exact ⟨rfl, h, But.refl _ _⟩
end

end Go.Proofs.Ytpaedcknhlojkaa
