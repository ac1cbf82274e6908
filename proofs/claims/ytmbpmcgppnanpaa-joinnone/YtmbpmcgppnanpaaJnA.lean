/- The contract of the statements' act. -/
import Derived.Test.YtmbpmcgppnanpaaJnX
namespace Go.Proofs.Ytmbpmcgppnanpaa.Jn
open Go Go.RowKit Go.Proofs.Ytmbpmcgppnanpaa.Bs
open Go.Proofs.Ytmbpmcgppnanpaa.Ids (right indexI ageI idI rid_any)
set_option linter.unusedSimpArgs false

theorem Ok.endl {n : Nat} {σ : St} (h : Ok n σ) (id : Int) : (endL σ id).length ≤ 1024 := by
  unfold endL
  split
  · next e =>
    obtain ⟨i, -, hi, -, -, ea, -, -⟩ := h.st1 e
    rw [ea]
    exact h.qlen hi
  · exact Nat.zero_le _
section
variable {PL : World → Nat → List Nat → Nat → St → Prop} {W0 w w' : World} {B M n : Nat} {Q Q' R R' : List Nat} {σ σ' τ : St}
set_option maxRecDepth 100000 in
set_option maxHeartbeats 4000000 in
theorem act0 (S : Side PL) (h : Pr PL W0 w B Q M R n σ σ) (x : Ax) (hx : x.Ok) (hk : x.k = 0) :
    Calls Try.prog 10 #[.pointer (some ⟨B, 0, none⟩), .pointer (some ⟨M, 0, none⟩), .agg x.cells] w fun e w' => e = .returned (.bool true) ∧ ∃ Q' R', Pr PL W0 w' B Q' M R' n (startS σ x.id) (startS σ x.id) ∧ Step (Q ++ R) w (Q' ++ R') w' := by
  have hok := h.r.ok
  have hQ := h.outQ S (Nat.le_refl _)
  have hR := h.outR (Nat.le_refl _)
  have h1 := h.keep S ((But.refl [] w).alloc (.cells x.cells 29))
  have hA := At7.new w x
  have st1 : Step (Q ++ R) w (Q ++ R) (w.alloc (.cells x.cells 29)) := Step.keep ((But.refl [] w).alloc _)
  have hi := hx.id
  have ht := hx.t
  have J := ids_any x
  have C1 : ∀ X Q, PL X B Q n σ → _ := fun X Q h => S.start (w := X) (Q := Q) h hok x.id hi
  have C2 : ∀ X R, RQ X M R n σ → _ := fun X R h => start_any (w := X) (R := R) h x.id hi.2
  have CS : ∀ (wi : World) (T T' : List Nat), At7 wi w.heap.size x → wi.cell? ⟨w.heap.size, 0, none⟩ = some (.int .i64 x.k) ∧ wi.cell? ⟨w.heap.size, 6, none⟩ = some (.int .i64 x.v) := fun wi _ _ hA => ⟨hA.all.1, hA.all.2.2.2.2.2.2⟩
  obtain ⟨k, p, a, b, g, raw, v⟩ := x
  dsimp only at hk CS C1 C2
  subst hk
  generalize Ax.id ⟨0, p, a, b, g, raw, v⟩ = id at *
  generalize Ax.t ⟨0, p, a, b, g, raw, v⟩ = t at *
  clear h hok hi ht hx
  generalize startE σ id = y at *
  generalize startS σ id = s at *
  have e_y : (y == y) = true := by simp
  dsimp only [Ax.cells] at J st1 h1 hA ⊢
  go_enter Try.func10, Try.ntmps10
  go_wp2_with fail
  generalize w.alloc (.cells #[.int .i64 0, .int .i64 p, .int .i64 a, .int .i64 b, .int .i64 g, .bool raw, .int .i64 v] 29) = W1 at *
  go_wp2_with (first
    | (go_at_call 18; (with_reducible refine (J _).mono ?_); rintro e wi ⟨rfl, hbi⟩; have hAi := hA.but (.of_below hbi) (List.not_mem_nil (a := w.heap.size)); have h2 := h1.keep S (.of_below hbi); have st2 := st1.trans (Step.keep (.of_below hbi)); obtain ⟨c0, c6⟩ := CS _ [] [] hAi; clear h1 hA st1 hbi)
    | (go_at_call 12; (with_reducible refine (C1 _ _ h2.a).mono ?_); rintro e w2 ⟨rfl, Q2, a2, s2⟩; have h3 := h2.left a2 s2)
    | (go_at_call 24; (with_reducible refine (C2 _ _ h3.r).mono ?_); rintro e w3 ⟨rfl, R3, r3, s3⟩; have h4 := h3.right S r3 s3))
  go_ret
  exact ⟨rfl, Q2, R3, h4, (st2.trans (s2.left R)).trans (s3.right Q2)⟩
set_option maxRecDepth 100000 in
set_option maxHeartbeats 4000000 in
theorem act2 (S : Side PL) (h : Pr PL W0 w B Q M R n σ σ) (x : Ax) (hx : x.Ok) (hk : x.k = 2) :
    Calls Try.prog 10 #[.pointer (some ⟨B, 0, none⟩), .pointer (some ⟨M, 0, none⟩), .agg x.cells] w fun e w' => e = .returned (.bool true) ∧ ∃ Q' R', Pr PL W0 w' B Q' M R' n (joinS σ x.id x.t) (joinS σ x.id x.t) ∧ Step (Q ++ R) w (Q' ++ R') w' := by
  have hok := h.r.ok
  have hQ := h.outQ S (Nat.le_refl _)
  have hR := h.outR (Nat.le_refl _)
  have h1 := h.keep S ((But.refl [] w).alloc (.cells x.cells 29))
  have hA := At7.new w x
  have st1 : Step (Q ++ R) w (Q ++ R) (w.alloc (.cells x.cells 29)) := Step.keep ((But.refl [] w).alloc _)
  have hi := hx.id
  have ht := hx.t
  have J := ids_any x
  have C1 : ∀ X Q, PL X B Q n σ → _ := fun X Q h => S.join (w := X) (Q := Q) h hok x.id x.t hi ht
  have C2 : ∀ X R, RQ X M R n σ → _ := fun X R h => join_any (w := X) (R := R) h x.id x.t hi.2 ht.2
  have CS : ∀ (wi : World) (T T' : List Nat), At7 wi w.heap.size x → wi.cell? ⟨w.heap.size, 0, none⟩ = some (.int .i64 x.k) ∧ wi.cell? ⟨w.heap.size, 6, none⟩ = some (.int .i64 x.v) := fun wi _ _ hA => ⟨hA.all.1, hA.all.2.2.2.2.2.2⟩
  obtain ⟨k, p, a, b, g, raw, v⟩ := x
  dsimp only at hk CS C1 C2
  subst hk
  generalize Ax.id ⟨2, p, a, b, g, raw, v⟩ = id at *
  generalize Ax.t ⟨2, p, a, b, g, raw, v⟩ = t at *
  clear h hok hi ht hx
  generalize joinV σ id t = z at *
  generalize joinB σ id t = u at *
  generalize joinE σ id t = y at *
  generalize joinS σ id t = s at *
  have e_z : (z == z) = true := by simp
  have e_u : (u == u) = true := by simp
  have e_y : (y == y) = true := by simp
  dsimp only [Ax.cells] at J st1 h1 hA ⊢
  go_enter Try.func10, Try.ntmps10
  go_wp2_with fail
  generalize w.alloc (.cells #[.int .i64 2, .int .i64 p, .int .i64 a, .int .i64 b, .int .i64 g, .bool raw, .int .i64 v] 29) = W1 at *
  go_wp2_with (first
    | (go_at_call 18; (with_reducible refine (J _).mono ?_); rintro e wi ⟨rfl, hbi⟩; have hAi := hA.but (.of_below hbi) (List.not_mem_nil (a := w.heap.size)); have h2 := h1.keep S (.of_below hbi); have st2 := st1.trans (Step.keep (.of_below hbi)); obtain ⟨c0, c6⟩ := CS _ [] [] hAi; clear h1 hA st1 hbi)
    | (go_at_call 13; (with_reducible refine (C1 _ _ h2.a).mono ?_); rintro e w2 ⟨rfl, Q2, a2, s2⟩; have h3 := h2.left a2 s2)
    | (go_at_call 25; (with_reducible refine (C2 _ _ h3.r).mono ?_); rintro e w3 ⟨rfl, R3, r3, s3⟩; have h4 := h3.right S r3 s3))
  go_ret
  exact ⟨rfl, Q2, R3, h4, (st2.trans (s2.left R)).trans (s3.right Q2)⟩
set_option maxRecDepth 100000 in
set_option maxHeartbeats 4000000 in
theorem act3 (S : Side PL) (h : Pr PL W0 w B Q M R n σ σ) (x : Ax) (hx : x.Ok) (hk : x.k = 3) :
    Calls Try.prog 10 #[.pointer (some ⟨B, 0, none⟩), .pointer (some ⟨M, 0, none⟩), .agg x.cells] w fun e w' => e = .returned (.bool true) ∧ ∃ Q' R', Pr PL W0 w' B Q' M R' n (dropS σ x.t) (dropS σ x.t) ∧ Step (Q ++ R) w (Q' ++ R') w' := by
  have hok := h.r.ok
  have hQ := h.outQ S (Nat.le_refl _)
  have hR := h.outR (Nat.le_refl _)
  have h1 := h.keep S ((But.refl [] w).alloc (.cells x.cells 29))
  have hA := At7.new w x
  have st1 : Step (Q ++ R) w (Q ++ R) (w.alloc (.cells x.cells 29)) := Step.keep ((But.refl [] w).alloc _)
  have hi := hx.id
  have ht := hx.t
  have J := ids_any x
  have C1 : ∀ X Q, PL X B Q n σ → _ := fun X Q h => S.drop (w := X) (Q := Q) h hok x.t ht
  have C2 : ∀ X R, RQ X M R n σ → _ := fun X R h => drop_any (w := X) (R := R) h x.t
  have CS : ∀ (wi : World) (T T' : List Nat), At7 wi w.heap.size x → wi.cell? ⟨w.heap.size, 0, none⟩ = some (.int .i64 x.k) ∧ wi.cell? ⟨w.heap.size, 6, none⟩ = some (.int .i64 x.v) := fun wi _ _ hA => ⟨hA.all.1, hA.all.2.2.2.2.2.2⟩
  obtain ⟨k, p, a, b, g, raw, v⟩ := x
  dsimp only at hk CS C1 C2
  subst hk
  generalize Ax.id ⟨3, p, a, b, g, raw, v⟩ = id at *
  generalize Ax.t ⟨3, p, a, b, g, raw, v⟩ = t at *
  clear h hok hi ht hx
  generalize dropB σ t = u at *
  generalize dropS σ t = s at *
  have e_u : (u == u) = true := by simp
  dsimp only [Ax.cells] at J st1 h1 hA ⊢
  go_enter Try.func10, Try.ntmps10
  go_wp2_with fail
  generalize w.alloc (.cells #[.int .i64 3, .int .i64 p, .int .i64 a, .int .i64 b, .int .i64 g, .bool raw, .int .i64 v] 29) = W1 at *
  go_wp2_with (first
    | (go_at_call 18; (with_reducible refine (J _).mono ?_); rintro e wi ⟨rfl, hbi⟩; have hAi := hA.but (.of_below hbi) (List.not_mem_nil (a := w.heap.size)); have h2 := h1.keep S (.of_below hbi); have st2 := st1.trans (Step.keep (.of_below hbi)); obtain ⟨c0, c6⟩ := CS _ [] [] hAi; clear h1 hA st1 hbi)
    | (go_at_call 21; (with_reducible refine (C1 _ _ h2.a).mono ?_); rintro e w2 ⟨rfl, Q2, a2, s2⟩; have h3 := h2.left a2 s2)
    | (go_at_call 26; (with_reducible refine (C2 _ _ h3.r).mono ?_); rintro e w3 ⟨rfl, R3, r3, s3⟩; have h4 := h3.right S r3 s3))
  go_ret
  exact ⟨rfl, Q2, R3, h4, (st2.trans (s2.left R)).trans (s3.right Q2)⟩
set_option maxRecDepth 100000 in
set_option maxHeartbeats 4000000 in
theorem act1 (S : Side PL) (h : Pr PL W0 w B Q M R n σ σ) (x : Ax) (hx : x.Ok) (hk : x.k = 1) :
    Calls Try.prog 10 #[.pointer (some ⟨B, 0, none⟩), .pointer (some ⟨M, 0, none⟩), .agg x.cells] w fun e w' => e = .returned (.bool true) ∧ ∃ Q' R', Pr PL W0 w' B Q' M R' n (endS σ x.id x.v) (endS σ x.id x.v) ∧ Step (Q ++ R) w (Q' ++ R') w' := by
  have hok := h.r.ok
  have hQ := h.outQ S (Nat.le_refl _)
  have hR := h.outR (Nat.le_refl _)
  have h1 := h.keep S ((But.refl [] w).alloc (.cells x.cells 29))
  have hA := At7.new w x
  have st1 : Step (Q ++ R) w (Q ++ R) (w.alloc (.cells x.cells 29)) := Step.keep ((But.refl [] w).alloc _)
  have hi := hx.id
  have ht := hx.t
  have J := ids_any x
  have hL := Ok.endl hok x.id
  have C1 : ∀ X Q, PL X B Q n σ → _ := fun X Q h => S.end_ (w := X) (Q := Q) h hok x.id x.v hi
  have C2 : ∀ X R, RQ X M R n σ → _ := fun X R h => end_any (w := X) (R := R) h x.id x.v hi.2
  have CS : ∀ (wi : World) (T T' : List Nat), At7 wi w.heap.size x → wi.cell? ⟨w.heap.size, 0, none⟩ = some (.int .i64 x.k) ∧ wi.cell? ⟨w.heap.size, 6, none⟩ = some (.int .i64 x.v) := fun wi _ _ hA => ⟨hA.all.1, hA.all.2.2.2.2.2.2⟩
  obtain ⟨k, p, a, b, g, raw, v⟩ := x
  dsimp only at hk CS C1 C2
  subst hk
  generalize Ax.id ⟨1, p, a, b, g, raw, v⟩ = id at *
  generalize Ax.t ⟨1, p, a, b, g, raw, v⟩ = t at *
  clear h hok hi ht hx
  generalize endE σ id = y at *
  generalize endL σ id = ls at *
  generalize endS σ id v = s at *
  have e_y : (y == y) = true := by simp
  dsimp only [Ax.cells] at J st1 h1 hA ⊢
  go_enter Try.func10, Try.ntmps10
  go_wp2_with fail
  generalize w.alloc (.cells #[.int .i64 1, .int .i64 p, .int .i64 a, .int .i64 b, .int .i64 g, .bool raw, .int .i64 v] 29) = W1 at *
  go_wp2_with (first
    | (go_at_call 18; (with_reducible refine (J _).mono ?_); rintro e wi ⟨rfl, hbi⟩; have hAi := hA.but (.of_below hbi) (List.not_mem_nil (a := w.heap.size)); have h2 := h1.keep S (.of_below hbi); have st2 := st1.trans (Step.keep (.of_below hbi)); obtain ⟨c0, c6⟩ := CS _ [] [] hAi; clear h1 hA st1 hbi)
    | (go_at_call 15; (with_reducible refine (C1 _ _ h2.a).mono ?_); rintro e w2 ⟨v1, rfl, r1, Q2, a2, s2, -⟩; have h3 := h2.left a2 s2; have k6 : w2.cell? ⟨w.heap.size, 6, none⟩ = some (.int .i64 v) := s2.but.cell' c6 hQ; obtain ⟨b1, d1, rfl⟩ := own_shape r1; have HRl := fun y hy => h2.r.lt y hy)
    | (go_at_call 20; (with_reducible refine (C2 _ _ h3.r).mono ?_); rintro e w3 ⟨v2, rfl, r2, R3, r3, s3⟩; have h4 := h3.right S r3 s3; replace r1 := r1.but s3.but HRl; obtain ⟨b2, d2, rfl, i2⟩ := r2; have i3 : IntsR w3 b2 ls := i2)
    | (go_at_call 16; (with_reducible refine (ints_any _ _ _ _ _ _ (by omega) r1.at i3).mono ?_); rintro e w4 ⟨rfl, hb4⟩))
  go_ret
  exact ⟨rfl, Q2, R3, h4.keep S (.of_below hb4), ((st2.trans (s2.left R)).trans (s3.right Q2)).trans (Step.keep (.of_below hb4))⟩
theorem act_no (S : Side PL) (h : Pr PL W0 w B Q M R n σ σ) (x : Ax) (k0 : x.k ≠ 0) (k1 : x.k ≠ 1) (k2 : x.k ≠ 2) (k3 : x.k ≠ 3) :
    Calls Try.prog 10 #[.pointer (some ⟨B, 0, none⟩), .pointer (some ⟨M, 0, none⟩), .agg x.cells] w fun e w' => e = .returned (.bool true) ∧ ∃ Q' R', Pr PL W0 w' B Q' M R' n σ σ ∧ Step (Q ++ R) w (Q' ++ R') w' := by
  have h1 := h.keep S ((But.refl [] w).alloc (.cells x.cells 29))
  have hA := At7.new w x
  have st1 : Step (Q ++ R) w (Q ++ R) (w.alloc (.cells x.cells 29)) := Step.keep ((But.refl [] w).alloc _)
  have J := ids_any x
  have CS : ∀ (wi : World) (T T' : List Nat), At7 wi w.heap.size x → wi.cell? ⟨w.heap.size, 0, none⟩ = some (.int .i64 x.k) ∧ wi.cell? ⟨w.heap.size, 6, none⟩ = some (.int .i64 x.v) := fun wi _ _ hA => ⟨hA.all.1, hA.all.2.2.2.2.2.2⟩
  obtain ⟨k, p, a, b, g, raw, v⟩ := x
  dsimp only at k0 k1 k2 k3 CS
  generalize Ax.id ⟨k, p, a, b, g, raw, v⟩ = id at *
  generalize Ax.t ⟨k, p, a, b, g, raw, v⟩ = t at *
  clear h
  dsimp only [Ax.cells] at J st1 h1 hA ⊢
  go_enter Try.func10, Try.ntmps10
  go_wp2_with fail
  generalize w.alloc (.cells #[.int .i64 k, .int .i64 p, .int .i64 a, .int .i64 b, .int .i64 g, .bool raw, .int .i64 v] 29) = W1 at *
  go_wp2_with (first
    | (go_at_call 18; (with_reducible refine (J _).mono ?_); rintro e wi ⟨rfl, hbi⟩; have hAi := hA.but (.of_below hbi) (List.not_mem_nil (a := w.heap.size)); have h2 := h1.keep S (.of_below hbi); have st2 := st1.trans (Step.keep (.of_below hbi)); obtain ⟨c0, c6⟩ := CS _ [] [] hAi; clear h1 hA st1 hbi))
  go_ret
  exact ⟨rfl, Q, R, h2, st2⟩
theorem act_any (S : Side PL) (h : Pr PL W0 w B Q M R n σ σ) (x : Ax) (hx : x.Ok) :
    Calls Try.prog 10 #[.pointer (some ⟨B, 0, none⟩), .pointer (some ⟨M, 0, none⟩), .agg x.cells] w fun e w' => e = .returned (.bool true) ∧ ∃ Q' R', Pr PL W0 w' B Q' M R' n (actS σ x) (actS σ x) ∧ Step (Q ++ R) w (Q' ++ R') w' := by
  unfold actS
  by_cases k0 : x.k = 0
  · rw [if_pos k0]
    exact act0 S h x hx k0
  rw [if_neg k0]
  by_cases k1 : x.k = 1
  · rw [if_pos k1]
    exact act1 S h x hx k1
  rw [if_neg k1]
  by_cases k2 : x.k = 2
  · rw [if_pos k2]
    exact act2 S h x hx k2
  rw [if_neg k2]
  by_cases k3 : x.k = 3
  · rw [if_pos k3]
    exact act3 S h x hx k3
  rw [if_neg k3]
  exact act_no S h x k0 k1 k2 k3
end
end Go.Proofs.Ytmbpmcgppnanpaa.Jn
