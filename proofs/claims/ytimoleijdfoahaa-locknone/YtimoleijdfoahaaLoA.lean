/- The contract of the statements' act: locks of the program's and the document's, alike. -/
import Derived.Test.YtimoleijdfoahaaLoX
namespace Go.Proofs.Ytimoleijdfoahaa.Lo
open Go Go.RowKit Go.Proofs.Ytimoleijdfoahaa.Bs
open Go.Proofs.Ytimoleijdfoahaa.Lk (inN inN_of inN_out ints ints_iv ints_len iv)

theorem castL_len (c : Nat) : ∀ (k : Nat) (σ : St), (castK c k σ).1.length ≤ k
  | 0, _ => by simp [castK]
  | k + 1, σ => by
    have := castL_len c k (sgS σ c)
    unfold castK
    dsimp only
    split
    · omega
    · simp
      omega
theorem cast_len {n T : Nat} {σ : St} (h : Ok n T σ) (c : Int) : (castL σ c).length ≤ 1024 := by
  unfold castL
  split
  · next e =>
    obtain ⟨k, rfl, hk⟩ := inO_out h e
    have := castL_len k (S σ k).length σ
    have := h.slen hk
    rw [Int.toNat_natCast]
    omega
  · simp
theorem drop_len {n T : Nat} {σ : St} (h : Ok n T σ) (t : Int) : (dropL σ t).length ≤ 64 := by
  unfold dropL
  split
  · have := dpL_len (σ := rm σ t.toNat) t.toNat σ.own.length
    have := h.ol
    have := h.n2
    omega
  · simp
theorem ints_two {w : World} {v u : Value} {xs : List Int} (hn : xs.length ≤ 4096) (h1 : Rd w v xs) (h2 : Rd w u xs) : Calls Try.prog 21 #[v, u] w fun e w' => e = .returned (.bool true) ∧ Below w.heap.size w w' := by
  obtain ⟨a, c, rfl, ha⟩ := h1
  obtain ⟨b, d, rfl, hb⟩ := h2
  exact ints_any a b c d xs w hn ha hb
section
variable {PL : World → Nat → List Nat → Nat → Nat → St → Prop} {W0 w w' : World} {B M n T : Nat} {Q Q' R R' : List Nat} {σ σ' τ : St}
set_option maxRecDepth 100000 in
set_option maxHeartbeats 4000000 in
theorem act0 (S : Side PL) (h : Pr PL W0 w B Q M R n T σ σ) (o c t : Int) :
    Calls Try.prog 11 #[.pointer (some ⟨B, 0, none⟩), .pointer (some ⟨M, 0, none⟩), .agg #[.int .i64 0, .int .i64 o, .int .i64 c, .int .i64 t]] w fun e w' => e = .returned (.bool true) ∧ ∃ Q' R', Pr PL W0 w' B Q' M R' n T (lockS σ o t) (lockS σ o t) ∧ Step (Q ++ R) w (Q' ++ R') w' := by
  have hok := h.r.ok
  have hQ := h.outQ S (Nat.le_refl _)
  have hR := h.outR (Nat.le_refl _)
  have h1 := h.keep S ((But.refl [] w).alloc (.cells #[.int .i64 0, .int .i64 o, .int .i64 c, .int .i64 t] 30))
  obtain ⟨c0, c1, c2, c3⟩ := At4.new w 0 o c t
  have st1 : Step (Q ++ R) w (Q ++ R) (w.alloc (.cells #[.int .i64 0, .int .i64 o, .int .i64 c, .int .i64 t] 30)) := Step.keep ((But.refl [] w).alloc _)
  have C1 : ∀ X Q, PL X B Q n T σ → _ := fun X Q h => S.lock (w := X) (Q := Q) h hok o t
  have C2 : ∀ X R, RQ X M R n T σ → _ := fun X R h => lock_any (w := X) (R := R) h o t
  clear h hok
  generalize lockB σ o t = x at *
  generalize lockE σ o t = y at *
  generalize lockS σ o t = s at *
  have e_x : (x == x) = true := by simp
  have e_y : (y == y) = true := by simp
  go_enter Try.func11, Try.ntmps11
  go_wp2_with fail
  generalize w.alloc (.cells #[.int .i64 0, .int .i64 o, .int .i64 c, .int .i64 t] 30) = W1 at *
  go_wp2_with (first
    | (go_at_call 17; (with_reducible refine (C1 _ _ h1.a).mono ?_); rintro e w2 ⟨rfl, Q2, a2, s2⟩; have h2 := h1.left a2 s2; obtain ⟨d1, d2, d3⟩ : w2.cell? ⟨w.heap.size, 1, none⟩ = some (.int .i64 o) ∧ w2.cell? ⟨w.heap.size, 2, none⟩ = some (.int .i64 c) ∧ w2.cell? ⟨w.heap.size, 3, none⟩ = some (.int .i64 t) := ⟨s2.but.cell' c1 hQ, s2.but.cell' c2 hQ, s2.but.cell' c3 hQ⟩)
    | (go_at_call 27; (with_reducible refine (C2 _ _ h2.r).mono ?_); rintro e w3 ⟨rfl, R3, r3, s3⟩; have h3 := h2.right S r3 s3))
  go_ret
  exact ⟨rfl, Q2, R3, h3, (st1.trans (s2.left R)).trans (s3.right Q2)⟩
set_option maxRecDepth 100000 in
set_option maxHeartbeats 4000000 in
theorem act1 (S : Side PL) (h : Pr PL W0 w B Q M R n T σ σ) (o c t : Int) :
    Calls Try.prog 11 #[.pointer (some ⟨B, 0, none⟩), .pointer (some ⟨M, 0, none⟩), .agg #[.int .i64 1, .int .i64 o, .int .i64 c, .int .i64 t]] w fun e w' => e = .returned (.bool true) ∧ ∃ Q' R', Pr PL W0 w' B Q' M R' n T (unlS σ o t) (unlS σ o t) ∧ Step (Q ++ R) w (Q' ++ R') w' := by
  have hok := h.r.ok
  have hQ := h.outQ S (Nat.le_refl _)
  have hR := h.outR (Nat.le_refl _)
  have h1 := h.keep S ((But.refl [] w).alloc (.cells #[.int .i64 1, .int .i64 o, .int .i64 c, .int .i64 t] 30))
  obtain ⟨c0, c1, c2, c3⟩ := At4.new w 1 o c t
  have st1 : Step (Q ++ R) w (Q ++ R) (w.alloc (.cells #[.int .i64 1, .int .i64 o, .int .i64 c, .int .i64 t] 30)) := Step.keep ((But.refl [] w).alloc _)
  have C1 : ∀ X Q, PL X B Q n T σ → _ := fun X Q h => S.unlock (w := X) (Q := Q) h hok o t
  have C2 : ∀ X R, RQ X M R n T σ → _ := fun X R h => unlock_any (w := X) (R := R) h o t
  clear h hok
  generalize unlV σ o t = x at *
  generalize unlE σ o t = y at *
  generalize unlS σ o t = s at *
  have e_x : (x == x) = true := by simp
  have e_y : (y == y) = true := by simp
  go_enter Try.func11, Try.ntmps11
  go_wp2_with fail
  generalize w.alloc (.cells #[.int .i64 1, .int .i64 o, .int .i64 c, .int .i64 t] 30) = W1 at *
  go_wp2_with (first
    | (go_at_call 18; (with_reducible refine (C1 _ _ h1.a).mono ?_); rintro e w2 ⟨rfl, Q2, a2, s2⟩; have h2 := h1.left a2 s2; obtain ⟨d1, d2, d3⟩ : w2.cell? ⟨w.heap.size, 1, none⟩ = some (.int .i64 o) ∧ w2.cell? ⟨w.heap.size, 2, none⟩ = some (.int .i64 c) ∧ w2.cell? ⟨w.heap.size, 3, none⟩ = some (.int .i64 t) := ⟨s2.but.cell' c1 hQ, s2.but.cell' c2 hQ, s2.but.cell' c3 hQ⟩)
    | (go_at_call 28; (with_reducible refine (C2 _ _ h2.r).mono ?_); rintro e w3 ⟨rfl, R3, r3, s3⟩; have h3 := h2.right S r3 s3))
  go_ret
  exact ⟨rfl, Q2, R3, h3, (st1.trans (s2.left R)).trans (s3.right Q2)⟩
set_option maxRecDepth 100000 in
set_option maxHeartbeats 4000000 in
theorem act2 (S : Side PL) (h : Pr PL W0 w B Q M R n T σ σ) (o c t : Int) :
    Calls Try.prog 11 #[.pointer (some ⟨B, 0, none⟩), .pointer (some ⟨M, 0, none⟩), .agg #[.int .i64 2, .int .i64 o, .int .i64 c, .int .i64 t]] w fun e w' => e = .returned (.bool true) ∧ ∃ Q' R', Pr PL W0 w' B Q' M R' n T (waitS σ c o t) (waitS σ c o t) ∧ Step (Q ++ R) w (Q' ++ R') w' := by
  have hok := h.r.ok
  have hQ := h.outQ S (Nat.le_refl _)
  have hR := h.outR (Nat.le_refl _)
  have h1 := h.keep S ((But.refl [] w).alloc (.cells #[.int .i64 2, .int .i64 o, .int .i64 c, .int .i64 t] 30))
  obtain ⟨c0, c1, c2, c3⟩ := At4.new w 2 o c t
  have st1 : Step (Q ++ R) w (Q ++ R) (w.alloc (.cells #[.int .i64 2, .int .i64 o, .int .i64 c, .int .i64 t] 30)) := Step.keep ((But.refl [] w).alloc _)
  have C1 : ∀ X Q, PL X B Q n T σ → _ := fun X Q h => S.wait (w := X) (Q := Q) h hok c o t
  have C2 : ∀ X R, RQ X M R n T σ → _ := fun X R h => wait_any (w := X) (R := R) h c o t
  clear h hok
  generalize waitV σ c o t = x at *
  generalize waitE σ c o t = y at *
  generalize waitS σ c o t = s at *
  have e_x : (x == x) = true := by simp
  have e_y : (y == y) = true := by simp
  go_enter Try.func11, Try.ntmps11
  go_wp2_with fail
  generalize w.alloc (.cells #[.int .i64 2, .int .i64 o, .int .i64 c, .int .i64 t] 30) = W1 at *
  go_wp2_with (first
    | (go_at_call 19; (with_reducible refine (C1 _ _ h1.a).mono ?_); rintro e w2 ⟨rfl, Q2, a2, s2⟩; have h2 := h1.left a2 s2; obtain ⟨d1, d2, d3⟩ : w2.cell? ⟨w.heap.size, 1, none⟩ = some (.int .i64 o) ∧ w2.cell? ⟨w.heap.size, 2, none⟩ = some (.int .i64 c) ∧ w2.cell? ⟨w.heap.size, 3, none⟩ = some (.int .i64 t) := ⟨s2.but.cell' c1 hQ, s2.but.cell' c2 hQ, s2.but.cell' c3 hQ⟩)
    | (go_at_call 29; (with_reducible refine (C2 _ _ h2.r).mono ?_); rintro e w3 ⟨rfl, R3, r3, s3⟩; have h3 := h2.right S r3 s3))
  go_ret
  exact ⟨rfl, Q2, R3, h3, (st1.trans (s2.left R)).trans (s3.right Q2)⟩
set_option maxRecDepth 100000 in
set_option maxHeartbeats 4000000 in
theorem act3 (S : Side PL) (h : Pr PL W0 w B Q M R n T σ σ) (o c t : Int) :
    Calls Try.prog 11 #[.pointer (some ⟨B, 0, none⟩), .pointer (some ⟨M, 0, none⟩), .agg #[.int .i64 3, .int .i64 o, .int .i64 c, .int .i64 t]] w fun e w' => e = .returned (.bool true) ∧ ∃ Q' R', Pr PL W0 w' B Q' M R' n T (sigS σ c) (sigS σ c) ∧ Step (Q ++ R) w (Q' ++ R') w' := by
  have hok := h.r.ok
  have hQ := h.outQ S (Nat.le_refl _)
  have hR := h.outR (Nat.le_refl _)
  have h1 := h.keep S ((But.refl [] w).alloc (.cells #[.int .i64 3, .int .i64 o, .int .i64 c, .int .i64 t] 30))
  obtain ⟨c0, c1, c2, c3⟩ := At4.new w 3 o c t
  have st1 : Step (Q ++ R) w (Q ++ R) (w.alloc (.cells #[.int .i64 3, .int .i64 o, .int .i64 c, .int .i64 t] 30)) := Step.keep ((But.refl [] w).alloc _)
  have C1 : ∀ X Q, PL X B Q n T σ → _ := fun X Q h => S.signal (w := X) (Q := Q) h hok c
  have C2 : ∀ X R, RQ X M R n T σ → _ := fun X R h => signal_any (w := X) (R := R) h c
  clear h hok
  generalize sigV σ c = x at *
  generalize sigE σ c = y at *
  generalize sigS σ c = s at *
  have e_x : (x == x) = true := by simp
  have e_y : (y == y) = true := by simp
  go_enter Try.func11, Try.ntmps11
  go_wp2_with fail
  generalize w.alloc (.cells #[.int .i64 3, .int .i64 o, .int .i64 c, .int .i64 t] 30) = W1 at *
  go_wp2_with (first
    | (go_at_call 22; (with_reducible refine (C1 _ _ h1.a).mono ?_); rintro e w2 ⟨rfl, Q2, a2, s2⟩; have h2 := h1.left a2 s2; obtain ⟨d1, d2, d3⟩ : w2.cell? ⟨w.heap.size, 1, none⟩ = some (.int .i64 o) ∧ w2.cell? ⟨w.heap.size, 2, none⟩ = some (.int .i64 c) ∧ w2.cell? ⟨w.heap.size, 3, none⟩ = some (.int .i64 t) := ⟨s2.but.cell' c1 hQ, s2.but.cell' c2 hQ, s2.but.cell' c3 hQ⟩)
    | (go_at_call 30; (with_reducible refine (C2 _ _ h2.r).mono ?_); rintro e w3 ⟨rfl, R3, r3, s3⟩; have h3 := h2.right S r3 s3))
  go_ret
  exact ⟨rfl, Q2, R3, h3, (st1.trans (s2.left R)).trans (s3.right Q2)⟩
set_option maxRecDepth 100000 in
set_option maxHeartbeats 4000000 in
theorem act4 (S : Side PL) (h : Pr PL W0 w B Q M R n T σ σ) (o c t : Int) :
    Calls Try.prog 11 #[.pointer (some ⟨B, 0, none⟩), .pointer (some ⟨M, 0, none⟩), .agg #[.int .i64 4, .int .i64 o, .int .i64 c, .int .i64 t]] w fun e w' => e = .returned (.bool true) ∧ ∃ Q' R', Pr PL W0 w' B Q' M R' n T (castS σ c) (castS σ c) ∧ Step (Q ++ R) w (Q' ++ R') w' := by
  have hok := h.r.ok
  have hQ := h.outQ S (Nat.le_refl _)
  have hR := h.outR (Nat.le_refl _)
  have h1 := h.keep S ((But.refl [] w).alloc (.cells #[.int .i64 4, .int .i64 o, .int .i64 c, .int .i64 t] 30))
  obtain ⟨c0, c1, c2, c3⟩ := At4.new w 4 o c t
  have st1 : Step (Q ++ R) w (Q ++ R) (w.alloc (.cells #[.int .i64 4, .int .i64 o, .int .i64 c, .int .i64 t] 30)) := Step.keep ((But.refl [] w).alloc _)
  have C1 : ∀ X Q, PL X B Q n T σ → _ := fun X Q h => S.cast (w := X) (Q := Q) h hok c
  have C2 : ∀ X R, RQ X M R n T σ → _ := fun X R h => cast_any (w := X) (R := R) h c
  have hl := cast_len hok c
  clear h hok
  generalize castL σ c = L at *
  generalize sigE σ c = y at *
  generalize castS σ c = s at *
  have e_y : (y == y) = true := by simp
  go_enter Try.func11, Try.ntmps11
  go_wp2_with fail
  generalize w.alloc (.cells #[.int .i64 4, .int .i64 o, .int .i64 c, .int .i64 t] 30) = W1 at *
  go_wp2_with (first
    | (go_at_call 20; (with_reducible refine (C1 _ _ h1.a).mono ?_); rintro e w2 ⟨v2, rfl, r2, Q2, a2, s2, n2⟩; have h2 := h1.left a2 s2; obtain ⟨x2, y2, rfl⟩ := own_shape r2; obtain ⟨d1, d2, d3⟩ : w2.cell? ⟨w.heap.size, 1, none⟩ = some (.int .i64 o) ∧ w2.cell? ⟨w.heap.size, 2, none⟩ = some (.int .i64 c) ∧ w2.cell? ⟨w.heap.size, 3, none⟩ = some (.int .i64 t) := ⟨s2.but.cell' c1 hQ, s2.but.cell' c2 hQ, s2.but.cell' c3 hQ⟩)
    | (go_at_call 31; (with_reducible refine (C2 _ _ h2.r).mono ?_); rintro e w3 ⟨v3, rfl, r3, R3, q3, s3, n3⟩; have h3 := h2.right S q3 s3; obtain ⟨x3, y3, rfl⟩ := own_shape r3; have p2 := ownsRow_put r2 (fun k e => s3.but.block k (r2.low k e).2 (fun hk => by have := h1.r.lt k hk; have := (r2.low k e).1; omega)); have IN := ints_two (by omega) (RowI.rd p2) r3.rd)
    | (go_at_call 21; (with_reducible refine IN.mono ?_); rintro e w4 ⟨rfl, b4⟩; have h4 := h3.keep S (.of_below b4)))
  go_ret
  exact ⟨rfl, Q2, R3, h4, ((st1.trans (s2.left R)).trans (s3.right Q2)).trans (Step.keep (.of_below b4))⟩
set_option maxRecDepth 100000 in
set_option maxHeartbeats 4000000 in
theorem act5 (S : Side PL) (h : Pr PL W0 w B Q M R n T σ σ) (o c t : Int) :
    Calls Try.prog 11 #[.pointer (some ⟨B, 0, none⟩), .pointer (some ⟨M, 0, none⟩), .agg #[.int .i64 5, .int .i64 o, .int .i64 c, .int .i64 t]] w fun e w' => e = .returned (.bool true) ∧ ∃ Q' R', Pr PL W0 w' B Q' M R' n T (dropS σ t) (dropS σ t) ∧ Step (Q ++ R) w (Q' ++ R') w' := by
  have hok := h.r.ok
  have hQ := h.outQ S (Nat.le_refl _)
  have hR := h.outR (Nat.le_refl _)
  have h1 := h.keep S ((But.refl [] w).alloc (.cells #[.int .i64 5, .int .i64 o, .int .i64 c, .int .i64 t] 30))
  obtain ⟨c0, c1, c2, c3⟩ := At4.new w 5 o c t
  have st1 : Step (Q ++ R) w (Q ++ R) (w.alloc (.cells #[.int .i64 5, .int .i64 o, .int .i64 c, .int .i64 t] 30)) := Step.keep ((But.refl [] w).alloc _)
  have C1 : ∀ X Q, PL X B Q n T σ → _ := fun X Q h => S.drop (w := X) (Q := Q) h hok t
  have C2 : ∀ X R, RQ X M R n T σ → _ := fun X R h => drop_any (w := X) (R := R) h t
  have hl := drop_len hok t
  clear h hok
  generalize dropL σ t = L at *
  generalize dropS σ t = s at *
  go_enter Try.func11, Try.ntmps11
  go_wp2_with fail
  generalize w.alloc (.cells #[.int .i64 5, .int .i64 o, .int .i64 c, .int .i64 t] 30) = W1 at *
  have h1d := h1.keep S (But.refl [] W1).drew
  have c3d : W1.drew.cell? ⟨w.heap.size, 3, none⟩ = some (.int .i64 t) := c3
  have IN : ∀ X x2 y2 x3 y3, Rd X (.slice x2 L.length y2) L → Rd X (.slice x3 L.length y3) L → _ := fun X x2 y2 x3 y3 a b => ints_two (w := X) (v := .slice x2 L.length y2) (u := .slice x3 L.length y3) (by omega) a b
  go_region_held3 (fun w' => w'.cell? ⟨w.heap.size, 3, none⟩ = some (.int .i64 t)) (first | with_reducible assumption | with_reducible exact c3d) (first
    | (go_at_call 23; (with_reducible refine (C1 _ _ h1d.a).mono ?_); rintro e w2 ⟨v2, rfl, r2, Q2, a2, s2, n2⟩; have h2 := h1d.left a2 s2; obtain ⟨x2, y2, rfl⟩ := own_shape r2; have k2 : w2.cell? ⟨w.heap.size, 3, none⟩ = some (.int .i64 t) := s2.but.cell' c3d hQ)
    | (go_at_call 32; (with_reducible refine (C2 _ _ h2.r).mono ?_); rintro e w3 ⟨v3, rfl, r3, R3, q3, s3, n3⟩; have h3 := h2.right S q3 s3; obtain ⟨x3, y3, rfl⟩ := own_shape r3; have p2 := ownsRow_put r2 (fun k e => s3.but.block k (r2.low k e).2 (fun hk => by have := h1d.r.lt k hk; have := (r2.low k e).1; omega)); have I3 := IN _ _ _ _ _ (RowI.rd p2) r3.rd; have k3 : w3.cell? ⟨w.heap.size, 3, none⟩ = some (.int .i64 t) := s3.but.cell' k2 hR)
    | (go_at_call 21; (with_reducible refine I3.mono ?_); rintro e w4 ⟨rfl, b4⟩; have h4 := h3.keep S (.of_below b4); have k4 : w4.cell? ⟨w.heap.size, 3, none⟩ = some (.int .i64 t) := cell_on b4 k3))
  all_goals
    go_wp2_with fail
    go_ret
    exact ⟨rfl, Q2, R3, h4, (((st1.trans (Step.keep (But.refl [] W1).drew)).trans (s2.left R)).trans (s3.right Q2)).trans (Step.keep (.of_below b4))⟩
set_option maxRecDepth 100000 in
set_option maxHeartbeats 4000000 in
theorem act_any (S : Side PL) (h : Pr PL W0 w B Q M R n T σ σ) (k o c t : Int) :
    Calls Try.prog 11 #[.pointer (some ⟨B, 0, none⟩), .pointer (some ⟨M, 0, none⟩), .agg #[.int .i64 k, .int .i64 o, .int .i64 c, .int .i64 t]] w fun e w' => e = .returned (.bool true) ∧ ∃ Q' R', Pr PL W0 w' B Q' M R' n T (actS σ k o c t) (actS σ k o c t) ∧ Step (Q ++ R) w (Q' ++ R') w' := by
  unfold actS
  by_cases k0 : k = 0
  · subst k0
    exact act0 S h o c t
  by_cases k1 : k = 1
  · subst k1
    exact act1 S h o c t
  by_cases k2 : k = 2
  · subst k2
    exact act2 S h o c t
  by_cases k3 : k = 3
  · subst k3
    exact act3 S h o c t
  by_cases k4 : k = 4
  · subst k4
    exact act4 S h o c t
  by_cases k5 : k = 5
  · subst k5
    exact act5 S h o c t
  rw [if_neg k0, if_neg k1, if_neg k2, if_neg k3, if_neg k4, if_neg k5]
  have h1 := h.keep S ((But.refl [] w).alloc (.cells #[.int .i64 k, .int .i64 o, .int .i64 c, .int .i64 t] 30))
  obtain ⟨c0, -, -, -⟩ := At4.new w k o c t
  have st1 : Step (Q ++ R) w (Q ++ R) (w.alloc (.cells #[.int .i64 k, .int .i64 o, .int .i64 c, .int .i64 t] 30)) := Step.keep ((But.refl [] w).alloc _)
  have e0 : (k == 0) = false := by simpa using k0
  have e1 : (k == 1) = false := by simpa using k1
  have e2 : (k == 2) = false := by simpa using k2
  have e3 : (k == 3) = false := by simpa using k3
  have e4 : (k == 4) = false := by simpa using k4
  have e5 : (k == 5) = false := by simpa using k5
  go_enter Try.func11, Try.ntmps11
  go_wp2_with fail
  go_ret
  exact ⟨rfl, Q, R, h1, st1⟩
end
end Go.Proofs.Ytimoleijdfoahaa.Lo
