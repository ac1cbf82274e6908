/- The contract of the statements' alike, of one that is here. -/
import Derived.Test.YtlnfabjgcecebaaGreatRdK
namespace Go.Proofs.YtlnfabjgcecebaaGreat.Rd
open Go Go.RowKit Go.Proofs.YtlnfabjgcecebaaGreat.Str
open Go.Proofs.YtlnfabjgcecebaaGreat.Hp (Step Disj)

section
variable {PQ : World → Nat → List Nat → Nat → Qs → Prop} {W0 w w' : World} {B M G N : Nat} {T T' : List Nat} {σ σ' τ : Qs}
set_option maxRecDepth 100000 in
set_option maxHeartbeats 4000000 in
theorem alike_1 (S : Side PQ) (h : Pr PQ W0 w B T M G N σ σ) {K : Nat} (hF : Few K σ) (hK : K ≤ 1000) (k : Nat) (hk : k < N) (hs : (rw σ.L k).1 = 1) :
    Calls Tryz.prog 10 #[.pointer (some ⟨B, 0, none⟩), .pointer (some ⟨M, 0, none⟩), .int .i64 k] w fun e w' => e = .returned (.bool true) ∧ Below w.heap.size w w' := by
  have hz : rwI σ (k : Int) = rw σ.L k := rwI_of (by rw [h.r.len]; exact hk)
  have h0' : (0 : Int) ≤ (k : Int) := by omega
  have h2' : (k : Int) < (N : Int) := by omega
  have C1 : ∀ W, PQ W B T N σ → Calls Tryz.prog 33 #[.pointer (some ⟨B, 0, none⟩), .int .i64 k] W fun e w' => e = .returned (.tuple #[.int .i64 (rw σ.L k).2.2.1, .bool true]) ∧ Below W.heap.size W w' := fun W h => by
    have := S.pass (w := W) h hF k
    rw [hz] at this
    rw [hs] at this
    exact this
  have C2 : ∀ W, RQ W M G N σ → Calls Tryz.prog 34 #[.pointer (some ⟨M, 0, none⟩), .int .i64 k] W fun e w' => e = .returned (.int .i64 1) ∧ w' = W := fun W h => by
    have := state_any (w := W) h k
    rw [hz] at this
    rw [hs] at this
    exact this
  have C3 : ∀ W, PQ W B T N σ → Calls Tryz.prog 35 #[.pointer (some ⟨B, 0, none⟩), .int .i64 k] W fun e w' => e = .returned (.int .i64 1) ∧ Below W.heap.size W w' := fun W h => by
    have := S.state (w := W) h k
    rw [hz] at this
    rw [hs] at this
    exact this
  have C4 : ∀ W, PQ W B T N σ → Calls Tryz.prog 36 #[.pointer (some ⟨B, 0, none⟩), .int .i64 k] W fun e w' => e = .returned (.int .i64 (rw σ.L k).2.2.2) ∧ Below W.heap.size W w' := fun W h => by
    have := S.picks (w := W) h hF k
    rw [hz] at this
    exact this
  have C5 : ∀ W, PQ W B T N σ → _ := fun W h => S.now (w := W) h
  have C6 : ∀ W, PQ W B T N σ → _ := fun W h => S.sound (w := W) h hF hK
  have C7 : ∀ W, PQ W B T N σ → _ := fun W h => S.waiting (w := W) h
  have C8 : ∀ W, RQ W M G N σ → _ := fun W h => waiting_any (w := W) h
  have hlen := h.r.len
  have hL := ids_le hlen h.r.n2
  have hc0 : ∀ W, RQ W M G N σ → _ := fun W h => RQ.c0 (w := W) h
  generalize hnow : σ.now = now at C5 hc0
  go_enter Tryz.func10, Tryz.ntmps10
  go_upto_region 3 with (first
    | (go_at_call 33; (with_reducible refine (C1 _ h.a).mono ?_); rintro e w1 ⟨rfl, b1⟩; have h1 := h.keep S (.of_below b1))
    | (go_at_call 34; (with_reducible refine (C2 _ h1.r).mono ?_); rintro e w2 ⟨rfl, rfl⟩))
  have hy := h1.keep S ((Hp.But.refl [] w2).alloc (.cells #[.int .i64 0, .int .i64 0, .int .i64 0, .int .i64 0] 57))
  obtain ⟨gc, -, -, c1⟩ := hy.r.c1
  have g0 := hy.r.r0 hk
  have g1 := hy.r.r1 hk
  have g2 := hy.r.r2 hk
  have g3 := hy.r.r3 hk
  rw [hs] at g0
  have hx := h1.keep S ((Hp.But.refl [] w2).alloc (.cells #[.int .i64 1, .int .i64 (rw σ.L k).2.1, .int .i64 (rw σ.L k).2.2.1, .int .i64 (rw σ.L k).2.2.2] 57))
  have hB1 : Hp.But [] w (w2.alloc (.cells #[.int .i64 1, .int .i64 (rw σ.L k).2.1, .int .i64 (rw σ.L k).2.2.1, .int .i64 (rw σ.L k).2.2.2] 57)) := (Hp.But.of_below b1).trans ((Hp.But.refl [] w2).alloc _)
  have a2 : (w2.alloc (.cells #[.int .i64 1, .int .i64 (rw σ.L k).2.1, .int .i64 (rw σ.L k).2.2.1, .int .i64 (rw σ.L k).2.2.2] 57)).cell? ⟨w2.heap.size, 2, none⟩ = some (.int .i64 (rw σ.L k).2.2.1) := by simp [go_sem]
  have a3 : (w2.alloc (.cells #[.int .i64 1, .int .i64 (rw σ.L k).2.1, .int .i64 (rw σ.L k).2.2.1, .int .i64 (rw σ.L k).2.2.2] 57)).cell? ⟨w2.heap.size, 3, none⟩ = some (.int .i64 (rw σ.L k).2.2.2) := by simp [go_sem]
  clear h h1
  go_upto_region 6 with fail
  clear hy c1 g0 g1 g2 g3
  generalize w2.alloc (.cells #[.int .i64 1, .int .i64 (rw σ.L k).2.1, .int .i64 (rw σ.L k).2.2.1, .int .i64 (rw σ.L k).2.2.2] 57) = W1 at *
  have hd := hx.keep S (Hp.But.refl [] W1).drew
  have kd : AlAt W1.drew w2.heap.size M (rw σ.L k).2.2.1 (rw σ.L k).2.2.2 now := ⟨a2, a3, hc0 _ hd.r⟩
  go_region_held3 (fun w' => w'.cell? ⟨w2.heap.size, 2, none⟩ = some (.int .i64 (rw σ.L k).2.2.1) ∧ w'.cell? ⟨w2.heap.size, 3, none⟩ = some (.int .i64 (rw σ.L k).2.2.2) ∧ w'.cell? ⟨M, 0, none⟩ = some (.int .i64 now)) (first | with_reducible assumption | with_reducible exact kd) (first
    | (go_at_call 35; (with_reducible refine (C3 _ hd.a).mono ?_); rintro e w3 ⟨rfl, b3⟩; have h3 := hd.keep S (.of_below b3); have k3 := kd.on b3)
    | (go_at_call 36; (with_reducible refine (C4 _ h3.a).mono ?_); rintro e w4 ⟨rfl, b4⟩; have h4 := h3.keep S (.of_below b4); have k4 := k3.on b4)
    | (go_at_call 37; (with_reducible refine (C5 _ h4.a).mono ?_); rintro e w5 ⟨rfl, b5⟩; have h5 := h4.keep S (.of_below b5); have k5 := k4.on b5)
    | (go_at_call 38; (with_reducible refine (C6 _ h5.a).mono ?_); rintro e w6 ⟨rfl, b6⟩; have h6 := h5.keep S (.of_below b6); have k6 := k5.on b6)
    | (go_at_call 40; (with_reducible refine (C7 _ h6.a).mono ?_); rintro e w7 ⟨v7, rfl, r7, b7⟩; obtain ⟨a7, d7, rfl, -, -, -, i7⟩ := RowI.shape r7; have h7 := h6.keep S (.of_below b7); have k7 := k6.on b7)
    | (go_at_call 41; (with_reducible refine (C8 _ h7.r).mono ?_); rintro e w8 ⟨v8, rfl, r8, b8⟩; obtain ⟨a8, d8, rfl, -, -, -, i8⟩ := RowI.shape r8; have k8 := k7.on b8; have j7 : Hp.IntsR w8 a7 (ids (qL σ)) := Hp.IntsR.below (w := w7) (a := a7) i7 b8; have j8 : Hp.IntsR w8 a8 (ids (qL σ)) := i8)
    | (go_at_call 39; (with_reducible refine (Hp.ints_any a7 a8 d7 d8 _ w8 hL j7 j8).mono ?_); rintro e w9 ⟨rfl, b9⟩; have k9 := k8.on b9))
  all_goals
    go_wp2_with fail
    go_ret
    exact ⟨rfl, (((((((hB1.trans (.drew (.refl [] W1))).trans (.of_below b3)).trans (.of_below b4)).trans (.of_below b5)).trans (.of_below b6)).trans (.of_below b7)).trans (.of_below b8) |>.trans (.of_below b9)).to_below⟩
set_option maxRecDepth 100000 in
set_option maxHeartbeats 4000000 in
theorem alike_2 (S : Side PQ) (h : Pr PQ W0 w B T M G N σ σ) {K : Nat} (hF : Few K σ) (hK : K ≤ 1000) (k : Nat) (hk : k < N) (hs : (rw σ.L k).1 = 2) :
    Calls Tryz.prog 10 #[.pointer (some ⟨B, 0, none⟩), .pointer (some ⟨M, 0, none⟩), .int .i64 k] w fun e w' => e = .returned (.bool true) ∧ Below w.heap.size w w' := by
  have hz : rwI σ (k : Int) = rw σ.L k := rwI_of (by rw [h.r.len]; exact hk)
  have h0' : (0 : Int) ≤ (k : Int) := by omega
  have h2' : (k : Int) < (N : Int) := by omega
  have C1 : ∀ W, PQ W B T N σ → Calls Tryz.prog 33 #[.pointer (some ⟨B, 0, none⟩), .int .i64 k] W fun e w' => e = .returned (.tuple #[.int .i64 (rw σ.L k).2.2.1, .bool true]) ∧ Below W.heap.size W w' := fun W h => by
    have := S.pass (w := W) h hF k
    rw [hz] at this
    rw [hs] at this
    exact this
  have C2 : ∀ W, RQ W M G N σ → Calls Tryz.prog 34 #[.pointer (some ⟨M, 0, none⟩), .int .i64 k] W fun e w' => e = .returned (.int .i64 2) ∧ w' = W := fun W h => by
    have := state_any (w := W) h k
    rw [hz] at this
    rw [hs] at this
    exact this
  have C3 : ∀ W, PQ W B T N σ → Calls Tryz.prog 35 #[.pointer (some ⟨B, 0, none⟩), .int .i64 k] W fun e w' => e = .returned (.int .i64 2) ∧ Below W.heap.size W w' := fun W h => by
    have := S.state (w := W) h k
    rw [hz] at this
    rw [hs] at this
    exact this
  have C4 : ∀ W, PQ W B T N σ → Calls Tryz.prog 36 #[.pointer (some ⟨B, 0, none⟩), .int .i64 k] W fun e w' => e = .returned (.int .i64 (rw σ.L k).2.2.2) ∧ Below W.heap.size W w' := fun W h => by
    have := S.picks (w := W) h hF k
    rw [hz] at this
    exact this
  have C5 : ∀ W, PQ W B T N σ → _ := fun W h => S.now (w := W) h
  have C6 : ∀ W, PQ W B T N σ → _ := fun W h => S.sound (w := W) h hF hK
  have C7 : ∀ W, PQ W B T N σ → _ := fun W h => S.waiting (w := W) h
  have C8 : ∀ W, RQ W M G N σ → _ := fun W h => waiting_any (w := W) h
  have hlen := h.r.len
  have hL := ids_le hlen h.r.n2
  have hc0 : ∀ W, RQ W M G N σ → _ := fun W h => RQ.c0 (w := W) h
  generalize hnow : σ.now = now at C5 hc0
  go_enter Tryz.func10, Tryz.ntmps10
  go_upto_region 3 with (first
    | (go_at_call 33; (with_reducible refine (C1 _ h.a).mono ?_); rintro e w1 ⟨rfl, b1⟩; have h1 := h.keep S (.of_below b1))
    | (go_at_call 34; (with_reducible refine (C2 _ h1.r).mono ?_); rintro e w2 ⟨rfl, rfl⟩))
  have hy := h1.keep S ((Hp.But.refl [] w2).alloc (.cells #[.int .i64 0, .int .i64 0, .int .i64 0, .int .i64 0] 57))
  obtain ⟨gc, -, -, c1⟩ := hy.r.c1
  have g0 := hy.r.r0 hk
  have g1 := hy.r.r1 hk
  have g2 := hy.r.r2 hk
  have g3 := hy.r.r3 hk
  rw [hs] at g0
  have hx := h1.keep S ((Hp.But.refl [] w2).alloc (.cells #[.int .i64 2, .int .i64 (rw σ.L k).2.1, .int .i64 (rw σ.L k).2.2.1, .int .i64 (rw σ.L k).2.2.2] 57))
  have hB1 : Hp.But [] w (w2.alloc (.cells #[.int .i64 2, .int .i64 (rw σ.L k).2.1, .int .i64 (rw σ.L k).2.2.1, .int .i64 (rw σ.L k).2.2.2] 57)) := (Hp.But.of_below b1).trans ((Hp.But.refl [] w2).alloc _)
  have a2 : (w2.alloc (.cells #[.int .i64 2, .int .i64 (rw σ.L k).2.1, .int .i64 (rw σ.L k).2.2.1, .int .i64 (rw σ.L k).2.2.2] 57)).cell? ⟨w2.heap.size, 2, none⟩ = some (.int .i64 (rw σ.L k).2.2.1) := by simp [go_sem]
  have a3 : (w2.alloc (.cells #[.int .i64 2, .int .i64 (rw σ.L k).2.1, .int .i64 (rw σ.L k).2.2.1, .int .i64 (rw σ.L k).2.2.2] 57)).cell? ⟨w2.heap.size, 3, none⟩ = some (.int .i64 (rw σ.L k).2.2.2) := by simp [go_sem]
  clear h h1
  go_upto_region 6 with fail
  clear hy c1 g0 g1 g2 g3
  generalize w2.alloc (.cells #[.int .i64 2, .int .i64 (rw σ.L k).2.1, .int .i64 (rw σ.L k).2.2.1, .int .i64 (rw σ.L k).2.2.2] 57) = W1 at *
  have hd := hx.keep S (Hp.But.refl [] W1).drew
  have kd : AlAt W1.drew w2.heap.size M (rw σ.L k).2.2.1 (rw σ.L k).2.2.2 now := ⟨a2, a3, hc0 _ hd.r⟩
  go_region_held3 (fun w' => w'.cell? ⟨w2.heap.size, 2, none⟩ = some (.int .i64 (rw σ.L k).2.2.1) ∧ w'.cell? ⟨w2.heap.size, 3, none⟩ = some (.int .i64 (rw σ.L k).2.2.2) ∧ w'.cell? ⟨M, 0, none⟩ = some (.int .i64 now)) (first | with_reducible assumption | with_reducible exact kd) (first
    | (go_at_call 35; (with_reducible refine (C3 _ hd.a).mono ?_); rintro e w3 ⟨rfl, b3⟩; have h3 := hd.keep S (.of_below b3); have k3 := kd.on b3)
    | (go_at_call 36; (with_reducible refine (C4 _ h3.a).mono ?_); rintro e w4 ⟨rfl, b4⟩; have h4 := h3.keep S (.of_below b4); have k4 := k3.on b4)
    | (go_at_call 37; (with_reducible refine (C5 _ h4.a).mono ?_); rintro e w5 ⟨rfl, b5⟩; have h5 := h4.keep S (.of_below b5); have k5 := k4.on b5)
    | (go_at_call 38; (with_reducible refine (C6 _ h5.a).mono ?_); rintro e w6 ⟨rfl, b6⟩; have h6 := h5.keep S (.of_below b6); have k6 := k5.on b6)
    | (go_at_call 40; (with_reducible refine (C7 _ h6.a).mono ?_); rintro e w7 ⟨v7, rfl, r7, b7⟩; obtain ⟨a7, d7, rfl, -, -, -, i7⟩ := RowI.shape r7; have h7 := h6.keep S (.of_below b7); have k7 := k6.on b7)
    | (go_at_call 41; (with_reducible refine (C8 _ h7.r).mono ?_); rintro e w8 ⟨v8, rfl, r8, b8⟩; obtain ⟨a8, d8, rfl, -, -, -, i8⟩ := RowI.shape r8; have k8 := k7.on b8; have j7 : Hp.IntsR w8 a7 (ids (qL σ)) := Hp.IntsR.below (w := w7) (a := a7) i7 b8; have j8 : Hp.IntsR w8 a8 (ids (qL σ)) := i8)
    | (go_at_call 39; (with_reducible refine (Hp.ints_any a7 a8 d7 d8 _ w8 hL j7 j8).mono ?_); rintro e w9 ⟨rfl, b9⟩; have k9 := k8.on b9))
  all_goals
    go_wp2_with fail
    go_ret
    exact ⟨rfl, (((((((hB1.trans (.drew (.refl [] W1))).trans (.of_below b3)).trans (.of_below b4)).trans (.of_below b5)).trans (.of_below b6)).trans (.of_below b7)).trans (.of_below b8) |>.trans (.of_below b9)).to_below⟩
set_option maxRecDepth 100000 in
set_option maxHeartbeats 4000000 in
theorem alike_3 (S : Side PQ) (h : Pr PQ W0 w B T M G N σ σ) {K : Nat} (hF : Few K σ) (hK : K ≤ 1000) (k : Nat) (hk : k < N) (hs : (rw σ.L k).1 = 3) :
    Calls Tryz.prog 10 #[.pointer (some ⟨B, 0, none⟩), .pointer (some ⟨M, 0, none⟩), .int .i64 k] w fun e w' => e = .returned (.bool true) ∧ Below w.heap.size w w' := by
  have hz : rwI σ (k : Int) = rw σ.L k := rwI_of (by rw [h.r.len]; exact hk)
  have h0' : (0 : Int) ≤ (k : Int) := by omega
  have h2' : (k : Int) < (N : Int) := by omega
  have C1 : ∀ W, PQ W B T N σ → Calls Tryz.prog 33 #[.pointer (some ⟨B, 0, none⟩), .int .i64 k] W fun e w' => e = .returned (.tuple #[.int .i64 (rw σ.L k).2.2.1, .bool true]) ∧ Below W.heap.size W w' := fun W h => by
    have := S.pass (w := W) h hF k
    rw [hz] at this
    rw [hs] at this
    exact this
  have C2 : ∀ W, RQ W M G N σ → Calls Tryz.prog 34 #[.pointer (some ⟨M, 0, none⟩), .int .i64 k] W fun e w' => e = .returned (.int .i64 3) ∧ w' = W := fun W h => by
    have := state_any (w := W) h k
    rw [hz] at this
    rw [hs] at this
    exact this
  have C3 : ∀ W, PQ W B T N σ → Calls Tryz.prog 35 #[.pointer (some ⟨B, 0, none⟩), .int .i64 k] W fun e w' => e = .returned (.int .i64 3) ∧ Below W.heap.size W w' := fun W h => by
    have := S.state (w := W) h k
    rw [hz] at this
    rw [hs] at this
    exact this
  have C4 : ∀ W, PQ W B T N σ → Calls Tryz.prog 36 #[.pointer (some ⟨B, 0, none⟩), .int .i64 k] W fun e w' => e = .returned (.int .i64 (rw σ.L k).2.2.2) ∧ Below W.heap.size W w' := fun W h => by
    have := S.picks (w := W) h hF k
    rw [hz] at this
    exact this
  have C5 : ∀ W, PQ W B T N σ → _ := fun W h => S.now (w := W) h
  have C6 : ∀ W, PQ W B T N σ → _ := fun W h => S.sound (w := W) h hF hK
  have C7 : ∀ W, PQ W B T N σ → _ := fun W h => S.waiting (w := W) h
  have C8 : ∀ W, RQ W M G N σ → _ := fun W h => waiting_any (w := W) h
  have hlen := h.r.len
  have hL := ids_le hlen h.r.n2
  have hc0 : ∀ W, RQ W M G N σ → _ := fun W h => RQ.c0 (w := W) h
  generalize hnow : σ.now = now at C5 hc0
  go_enter Tryz.func10, Tryz.ntmps10
  go_upto_region 3 with (first
    | (go_at_call 33; (with_reducible refine (C1 _ h.a).mono ?_); rintro e w1 ⟨rfl, b1⟩; have h1 := h.keep S (.of_below b1))
    | (go_at_call 34; (with_reducible refine (C2 _ h1.r).mono ?_); rintro e w2 ⟨rfl, rfl⟩))
  have hy := h1.keep S ((Hp.But.refl [] w2).alloc (.cells #[.int .i64 0, .int .i64 0, .int .i64 0, .int .i64 0] 57))
  obtain ⟨gc, -, -, c1⟩ := hy.r.c1
  have g0 := hy.r.r0 hk
  have g1 := hy.r.r1 hk
  have g2 := hy.r.r2 hk
  have g3 := hy.r.r3 hk
  rw [hs] at g0
  have hx := h1.keep S ((Hp.But.refl [] w2).alloc (.cells #[.int .i64 3, .int .i64 (rw σ.L k).2.1, .int .i64 (rw σ.L k).2.2.1, .int .i64 (rw σ.L k).2.2.2] 57))
  have hB1 : Hp.But [] w (w2.alloc (.cells #[.int .i64 3, .int .i64 (rw σ.L k).2.1, .int .i64 (rw σ.L k).2.2.1, .int .i64 (rw σ.L k).2.2.2] 57)) := (Hp.But.of_below b1).trans ((Hp.But.refl [] w2).alloc _)
  have a2 : (w2.alloc (.cells #[.int .i64 3, .int .i64 (rw σ.L k).2.1, .int .i64 (rw σ.L k).2.2.1, .int .i64 (rw σ.L k).2.2.2] 57)).cell? ⟨w2.heap.size, 2, none⟩ = some (.int .i64 (rw σ.L k).2.2.1) := by simp [go_sem]
  have a3 : (w2.alloc (.cells #[.int .i64 3, .int .i64 (rw σ.L k).2.1, .int .i64 (rw σ.L k).2.2.1, .int .i64 (rw σ.L k).2.2.2] 57)).cell? ⟨w2.heap.size, 3, none⟩ = some (.int .i64 (rw σ.L k).2.2.2) := by simp [go_sem]
  clear h h1
  go_upto_region 6 with fail
  clear hy c1 g0 g1 g2 g3
  generalize w2.alloc (.cells #[.int .i64 3, .int .i64 (rw σ.L k).2.1, .int .i64 (rw σ.L k).2.2.1, .int .i64 (rw σ.L k).2.2.2] 57) = W1 at *
  have hd := hx.keep S (Hp.But.refl [] W1).drew
  have kd : AlAt W1.drew w2.heap.size M (rw σ.L k).2.2.1 (rw σ.L k).2.2.2 now := ⟨a2, a3, hc0 _ hd.r⟩
  go_region_held3 (fun w' => w'.cell? ⟨w2.heap.size, 2, none⟩ = some (.int .i64 (rw σ.L k).2.2.1) ∧ w'.cell? ⟨w2.heap.size, 3, none⟩ = some (.int .i64 (rw σ.L k).2.2.2) ∧ w'.cell? ⟨M, 0, none⟩ = some (.int .i64 now)) (first | with_reducible assumption | with_reducible exact kd) (first
    | (go_at_call 35; (with_reducible refine (C3 _ hd.a).mono ?_); rintro e w3 ⟨rfl, b3⟩; have h3 := hd.keep S (.of_below b3); have k3 := kd.on b3)
    | (go_at_call 36; (with_reducible refine (C4 _ h3.a).mono ?_); rintro e w4 ⟨rfl, b4⟩; have h4 := h3.keep S (.of_below b4); have k4 := k3.on b4)
    | (go_at_call 37; (with_reducible refine (C5 _ h4.a).mono ?_); rintro e w5 ⟨rfl, b5⟩; have h5 := h4.keep S (.of_below b5); have k5 := k4.on b5)
    | (go_at_call 38; (with_reducible refine (C6 _ h5.a).mono ?_); rintro e w6 ⟨rfl, b6⟩; have h6 := h5.keep S (.of_below b6); have k6 := k5.on b6)
    | (go_at_call 40; (with_reducible refine (C7 _ h6.a).mono ?_); rintro e w7 ⟨v7, rfl, r7, b7⟩; obtain ⟨a7, d7, rfl, -, -, -, i7⟩ := RowI.shape r7; have h7 := h6.keep S (.of_below b7); have k7 := k6.on b7)
    | (go_at_call 41; (with_reducible refine (C8 _ h7.r).mono ?_); rintro e w8 ⟨v8, rfl, r8, b8⟩; obtain ⟨a8, d8, rfl, -, -, -, i8⟩ := RowI.shape r8; have k8 := k7.on b8; have j7 : Hp.IntsR w8 a7 (ids (qL σ)) := Hp.IntsR.below (w := w7) (a := a7) i7 b8; have j8 : Hp.IntsR w8 a8 (ids (qL σ)) := i8)
    | (go_at_call 39; (with_reducible refine (Hp.ints_any a7 a8 d7 d8 _ w8 hL j7 j8).mono ?_); rintro e w9 ⟨rfl, b9⟩; have k9 := k8.on b9))
  all_goals
    go_wp2_with fail
    go_ret
    exact ⟨rfl, (((((((hB1.trans (.drew (.refl [] W1))).trans (.of_below b3)).trans (.of_below b4)).trans (.of_below b5)).trans (.of_below b6)).trans (.of_below b7)).trans (.of_below b8) |>.trans (.of_below b9)).to_below⟩
theorem alike_any (S : Side PQ) (h : Pr PQ W0 w B T M G N σ σ) {K : Nat} (hF : Few K σ) (hK : K ≤ 1000) (id : Int) :
    Calls Tryz.prog 10 #[.pointer (some ⟨B, 0, none⟩), .pointer (some ⟨M, 0, none⟩), .int .i64 id] w fun e w' => e = .returned (.bool true) ∧ Below w.heap.size w w' := by
  by_cases h0 : id < 0
  · exact alike_neg S h hF hK id h0
  · by_cases h2 : (N : Int) ≤ id
    · exact alike_far S h hF hK id (by omega) h2
    · obtain ⟨k, rfl⟩ : ∃ k : Nat, id = k := ⟨id.toNat, by omega⟩
      by_cases hs : (rw σ.L k).1 = 0
      · exact alike_away S h hF hK k (by omega) hs
      · obtain ⟨A, g⟩ := hF
        rcases g.any k with hz | ⟨h1, _⟩
        · rw [hz] at hs
          exact absurd rfl hs
        · rcases h1 with h1 | h1 | h1
          · exact alike_1 S h ⟨A, g⟩ hK k (by omega) h1
          · exact alike_2 S h ⟨A, g⟩ hK k (by omega) h1
          · exact alike_3 S h ⟨A, g⟩ hK k (by omega) h1
end
end Go.Proofs.YtlnfabjgcecebaaGreat.Rd
