/- The contract of the statements' act: a queue and the document's, alike. -/
import Derived.Test.YtlnfabjgcecebaaGreatRdX
namespace Go.Proofs.YtlnfabjgcecebaaGreat.Rd
open Go Go.RowKit Go.Proofs.YtlnfabjgcecebaaGreat.Str
open Go.Proofs.YtlnfabjgcecebaaGreat.Hp (Step Disj)

/-- A queue of the program's and one of the document's, laid apart. -/
structure Pr (PQ : World → Nat → List Nat → Nat → Qs → Prop) (W0 w : World) (B : Nat) (T : List Nat) (M G N : Nat) (σ σ' : Qs) : Prop where
  a : PQ w B T N σ
  r : RQ w M G N σ'
  d : Disj T [M, G]
  s : Step [] W0 (T ++ [M, G]) w

section
variable {PQ : World → Nat → List Nat → Nat → Qs → Prop} {W0 w w' : World} {B M G N : Nat} {T T' : List Nat} {σ σ' τ : Qs}
theorem RQ.lt (h : RQ w M G N σ) : ∀ x ∈ [M, G], x < w.heap.size := by
  intro x hx
  rcases List.mem_cons.1 hx with rfl | hx
  · exact h.ltM
  · rcases List.mem_cons.1 hx with rfl | hx
    · exact h.g.lt
    · cases hx
theorem RQ.out {S : List Nat} (h : RQ w M G N σ) (hb : Hp.But S w w') (hS : Disj [M, G] S) : RQ w' M G N σ := h.put (hb.block _ h.ltM (hS _ (by simp))) (hb.block _ h.g.lt (hS _ (by simp)))
theorem Side.keep (S : Side PQ) (h : PQ w B T N σ) (hb : Hp.But [] w w') : PQ w' B T N σ := S.but h hb (by simp [Disj])
theorem Pr.keep (S : Side PQ) (h : Pr PQ W0 w B T M G N σ σ') (hb : Hp.But [] w w') : Pr PQ W0 w' B T M G N σ σ' := ⟨S.keep h.a hb, h.r.out hb (by simp [Disj]), h.d, h.s.trans (Step.keep hb)⟩
theorem Pr.left (h : Pr PQ W0 w B T M G N σ σ') (h' : PQ w' B T' N τ) (st : Step T w T' w') : Pr PQ W0 w' B T' M G N τ σ' := ⟨h', h.r.out st.but h.d.symm, h.d.step st h.r.lt, h.s.trans (st.left [M, G])⟩
theorem Pr.right (S : Side PQ) (h : Pr PQ W0 w B T M G N σ σ') (h' : RQ w' M G N τ) (hb : Hp.But [M, G] w w') : Pr PQ W0 w' B T M G N σ τ := ⟨S.but h.a hb h.d, h', h.d, h.s.trans ((Step.same hb).right T)⟩
theorem Pr.outT (S : Side PQ) (h : Pr PQ W0 w B T M G N σ σ') {A : Nat} (hA : w.heap.size ≤ A) : A ∉ T := fun e => by have := S.lt h.a A e; omega
theorem Pr.outR (h : Pr PQ W0 w B T M G N σ σ') {A : Nat} (hA : w.heap.size ≤ A) : A ∉ [M, G] := fun e => by have := h.r.lt A e; omega
abbrev AcAt (w : World) (A : Nat) (t x : Int) : Prop := w.cell? ⟨A, 1, none⟩ = some (.int .i64 t) ∧ w.cell? ⟨A, 2, none⟩ = some (.int .i64 x)
theorem AcAt.new (w : World) (k t x : Int) : AcAt (w.alloc (.cells #[.int .i64 k, .int .i64 t, .int .i64 x] 29)) w.heap.size t x := by
  refine ⟨?_, ?_⟩ <;> simp [go_sem]
theorem ac0 (w : World) (k t x : Int) : (w.alloc (.cells #[.int .i64 k, .int .i64 t, .int .i64 x] 29)).cell? ⟨w.heap.size, 0, none⟩ = some (.int .i64 k) := by simp [go_sem]
theorem AcAt.but {S : List Nat} {A : Nat} {t x : Int} (h : AcAt w A t x) (hb : Hp.But S w w') (hA : A ∉ S) : AcAt w' A t x := ⟨hb.cell' h.1 hA, hb.cell' h.2 hA⟩

set_option maxRecDepth 100000 in
set_option maxHeartbeats 2000000 in
theorem act0 (S : Side PQ) (h : Pr PQ W0 w B T M G N σ σ) {K : Nat} (hF : Few K σ) (hK : K ≤ 1000) (t x : Int) :
    Calls Tryz.prog 7 #[.pointer (some ⟨B, 0, none⟩), .pointer (some ⟨M, 0, none⟩), .agg #[.int .i64 0, .int .i64 t, .int .i64 x]] w fun e w' => e = .returned (.bool true) ∧ ∃ T', Pr PQ W0 w' B T' M G N (joinS σ t x) (joinS σ t x) ∧ Step (T ++ [M, G]) w (T' ++ [M, G]) w' := by
  obtain ⟨n0, n1, hs, hl⟩ := hF.sml hK
  have hT := h.outT S (Nat.le_refl _)
  have hR := h.outR (Nat.le_refl _)
  have h1 := h.keep S ((Hp.But.refl [] w).alloc (.cells #[.int .i64 0, .int .i64 t, .int .i64 x] 29))
  have hA := AcAt.new w 0 t x
  have c0 := ac0 w 0 t x
  obtain ⟨c1, c2⟩ := hA
  have st1 : Step (T ++ [M, G]) w (T ++ [M, G]) (w.alloc (.cells #[.int .i64 0, .int .i64 t, .int .i64 x] 29)) := Step.keep ((Hp.But.refl [] w).alloc _)
  have C1 : ∀ W, PQ W B T N σ → _ := fun W h => S.join h hF hK t x
  have C2 : ∀ W, RQ W M G N σ → _ := fun W h => join_any (w := W) h t x
  clear h hF hs hl
  generalize joinS σ t x = s at *
  generalize joinE σ t x = e1 at *
  clear n0 n1
  go_enter Tryz.func7, Tryz.ntmps7
  go_wp2_with fail
  generalize w.alloc (.cells #[.int .i64 0, .int .i64 t, .int .i64 x] 29) = W1 at *
  have h1d := h1.keep S (Hp.But.refl [] W1).drew
  have hS : AcAt W1 w.heap.size t x := ⟨c1, c2⟩
  have hSd : AcAt W1.drew w.heap.size t x := ⟨c1, c2⟩
  go_region_held3 (fun w' => w'.cell? ⟨w.heap.size, 1, none⟩ = some (.int .i64 t) ∧ w'.cell? ⟨w.heap.size, 2, none⟩ = some (.int .i64 x)) (first | with_reducible assumption | with_reducible exact hSd) (first
    | (go_at_call 12; (with_reducible refine (C1 _ h1d.a).mono ?_); rintro e w2 ⟨rfl, T2, a2, s2⟩; have h2 := h1d.left a2 s2; have k2 := hSd.but s2.but hT)
    | (go_at_call 15; (with_reducible refine (C2 _ h2.r).mono ?_); rintro e w3 ⟨rfl, r3, s3⟩; have h3 := h2.right S r3 s3; have k3 := k2.but s3 hR))
  all_goals
    go_wp2_with fail
    go_ret
    exact ⟨by simp, T2, h3, ((st1.trans (Step.keep (Hp.But.refl [] W1).drew)).trans (s2.left [M, G])).trans ((Step.same s3).right T2)⟩

set_option maxRecDepth 100000 in
set_option maxHeartbeats 2000000 in
theorem act2 (S : Side PQ) (h : Pr PQ W0 w B T M G N σ σ) {K : Nat} (hF : Few K σ) (hK : K ≤ 1000) (t x : Int) :
    Calls Tryz.prog 7 #[.pointer (some ⟨B, 0, none⟩), .pointer (some ⟨M, 0, none⟩), .agg #[.int .i64 2, .int .i64 t, .int .i64 x]] w fun e w' => e = .returned (.bool true) ∧ ∃ T', Pr PQ W0 w' B T' M G N (turnS σ t 1 2 false) (turnS σ t 1 2 false) ∧ Step (T ++ [M, G]) w (T' ++ [M, G]) w' := by
  obtain ⟨n0, n1, hs, hl⟩ := hF.sml hK
  have hT := h.outT S (Nat.le_refl _)
  have hR := h.outR (Nat.le_refl _)
  have h1 := h.keep S ((Hp.But.refl [] w).alloc (.cells #[.int .i64 2, .int .i64 t, .int .i64 x] 29))
  have hA := AcAt.new w 2 t x
  have c0 := ac0 w 2 t x
  obtain ⟨c1, c2⟩ := hA
  have st1 : Step (T ++ [M, G]) w (T ++ [M, G]) (w.alloc (.cells #[.int .i64 2, .int .i64 t, .int .i64 x] 29)) := Step.keep ((Hp.But.refl [] w).alloc _)
  have C1 : ∀ W, PQ W B T N σ → _ := fun W h => S.take h hF hK t
  have C2 : ∀ W, RQ W M G N σ → _ := fun W h => rtake_any (w := W) h t (by omega) (by omega)
  clear h hF hs hl
  generalize turnS σ t 1 2 false = s at *
  generalize turnE σ t 1 = e1 at *
  clear n0 n1
  go_enter Tryz.func7, Tryz.ntmps7
  go_wp2_with fail
  generalize w.alloc (.cells #[.int .i64 2, .int .i64 t, .int .i64 x] 29) = W1 at *
  have h1d := h1.keep S (Hp.But.refl [] W1).drew
  have hS : AcAt W1 w.heap.size t x := ⟨c1, c2⟩
  have hSd : AcAt W1.drew w.heap.size t x := ⟨c1, c2⟩
  go_region_held3 (fun w' => w'.cell? ⟨w.heap.size, 1, none⟩ = some (.int .i64 t) ∧ w'.cell? ⟨w.heap.size, 2, none⟩ = some (.int .i64 x)) (first | with_reducible assumption | with_reducible exact hSd) (first
    | (go_at_call 17; (with_reducible refine (C1 _ h1d.a).mono ?_); rintro e w2 ⟨rfl, T2, a2, s2⟩; have h2 := h1d.left a2 s2; have k2 := hSd.but s2.but hT)
    | (go_at_call 18; (with_reducible refine (C2 _ h2.r).mono ?_); rintro e w3 ⟨rfl, r3, s3⟩; have h3 := h2.right S r3 s3; have k3 := k2.but s3 hR))
  all_goals
    go_wp2_with fail
    go_ret
    exact ⟨by simp, T2, h3, ((st1.trans (Step.keep (Hp.But.refl [] W1).drew)).trans (s2.left [M, G])).trans ((Step.same s3).right T2)⟩

set_option maxRecDepth 100000 in
set_option maxHeartbeats 2000000 in
theorem act3 (S : Side PQ) (h : Pr PQ W0 w B T M G N σ σ) {K : Nat} (hF : Few K σ) (hK : K ≤ 1000) (t x : Int) :
    Calls Tryz.prog 7 #[.pointer (some ⟨B, 0, none⟩), .pointer (some ⟨M, 0, none⟩), .agg #[.int .i64 3, .int .i64 t, .int .i64 x]] w fun e w' => e = .returned (.bool true) ∧ ∃ T', Pr PQ W0 w' B T' M G N (turnS σ t 2 1 true) (turnS σ t 2 1 true) ∧ Step (T ++ [M, G]) w (T' ++ [M, G]) w' := by
  obtain ⟨n0, n1, hs, hl⟩ := hF.sml hK
  have hT := h.outT S (Nat.le_refl _)
  have hR := h.outR (Nat.le_refl _)
  have h1 := h.keep S ((Hp.But.refl [] w).alloc (.cells #[.int .i64 3, .int .i64 t, .int .i64 x] 29))
  have hA := AcAt.new w 3 t x
  have c0 := ac0 w 3 t x
  obtain ⟨c1, c2⟩ := hA
  have st1 : Step (T ++ [M, G]) w (T ++ [M, G]) (w.alloc (.cells #[.int .i64 3, .int .i64 t, .int .i64 x] 29)) := Step.keep ((Hp.But.refl [] w).alloc _)
  have C1 : ∀ W, PQ W B T N σ → _ := fun W h => S.back h hF hK t
  have C2 : ∀ W, RQ W M G N σ → _ := fun W h => rback_any (w := W) h t (by omega) (by omega)
  clear h hF hs hl
  generalize turnS σ t 2 1 true = s at *
  generalize turnE σ t 2 = e1 at *
  clear n0 n1
  go_enter Tryz.func7, Tryz.ntmps7
  go_wp2_with fail
  generalize w.alloc (.cells #[.int .i64 3, .int .i64 t, .int .i64 x] 29) = W1 at *
  have h1d := h1.keep S (Hp.But.refl [] W1).drew
  have hS : AcAt W1 w.heap.size t x := ⟨c1, c2⟩
  have hSd : AcAt W1.drew w.heap.size t x := ⟨c1, c2⟩
  go_region_held3 (fun w' => w'.cell? ⟨w.heap.size, 1, none⟩ = some (.int .i64 t) ∧ w'.cell? ⟨w.heap.size, 2, none⟩ = some (.int .i64 x)) (first | with_reducible assumption | with_reducible exact hSd) (first
    | (go_at_call 14; (with_reducible refine (C1 _ h1d.a).mono ?_); rintro e w2 ⟨rfl, T2, a2, s2⟩; have h2 := h1d.left a2 s2; have k2 := hSd.but s2.but hT)
    | (go_at_call 19; (with_reducible refine (C2 _ h2.r).mono ?_); rintro e w3 ⟨rfl, r3, s3⟩; have h3 := h2.right S r3 s3; have k3 := k2.but s3 hR))
  all_goals
    go_wp2_with fail
    go_ret
    exact ⟨by simp, T2, h3, ((st1.trans (Step.keep (Hp.But.refl [] W1).drew)).trans (s2.left [M, G])).trans ((Step.same s3).right T2)⟩

set_option maxRecDepth 100000 in
set_option maxHeartbeats 2000000 in
theorem act4 (S : Side PQ) (h : Pr PQ W0 w B T M G N σ σ) {K : Nat} (hF : Few K σ) (hK : K ≤ 1000) (t x : Int) :
    Calls Tryz.prog 7 #[.pointer (some ⟨B, 0, none⟩), .pointer (some ⟨M, 0, none⟩), .agg #[.int .i64 4, .int .i64 t, .int .i64 x]] w fun e w' => e = .returned (.bool true) ∧ ∃ T', Pr PQ W0 w' B T' M G N (turnS σ t 2 3 false) (turnS σ t 2 3 false) ∧ Step (T ++ [M, G]) w (T' ++ [M, G]) w' := by
  obtain ⟨n0, n1, hs, hl⟩ := hF.sml hK
  have hT := h.outT S (Nat.le_refl _)
  have hR := h.outR (Nat.le_refl _)
  have h1 := h.keep S ((Hp.But.refl [] w).alloc (.cells #[.int .i64 4, .int .i64 t, .int .i64 x] 29))
  have hA := AcAt.new w 4 t x
  have c0 := ac0 w 4 t x
  obtain ⟨c1, c2⟩ := hA
  have st1 : Step (T ++ [M, G]) w (T ++ [M, G]) (w.alloc (.cells #[.int .i64 4, .int .i64 t, .int .i64 x] 29)) := Step.keep ((Hp.But.refl [] w).alloc _)
  have C1 : ∀ W, PQ W B T N σ → _ := fun W h => S.block h hF hK t
  have C2 : ∀ W, RQ W M G N σ → _ := fun W h => rblock_any (w := W) h t (by omega) (by omega)
  clear h hF hs hl
  generalize turnS σ t 2 3 false = s at *
  generalize turnE σ t 2 = e1 at *
  clear n0 n1
  go_enter Tryz.func7, Tryz.ntmps7
  go_wp2_with fail
  generalize w.alloc (.cells #[.int .i64 4, .int .i64 t, .int .i64 x] 29) = W1 at *
  have h1d := h1.keep S (Hp.But.refl [] W1).drew
  have hS : AcAt W1 w.heap.size t x := ⟨c1, c2⟩
  have hSd : AcAt W1.drew w.heap.size t x := ⟨c1, c2⟩
  go_region_held3 (fun w' => w'.cell? ⟨w.heap.size, 1, none⟩ = some (.int .i64 t) ∧ w'.cell? ⟨w.heap.size, 2, none⟩ = some (.int .i64 x)) (first | with_reducible assumption | with_reducible exact hSd) (first
    | (go_at_call 20; (with_reducible refine (C1 _ h1d.a).mono ?_); rintro e w2 ⟨rfl, T2, a2, s2⟩; have h2 := h1d.left a2 s2; have k2 := hSd.but s2.but hT)
    | (go_at_call 21; (with_reducible refine (C2 _ h2.r).mono ?_); rintro e w3 ⟨rfl, r3, s3⟩; have h3 := h2.right S r3 s3; have k3 := k2.but s3 hR))
  all_goals
    go_wp2_with fail
    go_ret
    exact ⟨by simp, T2, h3, ((st1.trans (Step.keep (Hp.But.refl [] W1).drew)).trans (s2.left [M, G])).trans ((Step.same s3).right T2)⟩

set_option maxRecDepth 100000 in
set_option maxHeartbeats 2000000 in
theorem act5 (S : Side PQ) (h : Pr PQ W0 w B T M G N σ σ) {K : Nat} (hF : Few K σ) (hK : K ≤ 1000) (t x : Int) :
    Calls Tryz.prog 7 #[.pointer (some ⟨B, 0, none⟩), .pointer (some ⟨M, 0, none⟩), .agg #[.int .i64 5, .int .i64 t, .int .i64 x]] w fun e w' => e = .returned (.bool true) ∧ ∃ T', Pr PQ W0 w' B T' M G N (turnS σ t 3 1 true) (turnS σ t 3 1 true) ∧ Step (T ++ [M, G]) w (T' ++ [M, G]) w' := by
  obtain ⟨n0, n1, hs, hl⟩ := hF.sml hK
  have hT := h.outT S (Nat.le_refl _)
  have hR := h.outR (Nat.le_refl _)
  have h1 := h.keep S ((Hp.But.refl [] w).alloc (.cells #[.int .i64 5, .int .i64 t, .int .i64 x] 29))
  have hA := AcAt.new w 5 t x
  have c0 := ac0 w 5 t x
  obtain ⟨c1, c2⟩ := hA
  have st1 : Step (T ++ [M, G]) w (T ++ [M, G]) (w.alloc (.cells #[.int .i64 5, .int .i64 t, .int .i64 x] 29)) := Step.keep ((Hp.But.refl [] w).alloc _)
  have C1 : ∀ W, PQ W B T N σ → _ := fun W h => S.wake h hF hK t
  have C2 : ∀ W, RQ W M G N σ → _ := fun W h => rwake_any (w := W) h t (by omega) (by omega)
  clear h hF hs hl
  generalize turnS σ t 3 1 true = s at *
  generalize turnE σ t 3 = e1 at *
  clear n0 n1
  go_enter Tryz.func7, Tryz.ntmps7
  go_wp2_with fail
  generalize w.alloc (.cells #[.int .i64 5, .int .i64 t, .int .i64 x] 29) = W1 at *
  have h1d := h1.keep S (Hp.But.refl [] W1).drew
  have hS : AcAt W1 w.heap.size t x := ⟨c1, c2⟩
  have hSd : AcAt W1.drew w.heap.size t x := ⟨c1, c2⟩
  go_region_held3 (fun w' => w'.cell? ⟨w.heap.size, 1, none⟩ = some (.int .i64 t) ∧ w'.cell? ⟨w.heap.size, 2, none⟩ = some (.int .i64 x)) (first | with_reducible assumption | with_reducible exact hSd) (first
    | (go_at_call 22; (with_reducible refine (C1 _ h1d.a).mono ?_); rintro e w2 ⟨rfl, T2, a2, s2⟩; have h2 := h1d.left a2 s2; have k2 := hSd.but s2.but hT)
    | (go_at_call 23; (with_reducible refine (C2 _ h2.r).mono ?_); rintro e w3 ⟨rfl, r3, s3⟩; have h3 := h2.right S r3 s3; have k3 := k2.but s3 hR))
  all_goals
    go_wp2_with fail
    go_ret
    exact ⟨by simp, T2, h3, ((st1.trans (Step.keep (Hp.But.refl [] W1).drew)).trans (s2.left [M, G])).trans ((Step.same s3).right T2)⟩

set_option maxRecDepth 100000 in
set_option maxHeartbeats 2000000 in
theorem act6 (S : Side PQ) (h : Pr PQ W0 w B T M G N σ σ) {K : Nat} (hF : Few K σ) (hK : K ≤ 1000) (t x : Int) :
    Calls Tryz.prog 7 #[.pointer (some ⟨B, 0, none⟩), .pointer (some ⟨M, 0, none⟩), .agg #[.int .i64 6, .int .i64 t, .int .i64 x]] w fun e w' => e = .returned (.bool true) ∧ ∃ T', Pr PQ W0 w' B T' M G N (turnS σ t 3 2 false) (turnS σ t 3 2 false) ∧ Step (T ++ [M, G]) w (T' ++ [M, G]) w' := by
  obtain ⟨n0, n1, hs, hl⟩ := hF.sml hK
  have hT := h.outT S (Nat.le_refl _)
  have hR := h.outR (Nat.le_refl _)
  have h1 := h.keep S ((Hp.But.refl [] w).alloc (.cells #[.int .i64 6, .int .i64 t, .int .i64 x] 29))
  have hA := AcAt.new w 6 t x
  have c0 := ac0 w 6 t x
  obtain ⟨c1, c2⟩ := hA
  have st1 : Step (T ++ [M, G]) w (T ++ [M, G]) (w.alloc (.cells #[.int .i64 6, .int .i64 t, .int .i64 x] 29)) := Step.keep ((Hp.But.refl [] w).alloc _)
  have C1 : ∀ W, PQ W B T N σ → _ := fun W h => S.resume h hF hK t
  have C2 : ∀ W, RQ W M G N σ → _ := fun W h => rresume_any (w := W) h t (by omega) (by omega)
  clear h hF hs hl
  generalize turnS σ t 3 2 false = s at *
  generalize turnE σ t 3 = e1 at *
  clear n0 n1
  go_enter Tryz.func7, Tryz.ntmps7
  go_wp2_with fail
  generalize w.alloc (.cells #[.int .i64 6, .int .i64 t, .int .i64 x] 29) = W1 at *
  have h1d := h1.keep S (Hp.But.refl [] W1).drew
  have hS : AcAt W1 w.heap.size t x := ⟨c1, c2⟩
  have hSd : AcAt W1.drew w.heap.size t x := ⟨c1, c2⟩
  go_region_held3 (fun w' => w'.cell? ⟨w.heap.size, 1, none⟩ = some (.int .i64 t) ∧ w'.cell? ⟨w.heap.size, 2, none⟩ = some (.int .i64 x)) (first | with_reducible assumption | with_reducible exact hSd) (first
    | (go_at_call 24; (with_reducible refine (C1 _ h1d.a).mono ?_); rintro e w2 ⟨rfl, T2, a2, s2⟩; have h2 := h1d.left a2 s2; have k2 := hSd.but s2.but hT)
    | (go_at_call 25; (with_reducible refine (C2 _ h2.r).mono ?_); rintro e w3 ⟨rfl, r3, s3⟩; have h3 := h2.right S r3 s3; have k3 := k2.but s3 hR))
  all_goals
    go_wp2_with fail
    go_ret
    exact ⟨by simp, T2, h3, ((st1.trans (Step.keep (Hp.But.refl [] W1).drew)).trans (s2.left [M, G])).trans ((Step.same s3).right T2)⟩

set_option maxRecDepth 100000 in
set_option maxHeartbeats 2000000 in
theorem act7 (S : Side PQ) (h : Pr PQ W0 w B T M G N σ σ) {K : Nat} (hF : Few K σ) (hK : K ≤ 1000) (t x : Int) :
    Calls Tryz.prog 7 #[.pointer (some ⟨B, 0, none⟩), .pointer (some ⟨M, 0, none⟩), .agg #[.int .i64 7, .int .i64 t, .int .i64 x]] w fun e w' => e = .returned (.bool true) ∧ ∃ T', Pr PQ W0 w' B T' M G N (dropS σ t) (dropS σ t) ∧ Step (T ++ [M, G]) w (T' ++ [M, G]) w' := by
  obtain ⟨n0, n1, hs, hl⟩ := hF.sml hK
  have hT := h.outT S (Nat.le_refl _)
  have hR := h.outR (Nat.le_refl _)
  have h1 := h.keep S ((Hp.But.refl [] w).alloc (.cells #[.int .i64 7, .int .i64 t, .int .i64 x] 29))
  have hA := AcAt.new w 7 t x
  have c0 := ac0 w 7 t x
  obtain ⟨c1, c2⟩ := hA
  have st1 : Step (T ++ [M, G]) w (T ++ [M, G]) (w.alloc (.cells #[.int .i64 7, .int .i64 t, .int .i64 x] 29)) := Step.keep ((Hp.But.refl [] w).alloc _)
  have C1 : ∀ W, PQ W B T N σ → _ := fun W h => S.drop h hF hK t
  have C2 : ∀ W, RQ W M G N σ → _ := fun W h => drop_any (w := W) h t
  clear h hF hs hl
  generalize dropS σ t = s at *
  generalize dropE σ t = e1 at *
  clear n0 n1
  go_enter Tryz.func7, Tryz.ntmps7
  go_wp2_with fail
  generalize w.alloc (.cells #[.int .i64 7, .int .i64 t, .int .i64 x] 29) = W1 at *
  have h1d := h1.keep S (Hp.But.refl [] W1).drew
  have hS : AcAt W1 w.heap.size t x := ⟨c1, c2⟩
  have hSd : AcAt W1.drew w.heap.size t x := ⟨c1, c2⟩
  go_region_held3 (fun w' => w'.cell? ⟨w.heap.size, 1, none⟩ = some (.int .i64 t) ∧ w'.cell? ⟨w.heap.size, 2, none⟩ = some (.int .i64 x)) (first | with_reducible assumption | with_reducible exact hSd) (first
    | (go_at_call 26; (with_reducible refine (C1 _ h1d.a).mono ?_); rintro e w2 ⟨rfl, T2, a2, s2⟩; have h2 := h1d.left a2 s2; have k2 := hSd.but s2.but hT)
    | (go_at_call 27; (with_reducible refine (C2 _ h2.r).mono ?_); rintro e w3 ⟨rfl, r3, s3⟩; have h3 := h2.right S r3 s3; have k3 := k2.but s3 hR))
  all_goals
    go_wp2_with fail
    go_ret
    exact ⟨by simp, T2, h3, ((st1.trans (Step.keep (Hp.But.refl [] W1).drew)).trans (s2.left [M, G])).trans ((Step.same s3).right T2)⟩

set_option maxRecDepth 100000 in
set_option maxHeartbeats 2000000 in
theorem act1 (S : Side PQ) (h : Pr PQ W0 w B T M G N σ σ) {K : Nat} (hF : Few K σ) (hK : K ≤ 1000) (t x : Int) :
    Calls Tryz.prog 7 #[.pointer (some ⟨B, 0, none⟩), .pointer (some ⟨M, 0, none⟩), .agg #[.int .i64 1, .int .i64 t, .int .i64 x]] w fun e w' => e = .returned (.bool true) ∧ ∃ T', Pr PQ W0 w' B T' M G N (pickS σ) (pickS σ) ∧ Step (T ++ [M, G]) w (T' ++ [M, G]) w' := by
  obtain ⟨n0, n1, hs, hl⟩ := hF.sml hK
  have hN := h.r.len
  have h1 := h.keep S ((Hp.But.refl [] w).alloc (.cells #[.int .i64 1, .int .i64 t, .int .i64 x] 29))
  have c0 := ac0 w 1 t x
  have st1 : Step (T ++ [M, G]) w (T ++ [M, G]) (w.alloc (.cells #[.int .i64 1, .int .i64 t, .int .i64 x] 29)) := Step.keep ((Hp.But.refl [] w).alloc _)
  have C1 : ∀ W, PQ W B T N σ → _ := fun W h => S.pick h hF hK
  have C2 : ∀ W, RQ W M G N σ → _ := fun W h => pick_any (w := W) h (by omega) hs
  clear h hF hs hl
  generalize pickS σ = s at *
  generalize pickI σ = y1 at *
  generalize pickB σ = y2 at *
  clear n0 n1
  go_enter Tryz.func7, Tryz.ntmps7
  go_wp2_with (first
    | (go_at_call 13; (with_reducible refine (C1 _ h1.a).mono ?_); rintro e w2 ⟨rfl, T2, a2, s2⟩; have h2 := h1.left a2 s2)
    | (go_at_call 16; (with_reducible refine (C2 _ h2.r).mono ?_); rintro e w3 ⟨rfl, r3, s3⟩; have h3 := h2.right S r3 s3))
  go_ret
  exact ⟨by simp, T2, h3, (st1.trans (s2.left [M, G])).trans ((Step.same s3).right T2)⟩

set_option maxRecDepth 100000 in
set_option maxHeartbeats 2000000 in
theorem act8 (S : Side PQ) (h : Pr PQ W0 w B T M G N σ σ) {K : Nat} (hF : Few K σ) (hK : K ≤ 1000) (t x : Int) :
    Calls Tryz.prog 7 #[.pointer (some ⟨B, 0, none⟩), .pointer (some ⟨M, 0, none⟩), .agg #[.int .i64 8, .int .i64 t, .int .i64 x]] w fun e w' => e = .returned (.bool true) ∧ ∃ T', Pr PQ W0 w' B T' M G N (lowS σ) (lowS σ) ∧ Step (T ++ [M, G]) w (T' ++ [M, G]) w' := by
  obtain ⟨n0, n1, hs, hl⟩ := hF.sml hK
  have hN := h.r.len
  have h1 := h.keep S ((Hp.But.refl [] w).alloc (.cells #[.int .i64 8, .int .i64 t, .int .i64 x] 29))
  have c0 := ac0 w 8 t x
  have st1 : Step (T ++ [M, G]) w (T ++ [M, G]) (w.alloc (.cells #[.int .i64 8, .int .i64 t, .int .i64 x] 29)) := Step.keep ((Hp.But.refl [] w).alloc _)
  have C1 : ∀ W, PQ W B T N σ → _ := fun W h => S.lower h hF hK
  have C2 : ∀ W, RQ W M G N σ → _ := fun W h => lower_any (w := W) h (by omega) (by omega) (fun i hi => hl i (by omega))
  clear h hF hs hl
  generalize lowS σ = s at *
  generalize lowN σ = y1 at *
  clear n0 n1
  go_enter Tryz.func7, Tryz.ntmps7
  go_wp2_with (first
    | (go_at_call 28; (with_reducible refine (C1 _ h1.a).mono ?_); rintro e w2 ⟨rfl, T2, a2, s2⟩; have h2 := h1.left a2 s2)
    | (go_at_call 29; (with_reducible refine (C2 _ h2.r).mono ?_); rintro e w3 ⟨rfl, r3, s3⟩; have h3 := h2.right S r3 s3))
  go_ret
  exact ⟨by simp, T2, h3, (st1.trans (s2.left [M, G])).trans ((Step.same s3).right T2)⟩

set_option maxRecDepth 100000 in
set_option maxHeartbeats 2000000 in
theorem act9 (S : Side PQ) (h : Pr PQ W0 w B T M G N σ σ) (k t x : Int) (h0 : ¬ k = 0) (h1 : ¬ k = 1) (h2 : ¬ k = 2) (h3 : ¬ k = 3) (h4 : ¬ k = 4) (h5 : ¬ k = 5) (h6 : ¬ k = 6) (h7 : ¬ k = 7) (h8 : ¬ k = 8) :
    Calls Tryz.prog 7 #[.pointer (some ⟨B, 0, none⟩), .pointer (some ⟨M, 0, none⟩), .agg #[.int .i64 k, .int .i64 t, .int .i64 x]] w fun e w' => e = .returned (.bool true) ∧ ∃ T', Pr PQ W0 w' B T' M G N σ σ ∧ Step (T ++ [M, G]) w (T' ++ [M, G]) w' := by
  have hh := h.keep S ((Hp.But.refl [] w).alloc (.cells #[.int .i64 k, .int .i64 t, .int .i64 x] 29))
  have e0 : (k == 0) = false := by simpa using h0
  have e1 : (k == 1) = false := by simpa using h1
  have e2 : (k == 2) = false := by simpa using h2
  have e3 : (k == 3) = false := by simpa using h3
  have e4 : (k == 4) = false := by simpa using h4
  have e5 : (k == 5) = false := by simpa using h5
  have e6 : (k == 6) = false := by simpa using h6
  have e7 : (k == 7) = false := by simpa using h7
  have e8 : (k == 8) = false := by simpa using h8
  have c0 := ac0 w k t x
  clear h
  go_enter Tryz.func7, Tryz.ntmps7
  go_wp2_with fail
  go_ret
  exact ⟨rfl, T, hh, Step.keep ((Hp.But.refl [] w).alloc _)⟩

theorem act_any (S : Side PQ) (h : Pr PQ W0 w B T M G N σ σ) {K : Nat} (hF : Few K σ) (hK : K ≤ 1000) (k t x : Int) :
    Calls Tryz.prog 7 #[.pointer (some ⟨B, 0, none⟩), .pointer (some ⟨M, 0, none⟩), .agg #[.int .i64 k, .int .i64 t, .int .i64 x]] w fun e w' => e = .returned (.bool true) ∧ ∃ T', Pr PQ W0 w' B T' M G N (actS σ k t x) (actS σ k t x) ∧ Step (T ++ [M, G]) w (T' ++ [M, G]) w' := by
  unfold actS
  by_cases h0 : k = 0
  · subst h0; simp only [if_true]; exact act0 S h hF hK t x
  · simp only [if_neg h0]
    by_cases h1 : k = 1
    · subst h1; simp only [if_true]; exact act1 S h hF hK t x
    · simp only [if_neg h1]
      by_cases h2 : k = 2
      · subst h2; simp only [if_true]; exact act2 S h hF hK t x
      · simp only [if_neg h2]
        by_cases h3 : k = 3
        · subst h3; simp only [if_true]; exact act3 S h hF hK t x
        · simp only [if_neg h3]
          by_cases h4 : k = 4
          · subst h4; simp only [if_true]; exact act4 S h hF hK t x
          · simp only [if_neg h4]
            by_cases h5 : k = 5
            · subst h5; simp only [if_true]; exact act5 S h hF hK t x
            · simp only [if_neg h5]
              by_cases h6 : k = 6
              · subst h6; simp only [if_true]; exact act6 S h hF hK t x
              · simp only [if_neg h6]
                by_cases h7 : k = 7
                · subst h7; simp only [if_true]; exact act7 S h hF hK t x
                · simp only [if_neg h7]
                  by_cases h8 : k = 8
                  · subst h8; simp only [if_true]; exact act8 S h hF hK t x
                  · simp only [if_neg h8]
                    exact act9 S h k t x h0 h1 h2 h3 h4 h5 h6 h7 h8
end
end Go.Proofs.YtlnfabjgcecebaaGreat.Rd
