/- The contract of the statements' act: a heap and the reference's, with one list. -/
import Derived.Test.YtmogedfjhbfglaaRefLow
import Derived.Test.YtmogedfjhbfglaaNoneWalk
namespace Go.Proofs.Ytmogedfjhbfglaa
open Go.RowKit

/-- Each key is an int. -/
def Bd (q : List Th) : Prop := ∀ p ∈ q, I64 p.2
theorem bd_ins {q : List Th} {id : Nat} {key : Int} (h : Bd q) (hk : I64 key) : Bd (insq (id, key) q) := fun p hp => by
  rcases List.mem_cons.1 ((insq_perm _ _).subset hp) with rfl | hp
  · exact hk
  · exact h p hp
theorem bd_rem {q : List Th} (h : Bd q) (t : Int) : Bd (remq q t) := fun p hp => h p (remq_not hp).1
theorem bd_put {N : Nat} {q : List Th} {t key : Int} (h : Bd q) (hk : I64 key) : Bd (putS N q t key) := by
  unfold putS
  split
  · exact bd_ins h hk
  · exact h
theorem bd_chg {N : Nat} {q : List Th} {t key : Int} (h : Bd q) (hk : I64 key) : Bd (chgS N q t key) := by
  unfold chgS
  split
  · exact bd_ins (bd_rem h _) hk
  · exact h
theorem bd_rmv {N : Nat} {q : List Th} {t : Int} (h : Bd q) : Bd (remS N q t) := by
  unfold remS
  split
  · exact bd_rem h _
  · exact h
theorem bd_tail {q : List Th} (h : Bd q) : Bd q.tail := fun p hp => h p (List.mem_of_mem_tail hp)
theorem bd_low {q : List Th} {c : Int} (h : Bd q) : Bd (lowS q c) := by
  unfold lowS
  split
  · rename_i hb
    intro p hp
    obtain ⟨r, hr, rfl⟩ := List.mem_map.1 hp
    unfold lowB at hb
    rw [List.all_eq_true] at hb
    have := hb r hr
    unfold fitsB at this
    unfold I64
    simpa using this
  · exact h

/-- A heap of the program's and one of the reference's with the same list, laid apart. -/
structure Pr (W0 w : World) (B : Nat) (T : List Nat) (M : Nat) (R : List Nat) (N : Nat) (q q' : List Th) : Prop where
  a : HQ w B T N q
  r : RQ w M R N q'
  d : Disj T R
  s : Step [] W0 (T ++ R) w

/-- What becomes of the list. -/
def actS (N : Nat) (q : List Th) (k t key : Int) : List Th :=
  if k = 0 then putS N q t key else if k = 1 then chgS N q t key else if k = 2 then remS N q t else if k = 3 then q.tail else if k = 4 then lowS q key else q

section
variable {W0 w w' : World} {B M N : Nat} {T R T' R' : List Nat} {q q' s : List Th}
theorem Pr.keep (h : Pr W0 w B T M R N q q') (hb : But [] w w') : Pr W0 w' B T M R N q q' := ⟨h.a.keep hb, h.r.keep hb, h.d, h.s.trans (Step.keep hb)⟩
theorem Pr.left (h : Pr W0 w B T M R N q q') (h' : HQ w' B T' N s) (st : Step T w T' w') : Pr W0 w' B T' M R N s q' := ⟨h', h.r.but st.but h.d.symm, h.d.step st h.r.lt, h.s.trans (st.left R)⟩
theorem Pr.right (h : Pr W0 w B T M R N q q') (h' : RQ w' M R' N s) (st : Step R w R' w') : Pr W0 w' B T M R' N q s := ⟨h.a.but st.but h.d, h', (h.d.symm.step st h.a.lt).symm, h.s.trans (st.right T)⟩
theorem Pr.outT (h : Pr W0 w B T M R N q q') {A : Nat} (hA : w.heap.size ≤ A) : A ∉ T := fun e => by have := h.a.lt A e; omega
theorem Pr.outR (h : Pr W0 w B T M R N q q') {A : Nat} (hA : w.heap.size ≤ A) : A ∉ R := fun e => by have := h.r.lt A e; omega
theorem act_cells {S : List Nat} {A : Nat} {t key : Int} (hA : A ∉ S) (hb : But S w w') (h : w.cell? ⟨A, 1, none⟩ = some (.int .i64 t) ∧ w.cell? ⟨A, 2, none⟩ = some (.int .i64 key)) : w'.cell? ⟨A, 1, none⟩ = some (.int .i64 t) ∧ w'.cell? ⟨A, 2, none⟩ = some (.int .i64 key) :=
  ⟨hb.cell' h.1 hA, hb.cell' h.2 hA⟩

set_option maxRecDepth 100000 in
set_option maxHeartbeats 2000000 in
theorem act_put (h : Pr W0 w B T M R N q q) (t key : Int) :
    Calls Try.prog 11 #[.pointer (some ⟨B, 0, none⟩), .pointer (some ⟨M, 0, none⟩), .agg #[.int .i64 0, .int .i64 t, .int .i64 key]] w fun e w' => e = .returned (.bool true) ∧ ∃ T' R', Pr W0 w' B T' M R' N (putS N q t key) (putS N q t key) ∧ Step (T ++ R) w (T' ++ R') w' := by
  have hT := h.outT (Nat.le_refl _)
  have hR := h.outR (Nat.le_refl _)
  have h1 := h.keep ((But.refl [] w).alloc (.cells #[.int .i64 0, .int .i64 t, .int .i64 key] 29))
  obtain ⟨c0, c1, c2⟩ := ActAt.new w 0 t key
  have hn := h.a.nd
  have st1 : Step (T ++ R) w (T ++ R) (w.alloc (.cells #[.int .i64 0, .int .i64 t, .int .i64 key] 29)) := Step.keep ((But.refl [] w).alloc _)
  have HL : ∀ W T', HQ W B T' N (putS N q t key) → askE N q t false 5 = 0 → q.length < N := fun W T' h e => by
    have := h.sizes
    unfold putS at this
    rw [if_pos e, (insq_perm _ _).length_eq, List.length_cons] at this
    omega
  have C1 : ∀ W, HQ W B T N q → _ := fun W h => put_any (w := W) h t key
  have C2 : ∀ W T', HQ W B T' N (putS N q t key) → RQ W M R N q → _ := fun W T' h' h => rput_any (w := W) h t key (HL W T' h')
  clear h hn HL
  generalize putS N q t key = s at *
  generalize askE N q t false 5 = e1 at *
  go_enter Try.func11, Try.ntmps11
  go_wp2_with fail
  generalize w.alloc (.cells #[.int .i64 0, .int .i64 t, .int .i64 key] 29) = W1 at *
  have h1d := h1.keep (But.refl [] W1).drew
  have hS : W1.cell? ⟨w.heap.size, 1, none⟩ = some (.int .i64 t) ∧ W1.cell? ⟨w.heap.size, 2, none⟩ = some (.int .i64 key) := ⟨c1, c2⟩
  have hSd : W1.drew.cell? ⟨w.heap.size, 1, none⟩ = some (.int .i64 t) ∧ W1.drew.cell? ⟨w.heap.size, 2, none⟩ = some (.int .i64 key) := ⟨c1, c2⟩
  go_region_held3 (fun w' => w'.cell? ⟨w.heap.size, 1, none⟩ = some (.int .i64 t) ∧ w'.cell? ⟨w.heap.size, 2, none⟩ = some (.int .i64 key)) (first | with_reducible assumption | with_reducible exact hSd) (first
    | (go_at_call 20; refine (C1 _ h1d.a).mono ?_; rintro e w2 ⟨rfl, T2, a2, s2⟩; have h2 := h1d.left a2 s2; have k2 := act_cells hT s2.but hSd)
    | (go_at_call 26; refine (C2 _ _ h2.a h2.r).mono ?_; rintro e w3 ⟨rfl, R3, r3, s3⟩; have h3 := h2.right r3 s3; have k3 := act_cells hR s3.but k2))
  all_goals
    go_wp2_with fail
    go_ret
    exact ⟨by simp, T2, R3, h3, ((st1.trans (Step.keep (But.refl [] W1).drew)).trans (s2.left R)).trans (s3.right T2)⟩

set_option maxRecDepth 100000 in
set_option maxHeartbeats 2000000 in
theorem act_change (h : Pr W0 w B T M R N q q) (t key : Int) :
    Calls Try.prog 11 #[.pointer (some ⟨B, 0, none⟩), .pointer (some ⟨M, 0, none⟩), .agg #[.int .i64 1, .int .i64 t, .int .i64 key]] w fun e w' => e = .returned (.bool true) ∧ ∃ T' R', Pr W0 w' B T' M R' N (chgS N q t key) (chgS N q t key) ∧ Step (T ++ R) w (T' ++ R') w' := by
  have hT := h.outT (Nat.le_refl _)
  have hR := h.outR (Nat.le_refl _)
  have h1 := h.keep ((But.refl [] w).alloc (.cells #[.int .i64 1, .int .i64 t, .int .i64 key] 29))
  obtain ⟨c0, c1, c2⟩ := ActAt.new w 1 t key
  have hn := h.a.nd
  have st1 : Step (T ++ R) w (T ++ R) (w.alloc (.cells #[.int .i64 1, .int .i64 t, .int .i64 key] 29)) := Step.keep ((But.refl [] w).alloc _)
  have C1 : ∀ W, HQ W B T N q → _ := fun W h => change_any (w := W) h t key
  have C2 : ∀ W T', HQ W B T' N (chgS N q t key) → RQ W M R N q → _ := fun W T' h' h => rchange_any (w := W) h hn t key
  clear h hn
  generalize chgS N q t key = s at *
  generalize askE N q t true 4 = e1 at *
  go_enter Try.func11, Try.ntmps11
  go_wp2_with fail
  generalize w.alloc (.cells #[.int .i64 1, .int .i64 t, .int .i64 key] 29) = W1 at *
  have h1d := h1.keep (But.refl [] W1).drew
  have hS : W1.cell? ⟨w.heap.size, 1, none⟩ = some (.int .i64 t) ∧ W1.cell? ⟨w.heap.size, 2, none⟩ = some (.int .i64 key) := ⟨c1, c2⟩
  have hSd : W1.drew.cell? ⟨w.heap.size, 1, none⟩ = some (.int .i64 t) ∧ W1.drew.cell? ⟨w.heap.size, 2, none⟩ = some (.int .i64 key) := ⟨c1, c2⟩
  go_region_held3 (fun w' => w'.cell? ⟨w.heap.size, 1, none⟩ = some (.int .i64 t) ∧ w'.cell? ⟨w.heap.size, 2, none⟩ = some (.int .i64 key)) (first | with_reducible assumption | with_reducible exact hSd) (first
    | (go_at_call 22; refine (C1 _ h1d.a).mono ?_; rintro e w2 ⟨rfl, T2, a2, s2⟩; have h2 := h1d.left a2 s2; have k2 := act_cells hT s2.but hSd)
    | (go_at_call 27; refine (C2 _ _ h2.a h2.r).mono ?_; rintro e w3 ⟨rfl, R3, r3, s3⟩; have h3 := h2.right r3 s3; have k3 := act_cells hR s3.but k2))
  all_goals
    go_wp2_with fail
    go_ret
    exact ⟨by simp, T2, R3, h3, ((st1.trans (Step.keep (But.refl [] W1).drew)).trans (s2.left R)).trans (s3.right T2)⟩

set_option maxRecDepth 100000 in
set_option maxHeartbeats 2000000 in
theorem act_remove (h : Pr W0 w B T M R N q q) (t key : Int) :
    Calls Try.prog 11 #[.pointer (some ⟨B, 0, none⟩), .pointer (some ⟨M, 0, none⟩), .agg #[.int .i64 2, .int .i64 t, .int .i64 key]] w fun e w' => e = .returned (.bool true) ∧ ∃ T' R', Pr W0 w' B T' M R' N (remS N q t) (remS N q t) ∧ Step (T ++ R) w (T' ++ R') w' := by
  have hT := h.outT (Nat.le_refl _)
  have hR := h.outR (Nat.le_refl _)
  have h1 := h.keep ((But.refl [] w).alloc (.cells #[.int .i64 2, .int .i64 t, .int .i64 key] 29))
  obtain ⟨c0, c1, c2⟩ := ActAt.new w 2 t key
  have hn := h.a.nd
  have st1 : Step (T ++ R) w (T ++ R) (w.alloc (.cells #[.int .i64 2, .int .i64 t, .int .i64 key] 29)) := Step.keep ((But.refl [] w).alloc _)
  have C1 : ∀ W, HQ W B T N q → _ := fun W h => remove_any (w := W) h t
  have C2 : ∀ W T', HQ W B T' N (remS N q t) → RQ W M R N q → _ := fun W T' h' h => rremove_any (w := W) h hn t
  clear h hn
  generalize remS N q t = s at *
  generalize askE N q t true 4 = e1 at *
  go_enter Try.func11, Try.ntmps11
  go_wp2_with fail
  generalize w.alloc (.cells #[.int .i64 2, .int .i64 t, .int .i64 key] 29) = W1 at *
  have h1d := h1.keep (But.refl [] W1).drew
  have hS : W1.cell? ⟨w.heap.size, 1, none⟩ = some (.int .i64 t) ∧ W1.cell? ⟨w.heap.size, 2, none⟩ = some (.int .i64 key) := ⟨c1, c2⟩
  have hSd : W1.drew.cell? ⟨w.heap.size, 1, none⟩ = some (.int .i64 t) ∧ W1.drew.cell? ⟨w.heap.size, 2, none⟩ = some (.int .i64 key) := ⟨c1, c2⟩
  go_region_held3 (fun w' => w'.cell? ⟨w.heap.size, 1, none⟩ = some (.int .i64 t) ∧ w'.cell? ⟨w.heap.size, 2, none⟩ = some (.int .i64 key)) (first | with_reducible assumption | with_reducible exact hSd) (first
    | (go_at_call 23; refine (C1 _ h1d.a).mono ?_; rintro e w2 ⟨rfl, T2, a2, s2⟩; have h2 := h1d.left a2 s2; have k2 := act_cells hT s2.but hSd)
    | (go_at_call 28; refine (C2 _ _ h2.a h2.r).mono ?_; rintro e w3 ⟨rfl, R3, r3, s3⟩; have h3 := h2.right r3 s3; have k3 := act_cells hR s3.but k2))
  all_goals
    go_wp2_with fail
    go_ret
    exact ⟨by simp, T2, R3, h3, ((st1.trans (Step.keep (But.refl [] W1).drew)).trans (s2.left R)).trans (s3.right T2)⟩

set_option maxRecDepth 100000 in
set_option maxHeartbeats 2000000 in
theorem act_lower (h : Pr W0 w B T M R N q q) (hq : Bd q) (t key : Int) (hk : I64 key) :
    Calls Try.prog 11 #[.pointer (some ⟨B, 0, none⟩), .pointer (some ⟨M, 0, none⟩), .agg #[.int .i64 4, .int .i64 t, .int .i64 key]] w fun e w' => e = .returned (.bool true) ∧ ∃ T' R', Pr W0 w' B T' M R' N (lowS q key) (lowS q key) ∧ Step (T ++ R) w (T' ++ R') w' := by
  have hT := h.outT (Nat.le_refl _)
  have hR := h.outR (Nat.le_refl _)
  have h1 := h.keep ((But.refl [] w).alloc (.cells #[.int .i64 4, .int .i64 t, .int .i64 key] 29))
  obtain ⟨c0, c1, c2⟩ := ActAt.new w 4 t key
  have hn := h.a.nd
  have st1 : Step (T ++ R) w (T ++ R) (w.alloc (.cells #[.int .i64 4, .int .i64 t, .int .i64 key] 29)) := Step.keep ((But.refl [] w).alloc _)
  have C1 : ∀ W, HQ W B T N q → _ := fun W h => lower_any (w := W) h hq key hk
  have C2 : ∀ W T', HQ W B T' N (lowS q key) → RQ W M R N q → _ := fun W T' h' h => rlower_any (w := W) h hq key hk
  clear h hn
  generalize lowS q key = s at *
  generalize lowE q key = e1 at *
  go_enter Try.func11, Try.ntmps11
  go_wp2_with fail
  generalize w.alloc (.cells #[.int .i64 4, .int .i64 t, .int .i64 key] 29) = W1 at *
  have h1d := h1.keep (But.refl [] W1).drew
  have hS : W1.cell? ⟨w.heap.size, 1, none⟩ = some (.int .i64 t) ∧ W1.cell? ⟨w.heap.size, 2, none⟩ = some (.int .i64 key) := ⟨c1, c2⟩
  have hSd : W1.drew.cell? ⟨w.heap.size, 1, none⟩ = some (.int .i64 t) ∧ W1.drew.cell? ⟨w.heap.size, 2, none⟩ = some (.int .i64 key) := ⟨c1, c2⟩
  go_region_held3 (fun w' => w'.cell? ⟨w.heap.size, 1, none⟩ = some (.int .i64 t) ∧ w'.cell? ⟨w.heap.size, 2, none⟩ = some (.int .i64 key)) (first | with_reducible assumption | with_reducible exact hSd) (first
    | (go_at_call 24; refine (C1 _ h1d.a).mono ?_; rintro e w2 ⟨rfl, T2, a2, s2⟩; have h2 := h1d.left a2 s2; have k2 := act_cells hT s2.but hSd)
    | (go_at_call 30; refine (C2 _ _ h2.a h2.r).mono ?_; rintro e w3 ⟨rfl, R3, r3, s3⟩; have h3 := h2.right r3 s3; have k3 := act_cells hR s3.but k2))
  all_goals
    go_wp2_with fail
    go_ret
    exact ⟨by simp, T2, R3, h3, ((st1.trans (Step.keep (But.refl [] W1).drew)).trans (s2.left R)).trans (s3.right T2)⟩

set_option maxRecDepth 100000 in
set_option maxHeartbeats 2000000 in
theorem act_pop (h : Pr W0 w B T M R N q q) (t key : Int) :
    Calls Try.prog 11 #[.pointer (some ⟨B, 0, none⟩), .pointer (some ⟨M, 0, none⟩), .agg #[.int .i64 3, .int .i64 t, .int .i64 key]] w fun e w' => e = .returned (.bool true) ∧ ∃ T' R', Pr W0 w' B T' M R' N q.tail q.tail ∧ Step (T ++ R) w (T' ++ R') w' := by
  have h1 := h.keep ((But.refl [] w).alloc (.cells #[.int .i64 3, .int .i64 t, .int .i64 key] 29))
  have st1 : Step (T ++ R) w (T ++ R) (w.alloc (.cells #[.int .i64 3, .int .i64 t, .int .i64 key] 29)) := Step.keep ((But.refl [] w).alloc _)
  have C1 : ∀ W, HQ W B T N q → _ := fun W h => pop_any (w := W) h
  have C2 : ∀ W, RQ W M R N q → _ := fun W h => rpop_any (w := W) h
  clear h
  generalize q.tail = s at *
  generalize fstI q = y1 at *
  generalize fstK q = y2 at *
  generalize fstB q = y3 at *
  go_enter Try.func11, Try.ntmps11
  go_wp2_with (first
    | (go_at_call 21; refine (C1 _ h1.a).mono ?_; rintro e w2 ⟨rfl, T2, a2, s2⟩; have h2 := h1.left a2 s2)
    | (go_at_call 29; refine (C2 _ h2.r).mono ?_; rintro e w3 ⟨rfl, R3, r3, s3⟩; have h3 := h2.right r3 s3))
  go_ret
  exact ⟨by simp, T2, R3, h3, (st1.trans (s2.left R)).trans (s3.right T2)⟩

set_option maxRecDepth 100000 in
theorem act_else (h : Pr W0 w B T M R N q q) (k t key : Int) (h0 : ¬ k = 0) (h1 : ¬ k = 1) (h2 : ¬ k = 2) (h3 : ¬ k = 3) (h4 : ¬ k = 4) :
    Calls Try.prog 11 #[.pointer (some ⟨B, 0, none⟩), .pointer (some ⟨M, 0, none⟩), .agg #[.int .i64 k, .int .i64 t, .int .i64 key]] w fun e w' => e = .returned (.bool true) ∧ ∃ T' R', Pr W0 w' B T' M R' N q q ∧ Step (T ++ R) w (T' ++ R') w' := by
  have hh := h.keep ((But.refl [] w).alloc (.cells #[.int .i64 k, .int .i64 t, .int .i64 key] 29))
  have e0 : (k == 0) = false := by simpa using h0
  have e1 : (k == 1) = false := by simpa using h1
  have e2 : (k == 2) = false := by simpa using h2
  have e3 : (k == 3) = false := by simpa using h3
  have e4 : (k == 4) = false := by simpa using h4
  clear h
  go_enter Try.func11, Try.ntmps11
  go_wp2_with fail
  go_ret
  exact ⟨rfl, T, R, hh, Step.keep ((But.refl [] w).alloc _)⟩

theorem act_any (h : Pr W0 w B T M R N q q) (hq : Bd q) (k t key : Int) (hk : I64 key) :
    Calls Try.prog 11 #[.pointer (some ⟨B, 0, none⟩), .pointer (some ⟨M, 0, none⟩), .agg #[.int .i64 k, .int .i64 t, .int .i64 key]] w fun e w' => e = .returned (.bool true) ∧ ∃ T' R', Pr W0 w' B T' M R' N (actS N q k t key) (actS N q k t key) ∧ Step (T ++ R) w (T' ++ R') w' := by
  unfold actS
  by_cases h0 : k = 0
  · subst h0; simp only [if_true]; exact act_put h t key
  · simp only [if_neg h0]
    by_cases h1 : k = 1
    · subst h1; simp only [if_true]; exact act_change h t key
    · simp only [if_neg h1]
      by_cases h2 : k = 2
      · subst h2; simp only [if_true]; exact act_remove h t key
      · simp only [if_neg h2]
        by_cases h3 : k = 3
        · subst h3; simp only [if_true]; exact act_pop h t key
        · simp only [if_neg h3]
          by_cases h4 : k = 4
          · subst h4; simp only [if_true]; exact act_lower h hq t key hk
          · simp only [if_neg h4]; exact act_else h k t key h0 h1 h2 h3 h4
theorem act_bd (hq : Bd q) {k t key : Int} (hk : I64 key) : Bd (actS N q k t key) := by
  unfold actS
  split
  · exact bd_put hq hk
  · split
    · exact bd_chg hq hk
    · split
      · exact bd_rmv hq
      · split
        · exact bd_tail hq
        · split
          · exact bd_low hq
          · exact hq
end

end Go.Proofs.Ytmogedfjhbfglaa
