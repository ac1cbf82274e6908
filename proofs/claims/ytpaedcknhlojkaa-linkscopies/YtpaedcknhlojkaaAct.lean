/- The contract of the statements' act: Links and the reference's, each with lists of its own. -/
import Derived.Test.YtpaedcknhlojkaaRefPu
import Derived.Test.YtpaedcknhlojkaaRefPop
import Derived.Test.YtpaedcknhlojkaaRefMv
import Derived.Test.YtpaedcknhlojkaaNoneWalk
namespace Go.Proofs.Ytpaedcknhlojkaa
open Go.RowKit

/-- Links and the reference's, laid apart. -/
structure Two (w : World) (P : Pl) (lo M LB N L : Nat) (ls ls' : List (List Nat)) : Prop where
  q : LQ w P N L ls
  r : RL w lo M LB N L ls'
  d : ∀ k ∈ [P.B, P.n, P.p, P.w, P.c], k < lo ∧ k ≠ M ∧ k ≠ LB

/-- What becomes of lists. -/
def actS (N L : Nat) (ls : List (List Nat)) (k l t : Int) : List (List Nat) :=
  if k = 0 then pushS N L ls l t else if k = 1 then frontS N L ls l t else if k = 2 then remS N ls t else if k = 3 then popS L ls l else if k = 4 then moveS L ls l t else ls

section
variable {w w' W W' : World} {P : Pl} {lo M LB N L : Nat} {ls ls' s s' : List (List Nat)}
theorem Two.keep (h : Two W P lo M LB N L ls ls') (hb : But [] W W') : Two W' P lo M LB N L ls ls' := ⟨h.q.keep hb, h.r.keep hb, h.d⟩
theorem Two.below (h : Two W P lo M LB N L ls ls') (hb : Below W.heap.size W W') : Two W' P lo M LB N L ls ls' := h.keep (.of_below hb)
theorem Two.left (h : Two W P lo M LB N L ls ls') (hq : LQ W' P N L s) (hb : But P.S W W') : Two W' P lo M LB N L s ls' := ⟨hq, h.r.but hb (fun x hx => h.d x (P_S hx)), h.d⟩
theorem Two.right (h : Two W P lo M LB N L ls ls') (hr : RL W' lo M LB N L s') (hb : But [LB] W W') : Two W' P lo M LB N L ls s' := ⟨h.q.but hb (fun k hk hm => (h.d k hk).2.2 (by simpa using hm)), hr, h.d⟩
theorem But.one (h : But P.S W W') : But (LB :: P.S) W W' := h.mono (fun _ hx => List.mem_cons_of_mem _ hx)
theorem But.two (h : But [LB] W W') : But (LB :: P.S) W W' := h.mono (fun _ hx => by simp at hx; simp [hx])

/-- The act's box is no block of theirs. -/
theorem Two.out (h : Two W P lo M LB N L ls ls') {A : Nat} (hA : W.heap.size ≤ A) : A ∉ LB :: P.S := by
  intro hm
  have h1 := h.r.lo
  have h2 := h.r.bl
  rcases List.mem_cons.1 hm with rfl | hm
  · omega
  · have := (h.d A (P_S hm)).1; omega
theorem act_cells {A : Nat} {l t : Int} (hA : A ∉ LB :: P.S) (hb : But (LB :: P.S) W W') (h : W.cell? ⟨A, 1, none⟩ = some (.int .i64 l) ∧ W.cell? ⟨A, 2, none⟩ = some (.int .i64 t)) : W'.cell? ⟨A, 1, none⟩ = some (.int .i64 l) ∧ W'.cell? ⟨A, 2, none⟩ = some (.int .i64 t) :=
  ⟨hb.cell' h.1 hA, hb.cell' h.2 hA⟩

set_option maxRecDepth 100000 in
set_option maxHeartbeats 2000000 in
theorem act_push (h : Two w P lo M LB N L ls ls') (l t : Int) :
    Calls Try.prog 11 #[.pointer (some ⟨P.B, 0, none⟩), .pointer (some ⟨M, 0, none⟩), .agg #[.int .i64 0, .int .i64 l, .int .i64 t]] w fun e w' => ∃ b, e = .returned (.bool b) ∧ (ls = ls' → b = true) ∧ Two w' P lo M LB N L (pushS N L ls l t) (pushS N L ls' l t) ∧ But (LB :: P.S) w w' := by
  have hA := h.out (Nat.le_refl _)
  have h1 := h.keep ((But.refl [] w).alloc (.cells #[.int .i64 0, .int .i64 l, .int .i64 t] 25))
  obtain ⟨c0, c1, c2⟩ := ActAt.new w 0 l t
  have ba : But (LB :: P.S) w (w.alloc (.cells #[.int .i64 0, .int .i64 l, .int .i64 t] 25)) := (But.refl _ w).alloc _
  have C1 : ∀ W, LQ W P N L ls → _ := fun W h => push_any (w := W) (P := P) h l t
  have C2 : ∀ W, RL W lo M LB N L ls' → _ := fun W h => rpush_any (w := W) h l t
  have HE : ls = ls' → putE N L ls l t = putE N L ls' l t := fun e => by rw [e]
  generalize putE N L ls l t = e1 at *
  generalize putE N L ls' l t = e2 at *
  generalize pushS N L ls l t = s1 at *
  generalize pushS N L ls' l t = s2 at *
  clear h
  go_enter Try.func11, Try.ntmps11
  go_wp2_with fail
  generalize w.alloc (.cells #[.int .i64 0, .int .i64 l, .int .i64 t] 25) = W0 at *
  have hS : W0.cell? ⟨w.heap.size, 1, none⟩ = some (.int .i64 l) ∧ W0.cell? ⟨w.heap.size, 2, none⟩ = some (.int .i64 t) := ⟨c1, c2⟩
  have h1d := h1.keep (But.refl [] W0).drew
  have bd : But (LB :: P.S) w W0.drew := ba.drew
  have hSd : W0.drew.cell? ⟨w.heap.size, 1, none⟩ = some (.int .i64 l) ∧ W0.drew.cell? ⟨w.heap.size, 2, none⟩ = some (.int .i64 t) := ⟨c1, c2⟩
  go_region_held3 (fun w' => w'.cell? ⟨w.heap.size, 1, none⟩ = some (.int .i64 l) ∧ w'.cell? ⟨w.heap.size, 2, none⟩ = some (.int .i64 t)) (first | with_reducible assumption | with_reducible exact hSd) (first
    | (go_at_call 18; refine (C1 _ h1d.q).mono ?_; rintro e w2 ⟨rfl, q2, b2⟩; have h2 := h1d.left q2 b2; have k2 := act_cells hA b2.one hSd)
    | (go_at_call 27; refine (C2 _ h2.r).mono ?_; rintro e w3 ⟨rfl, r3, b3⟩; have h3 := h2.right r3 b3; have k3 := act_cells hA (b3.two (P := P)) k2))
  all_goals
    go_wp2_with fail
    go_ret
    exact ⟨_, rfl, fun e => by simp [HE e], h3, (bd.trans b2.one).trans b3.two⟩
set_option maxRecDepth 100000 in
set_option maxHeartbeats 2000000 in
theorem act_front (h : Two w P lo M LB N L ls ls') (l t : Int) :
    Calls Try.prog 11 #[.pointer (some ⟨P.B, 0, none⟩), .pointer (some ⟨M, 0, none⟩), .agg #[.int .i64 1, .int .i64 l, .int .i64 t]] w fun e w' => ∃ b, e = .returned (.bool b) ∧ (ls = ls' → b = true) ∧ Two w' P lo M LB N L (frontS N L ls l t) (frontS N L ls' l t) ∧ But (LB :: P.S) w w' := by
  have hA := h.out (Nat.le_refl _)
  have h1 := h.keep ((But.refl [] w).alloc (.cells #[.int .i64 1, .int .i64 l, .int .i64 t] 25))
  obtain ⟨c0, c1, c2⟩ := ActAt.new w 1 l t
  have ba : But (LB :: P.S) w (w.alloc (.cells #[.int .i64 1, .int .i64 l, .int .i64 t] 25)) := (But.refl _ w).alloc _
  have C1 : ∀ W, LQ W P N L ls → _ := fun W h => front_any (w := W) (P := P) h l t
  have C2 : ∀ W, RL W lo M LB N L ls' → _ := fun W h => rfront_any (w := W) h l t
  have HE : ls = ls' → putE N L ls l t = putE N L ls' l t := fun e => by rw [e]
  generalize putE N L ls l t = e1 at *
  generalize putE N L ls' l t = e2 at *
  generalize frontS N L ls l t = s1 at *
  generalize frontS N L ls' l t = s2 at *
  clear h
  go_enter Try.func11, Try.ntmps11
  go_wp2_with fail
  generalize w.alloc (.cells #[.int .i64 1, .int .i64 l, .int .i64 t] 25) = W0 at *
  have hS : W0.cell? ⟨w.heap.size, 1, none⟩ = some (.int .i64 l) ∧ W0.cell? ⟨w.heap.size, 2, none⟩ = some (.int .i64 t) := ⟨c1, c2⟩
  have h1d := h1.keep (But.refl [] W0).drew
  have bd : But (LB :: P.S) w W0.drew := ba.drew
  have hSd : W0.drew.cell? ⟨w.heap.size, 1, none⟩ = some (.int .i64 l) ∧ W0.drew.cell? ⟨w.heap.size, 2, none⟩ = some (.int .i64 t) := ⟨c1, c2⟩
  go_region_held3 (fun w' => w'.cell? ⟨w.heap.size, 1, none⟩ = some (.int .i64 l) ∧ w'.cell? ⟨w.heap.size, 2, none⟩ = some (.int .i64 t)) (first | with_reducible assumption | with_reducible exact hSd) (first
    | (go_at_call 19; refine (C1 _ h1d.q).mono ?_; rintro e w2 ⟨rfl, q2, b2⟩; have h2 := h1d.left q2 b2; have k2 := act_cells hA b2.one hSd)
    | (go_at_call 28; refine (C2 _ h2.r).mono ?_; rintro e w3 ⟨rfl, r3, b3⟩; have h3 := h2.right r3 b3; have k3 := act_cells hA (b3.two (P := P)) k2))
  all_goals
    go_wp2_with fail
    go_ret
    exact ⟨_, rfl, fun e => by simp [HE e], h3, (bd.trans b2.one).trans b3.two⟩
set_option maxRecDepth 100000 in
set_option maxHeartbeats 2000000 in
theorem act_remove (h : Two w P lo M LB N L ls ls') (l t : Int) :
    Calls Try.prog 11 #[.pointer (some ⟨P.B, 0, none⟩), .pointer (some ⟨M, 0, none⟩), .agg #[.int .i64 2, .int .i64 l, .int .i64 t]] w fun e w' => ∃ b, e = .returned (.bool b) ∧ (ls = ls' → b = true) ∧ Two w' P lo M LB N L (remS N ls t) (remS N ls' t) ∧ But (LB :: P.S) w w' := by
  have hA := h.out (Nat.le_refl _)
  have h1 := h.keep ((But.refl [] w).alloc (.cells #[.int .i64 2, .int .i64 l, .int .i64 t] 25))
  obtain ⟨c0, c1, c2⟩ := ActAt.new w 2 l t
  have ba : But (LB :: P.S) w (w.alloc (.cells #[.int .i64 2, .int .i64 l, .int .i64 t] 25)) := (But.refl _ w).alloc _
  have C1 : ∀ W, LQ W P N L ls → _ := fun W h => remove_any (w := W) (P := P) h t
  have C2 : ∀ W, RL W lo M LB N L ls' → _ := fun W h => rremove_any (w := W) h t
  have HE : ls = ls' → remE N ls t = remE N ls' t := fun e => by rw [e]
  generalize remE N ls t = e1 at *
  generalize remE N ls' t = e2 at *
  generalize remS N ls t = s1 at *
  generalize remS N ls' t = s2 at *
  clear h
  go_enter Try.func11, Try.ntmps11
  go_wp2_with fail
  generalize w.alloc (.cells #[.int .i64 2, .int .i64 l, .int .i64 t] 25) = W0 at *
  have hS : W0.cell? ⟨w.heap.size, 1, none⟩ = some (.int .i64 l) ∧ W0.cell? ⟨w.heap.size, 2, none⟩ = some (.int .i64 t) := ⟨c1, c2⟩
  have h1d := h1.keep (But.refl [] W0).drew
  have bd : But (LB :: P.S) w W0.drew := ba.drew
  have hSd : W0.drew.cell? ⟨w.heap.size, 1, none⟩ = some (.int .i64 l) ∧ W0.drew.cell? ⟨w.heap.size, 2, none⟩ = some (.int .i64 t) := ⟨c1, c2⟩
  go_region_held3 (fun w' => w'.cell? ⟨w.heap.size, 1, none⟩ = some (.int .i64 l) ∧ w'.cell? ⟨w.heap.size, 2, none⟩ = some (.int .i64 t)) (first | with_reducible assumption | with_reducible exact hSd) (first
    | (go_at_call 24; refine (C1 _ h1d.q).mono ?_; rintro e w2 ⟨rfl, q2, b2⟩; have h2 := h1d.left q2 b2; have k2 := act_cells hA b2.one hSd)
    | (go_at_call 29; refine (C2 _ h2.r).mono ?_; rintro e w3 ⟨rfl, r3, b3⟩; have h3 := h2.right r3 b3; have k3 := act_cells hA (b3.two (P := P)) k2))
  all_goals
    go_wp2_with fail
    go_ret
    exact ⟨_, rfl, fun e => by simp [HE e], h3, (bd.trans b2.one).trans b3.two⟩
set_option maxRecDepth 100000 in
set_option maxHeartbeats 2000000 in
theorem act_pop (h : Two w P lo M LB N L ls ls') (l t : Int) :
    Calls Try.prog 11 #[.pointer (some ⟨P.B, 0, none⟩), .pointer (some ⟨M, 0, none⟩), .agg #[.int .i64 3, .int .i64 l, .int .i64 t]] w fun e w' => ∃ b, e = .returned (.bool b) ∧ (ls = ls' → b = true) ∧ Two w' P lo M LB N L (popS L ls l) (popS L ls' l) ∧ But (LB :: P.S) w w' := by
  have hA := h.out (Nat.le_refl _)
  have h1 := h.keep ((But.refl [] w).alloc (.cells #[.int .i64 3, .int .i64 l, .int .i64 t] 25))
  obtain ⟨c0, c1, c2⟩ := ActAt.new w 3 l t
  have ba : But (LB :: P.S) w (w.alloc (.cells #[.int .i64 3, .int .i64 l, .int .i64 t] 25)) := (But.refl _ w).alloc _
  have C1 : ∀ W, LQ W P N L ls → _ := fun W h => pop_any (w := W) (P := P) h l
  have C2 : ∀ W, RL W lo M LB N L ls' → _ := fun W h => rpop_any (w := W) h l
  have HE : ls = ls' → popE L ls l = popE L ls' l := fun e => by rw [e]
  have HV : ls = ls' → popV ls l = popV ls' l := fun e => by rw [e]
  generalize popE L ls l = e1 at *
  generalize popE L ls' l = e2 at *
  generalize popV ls l = v1 at *
  generalize popV ls' l = v2 at *
  generalize popS L ls l = s1 at *
  generalize popS L ls' l = s2 at *
  clear h
  go_enter Try.func11, Try.ntmps11
  go_wp2_with (first
    | (go_at_call 23; refine (C1 _ h1.q).mono ?_; rintro e w2 ⟨rfl, q2, b2⟩; have h2 := h1.left q2 b2; have k2 := act_cells hA b2.one ⟨c1, c2⟩; have d1 := k2.1; have d2 := k2.2)
    | (go_at_call 30; refine (C2 _ h2.r).mono ?_; rintro e w3 ⟨rfl, r3, b3⟩; have h3 := h2.right r3 b3))
  all_goals
    go_ret
    exact ⟨_, rfl, fun e => by have hv := HV e; have he := HE e; first | simp_all | (subst hv he; simp_all), h3, (ba.trans b2.one).trans b3.two⟩

set_option maxRecDepth 100000 in
set_option maxHeartbeats 2000000 in
theorem act_move (h : Two w P lo M LB N L ls ls') (l t : Int) :
    Calls Try.prog 11 #[.pointer (some ⟨P.B, 0, none⟩), .pointer (some ⟨M, 0, none⟩), .agg #[.int .i64 4, .int .i64 l, .int .i64 t]] w fun e w' => ∃ b, e = .returned (.bool b) ∧ (ls = ls' → b = true) ∧ Two w' P lo M LB N L (moveS L ls l t) (moveS L ls' l t) ∧ But (LB :: P.S) w w' := by
  have hA := h.out (Nat.le_refl _)
  have h1 := h.keep ((But.refl [] w).alloc (.cells #[.int .i64 4, .int .i64 l, .int .i64 t] 25))
  obtain ⟨c0, c1, c2⟩ := ActAt.new w 4 l t
  have ba : But (LB :: P.S) w (w.alloc (.cells #[.int .i64 4, .int .i64 l, .int .i64 t] 25)) := (But.refl _ w).alloc _
  have C1 : ∀ W, LQ W P N L ls → _ := fun W h => move_any (w := W) (P := P) h l t
  have C2 : ∀ W, RL W lo M LB N L ls' → _ := fun W h => rmove_any (w := W) h l t
  have HV : ls = ls' → moveV L ls l t = moveV L ls' l t := fun e => by rw [e]
  generalize moveE L l t = e1 at *
  generalize moveV L ls l t = v1 at *
  generalize moveV L ls' l t = v2 at *
  generalize moveS L ls l t = s1 at *
  generalize moveS L ls' l t = s2 at *
  clear h
  go_enter Try.func11, Try.ntmps11
  go_wp2_with (first
    | (go_at_call 20; refine (C1 _ h1.q).mono ?_; rintro e w2 ⟨rfl, q2, b2⟩; have h2 := h1.left q2 b2; have k2 := act_cells hA b2.one ⟨c1, c2⟩; have d1 := k2.1; have d2 := k2.2)
    | (go_at_call 31; refine (C2 _ h2.r).mono ?_; rintro e w3 ⟨rfl, r3, b3⟩; have h3 := h2.right r3 b3))
  all_goals
    go_ret
    exact ⟨_, rfl, fun e => by have hv := HV e; first | simp_all | (subst hv; simp_all), h3, (ba.trans b2.one).trans b3.two⟩

set_option maxRecDepth 100000 in
theorem act_else (h : Two w P lo M LB N L ls ls') (k l t : Int) (h0 : ¬ k = 0) (h1 : ¬ k = 1) (h2 : ¬ k = 2) (h3 : ¬ k = 3) (h4 : ¬ k = 4) :
    Calls Try.prog 11 #[.pointer (some ⟨P.B, 0, none⟩), .pointer (some ⟨M, 0, none⟩), .agg #[.int .i64 k, .int .i64 l, .int .i64 t]] w fun e w' => ∃ b, e = .returned (.bool b) ∧ (ls = ls' → b = true) ∧ Two w' P lo M LB N L ls ls' ∧ But (LB :: P.S) w w' := by
  have hh := h.keep ((But.refl [] w).alloc (.cells #[.int .i64 k, .int .i64 l, .int .i64 t] 25))
  have ba : But (LB :: P.S) w (w.alloc (.cells #[.int .i64 k, .int .i64 l, .int .i64 t] 25)) := (But.refl _ w).alloc _
  have e0 : (k == 0) = false := by simpa using h0
  have e1 : (k == 1) = false := by simpa using h1
  have e2 : (k == 2) = false := by simpa using h2
  have e3 : (k == 3) = false := by simpa using h3
  have e4 : (k == 4) = false := by simpa using h4
  clear h
  go_enter Try.func11, Try.ntmps11
  go_wp2_with fail
  go_ret
  exact ⟨_, rfl, fun _ => rfl, hh, ba⟩

theorem act_any (h : Two w P lo M LB N L ls ls') (k l t : Int) :
    Calls Try.prog 11 #[.pointer (some ⟨P.B, 0, none⟩), .pointer (some ⟨M, 0, none⟩), .agg #[.int .i64 k, .int .i64 l, .int .i64 t]] w fun e w' => ∃ b, e = .returned (.bool b) ∧ (ls = ls' → b = true) ∧ Two w' P lo M LB N L (actS N L ls k l t) (actS N L ls' k l t) ∧ But (LB :: P.S) w w' := by
  unfold actS
  by_cases h0 : k = 0
  · subst h0; simp only [if_true]; exact act_push h l t
  · simp only [if_neg h0]
    by_cases h1 : k = 1
    · subst h1; simp only [if_true]; exact act_front h l t
    · simp only [if_neg h1]
      by_cases h2 : k = 2
      · subst h2; simp only [if_true]; exact act_remove h l t
      · simp only [if_neg h2]
        by_cases h3 : k = 3
        · subst h3; simp only [if_true]; exact act_pop h l t
        · simp only [if_neg h3]
          by_cases h4 : k = 4
          · subst h4; simp only [if_true]; exact act_move h l t
          · simp only [if_neg h4]; exact act_else h k l t h0 h1 h2 h3 h4
end

end Go.Proofs.Ytpaedcknhlojkaa
