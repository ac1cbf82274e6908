/- Contracts of Remove and Pop. -/
import Derived.Test.YtmbpmcgppnanpaaLkPush
namespace Go.Proofs.Ytmbpmcgppnanpaa.Lk
open Go.RowKit Go.Proofs.Ytmbpmcgppnanpaa.Bs

section
variable {w : World} {P : Pl} {N L : Nat} {ls : List (List Nat)}

theorem more_rem {bl bt t : Nat} (h : LQ w P N L ls) (ht : t < N) (h0 : w.cell? ⟨bl, 0, none⟩ = some (.pointer (some ⟨P.B, 0, none⟩))) (h1 : w.cell? ⟨bt, 0, none⟩ = some (.int .i64 t)) :
    Calls Try.prog 56 #[.pointer (some ⟨bl, 0, none⟩), .pointer (some ⟨bt, 0, none⟩)] w fun e w' => e = .returned (.int .i64 (if whI ls t = -1 then 4 else 0)) ∧ Drawn w w' := by
  obtain ⟨nx, pv, hm, -⟩ := h
  have cw := hm.xw (whL_get (ls := ls) ht)
  have c2 := hm.c2
  have ht' : (t : Int) < (N : Int) := by omega
  have ht0 : (0 : Int) ≤ (t : Int) := by omega
  generalize whI ls t = y at cw
  by_cases hy : y = -1
  · subst hy
    rw [if_pos rfl]
    go_enter Try.func56, Try.ntmps56
    go_wp2_with fail
    go_quiet (fail)
    go_wp2_with fail
    go_ret
    exact ⟨rfl, _, rfl⟩
  · rw [if_neg hy]
    have hy' : (y == -1) = false := by simpa using hy
    go_enter Try.func56, Try.ntmps56
    go_wp2_with fail
    go_quiet (fail)
    go_wp2_with fail
    go_ret
    exact ⟨rfl, _, rfl⟩

theorem ask_rem {bl bt : Nat} {r : Int} (h : LQ w P N L ls) (H : Calls Try.prog 56 #[.pointer (some ⟨bl, 0, none⟩), .pointer (some ⟨bt, 0, none⟩)] w fun e w' => e = .returned (.int .i64 r) ∧ Drawn w w') :
    Calls Try.prog 55 #[.pointer (some ⟨P.B, 0, none⟩), .bool true, .func (.func 56) #[] #[.pointer (some ⟨bl, 0, none⟩), .pointer (some ⟨bt, 0, none⟩)]] w fun e w' => e = .returned (.int .i64 r) ∧ Drawn w w' := by
  obtain ⟨nx, pv, hm, -⟩ := h
  go_enter Try.func55, Try.ntmps55
  go_wp2_with (first
    | (go_at_call 61; refine (made_any hm).mono ?_; rintro e w' ⟨rfl, hw⟩; subst w')
    | (go_at_call 56; refine H.mono ?_; rintro e w' ⟨rfl, hd⟩))
  go_ret
  exact ⟨rfl, hd⟩
end

/-- What Remove tells, and makes of lists; what Pop does. -/
def remE (N : Nat) (ls : List (List Nat)) (t : Int) : Int := if inN N t then (if wI ls t = -1 then 4 else 0) else 8
def remS (N : Nat) (ls : List (List Nat)) (t : Int) : List (List Nat) := if remE N ls t = 0 then ls.set (wI ls t).toNat ((lsI ls (wI ls t)).filter (fun y => !(y == t.toNat))) else ls
def popE (L : Nat) (ls : List (List Nat)) (i : Int) : Int := if inN L i then (if (lsI ls i).length = 0 then 4 else 0) else 8
def popV (ls : List (List Nat)) (i : Int) : Int := ((lsI ls i).headD 0 : Nat)
def popS (L : Nat) (ls : List (List Nat)) (i : Int) : List (List Nat) := if inN L i then ls.set i.toNat (lsI ls i).tail else ls

theorem set_same {ls : List (List Nat)} {i : Nat} {q : List Nat} (h : ls[i]? = some q) : ls.set i q = ls := by
  apply List.ext_getElem?
  intro j
  by_cases hj : i = j
  · subst hj
    rw [List.getElem?_set_self (List.getElem?_eq_some_iff.1 h).1, h]
  · rw [List.getElem?_set_ne hj]
theorem filter_mid {pre post : List Nat} {t : Nat} (h : (pre ++ t :: post).Nodup) : (pre ++ t :: post).filter (fun y => !(y == t)) = pre ++ post := by
  have hp : (pre ++ t :: post).Perm (t :: (pre ++ post)) := List.perm_middle
  rw [hp.nodup_iff] at h
  have h1 := (List.nodup_cons.1 h).1
  rw [List.filter_append, List.filter_cons_of_neg (by simp), List.filter_eq_self.2, List.filter_eq_self.2]
  · intro a ha
    have : a ≠ t := fun e => h1 (e ▸ List.mem_append_right _ ha)
    simpa using this
  · intro a ha
    have : a ≠ t := fun e => h1 (e ▸ List.mem_append_left _ ha)
    simpa using this

theorem remE_zero {N L : Nat} {ls : List (List Nat)} {t : Int} (ho : Ok N L ls) (h : remE N ls t = 0) : ∃ (i a : Nat) (pre post : List Nat), t = a ∧ a < N ∧ i < L ∧ wI ls t = i ∧ ls[i]? = some (pre ++ a :: post) ∧ remS N ls t = ls.set i (pre ++ post) := by
  have h' := h
  unfold remE at h
  split at h
  · rename_i hb
    obtain ⟨a, rfl, ha⟩ := inN_out hb
    split at h
    · simp at h
    · rename_i hw
      rcases whI_cases ho.len a with ⟨e, _⟩ | ⟨j, q, hq, hm, e, hj⟩
      · rw [wI_nat] at hw; exact absurd e hw
      · obtain ⟨pre, post, rfl⟩ := List.append_of_mem hm
        refine ⟨j, a, pre, post, rfl, ha, hj, by rw [wI_nat, e], hq, ?_⟩
        unfold remS
        rw [if_pos h', wI_nat, e, lsI_get hq, Int.toNat_natCast, Int.toNat_natCast, filter_mid (ho.nd j _ hq)]
  · simp at h

section
variable {w : World} {P : Pl} {N L : Nat} {ls : List (List Nat)}

set_option maxHeartbeats 2000000 in
theorem askRem_any (h : LQ w P N L ls) (t : Int) (bl bt : Nat) (h0 : w.cell? ⟨bl, 0, none⟩ = some (.pointer (some ⟨P.B, 0, none⟩))) (h1 : w.cell? ⟨bt, 0, none⟩ = some (.int .i64 t)) :
    Calls Try.prog 55 #[.pointer (some ⟨P.B, 0, none⟩), .bool (inN N t), .func (.func 56) #[] #[.pointer (some ⟨bl, 0, none⟩), .pointer (some ⟨bt, 0, none⟩)]] w fun e w' => e = .returned (.int .i64 (remE N ls t)) ∧ Drawn w w' := by
  unfold remE
  cases hb : inN N t with
  | false =>
    refine (ask_range h _).mono ?_
    rintro e w' ⟨rfl, rfl⟩
    exact ⟨by simp, Drawn.refl _⟩
  | true =>
    obtain ⟨k, rfl, hk⟩ := inN_out hb
    rw [wI_nat, if_pos rfl]
    exact ask_rem h (more_rem h hk h0 h1)

set_option maxHeartbeats 2000000 in
theorem remove_any (h : LQ w P N L ls) (t : Int) :
    Calls Try.prog 41 #[.pointer (some ⟨P.B, 0, none⟩), .int .i64 t] w fun e w' => e = .returned (.int .i64 (remE N ls t)) ∧ LQ w' P N L (remS N ls t) ∧ But P.S w w' := by
  have hB : But [] w ((w.alloc (.cells #[.pointer (some ⟨P.B, 0, none⟩)] 50)).alloc (.cells #[.int .i64 t] 3)) := ((But.refl [] w).alloc _).alloc _
  obtain ⟨x0, x1⟩ := box_two w 50 3 (.pointer (some ⟨P.B, 0, none⟩)) (.int .i64 t)
  have h' := h.keep hB
  have HT : ∀ W, LQ W P N L ls → Calls Try.prog 52 #[.pointer (some ⟨P.B, 0, none⟩), .int .i64 t] W fun e w' => e = .returned (.bool (inN N t)) ∧ w' = W := fun W ⟨_, _, hm, _⟩ => hasThing_any hm t
  have HA : ∀ W, LQ W P N L ls → W.cell? ⟨w.heap.size, 0, none⟩ = some (.pointer (some ⟨P.B, 0, none⟩)) → W.cell? ⟨w.heap.size + 1, 0, none⟩ = some (.int .i64 t) → Calls Try.prog 55 #[.pointer (some ⟨P.B, 0, none⟩), .bool (inN N t), .func (.func 56) #[] #[.pointer (some ⟨w.heap.size, 0, none⟩), .pointer (some ⟨w.heap.size + 1, 0, none⟩)]] W fun e w' => e = .returned (.int .i64 (remE N ls t)) ∧ Drawn W w' := fun W h a b => askRem_any h t _ _ a b
  by_cases hz : remE N ls t = 0
  · obtain ⟨i, a, pre, post, rfl, ha, hi, -, hq, e⟩ := remE_zero h.ok hz
    rw [e]
    rw [hz] at HA ⊢
    have HK : ∀ W, LQ W P N L ls → _ := fun W h => take_any (w := W) (P := P) h hq
    generalize ls.set i (pre ++ post) = ls' at *
    generalize inN N (a : Int) = b at *
    clear h hz e hq
    go_enter Try.func41, Try.ntmps41
    go_wp2_with fail
    generalize ((w.alloc (.cells #[.pointer (some ⟨P.B, 0, none⟩)] 50)).alloc (.cells #[.int .i64 (a : Int)] 3)) = W0 at *
    go_quiet (first
      | (go_at_call 52; exact Calls.quiet_of_same (HT _ (h'.drawn ⟨_, rfl⟩)))
      | (go_at_call 55; exact Calls.quiet_of (HA _ (h'.drawn ⟨_, rfl⟩) x0 x1)))
    go_wp2_with (first
      | (go_at_call 57; refine (HK _ (h'.drawn ⟨nq, rfl⟩)).mono ?_; rintro e w2 ⟨rfl, h2, b2⟩))
    go_ret
    exact ⟨rfl, h2, (hB.drewN nq).wide.trans b2⟩
  · have e : remS N ls t = ls := by unfold remS; rw [if_neg hz]
    rw [e]
    generalize remE N ls t = r at *
    have hz' : (r == 0) = false := by simpa using hz
    generalize inN N t = b at *
    clear e hz h
    go_enter Try.func41, Try.ntmps41
    go_wp2_with fail
    generalize ((w.alloc (.cells #[.pointer (some ⟨P.B, 0, none⟩)] 50)).alloc (.cells #[.int .i64 t] 3)) = W0 at *
    go_quiet (first
      | (go_at_call 52; exact Calls.quiet_of_same (HT _ (h'.drawn ⟨_, rfl⟩)))
      | (go_at_call 55; exact Calls.quiet_of (HA _ (h'.drawn ⟨_, rfl⟩) x0 x1)))
    go_wp2_with fail
    go_ret
    exact ⟨rfl, h'.drawn ⟨_, rfl⟩, (hB.drewN nq).wide⟩

end

end Go.Proofs.Ytmbpmcgppnanpaa.Lk
