/- Contracts of the reference's Put, Remove, Change, Pop, Lower. -/
import Derived.Test.YtmogedfjhbfglaaRefIn
import Derived.Test.YtmogedfjhbfglaaLow
import Derived.Test.YtmogedfjhbfglaaBigSub
namespace Go.Proofs.Ytmogedfjhbfglaa
open Go.RowKit

theorem idsL_erase (q : List Th) (i : Nat) : (idsL q).eraseIdx i = idsL (q.eraseIdx i) := by
  unfold idsL
  rw [List.eraseIdx_eq_take_drop_succ, List.eraseIdx_eq_take_drop_succ, List.map_append, List.map_take, List.map_drop]
theorem keysL_erase (q : List Th) (i : Nat) : (keysL q).eraseIdx i = keysL (q.eraseIdx i) := by
  unfold keysL
  rw [List.eraseIdx_eq_take_drop_succ, List.eraseIdx_eq_take_drop_succ, List.map_append, List.map_take, List.map_drop]
/-- The one place of an id. -/
theorem erase_rem {q : List Th} (hn : (q.map (·.1)).Nodup) {i : Nat} {p : Th} {t : Int} (h : q[i]? = some p) (e : (p.1 : Int) = t) : q.eraseIdx i = remq q t := by
  obtain ⟨u, v, rfl, hu, -⟩ := mid_of h
  subst e
  rw [List.map_append, List.map_cons, List.nodup_append] at hn
  obtain ⟨h1, h2, h3⟩ := hn
  have fu : ∀ a ∈ u, a.1 ≠ p.1 := fun a ha e => h3 a.1 (List.mem_map.2 ⟨a, ha, rfl⟩) p.1 (by simp) e
  have fv : ∀ a ∈ v, a.1 ≠ p.1 := fun a ha e => (List.nodup_cons.1 h2).1 (e ▸ List.mem_map.2 ⟨a, ha, rfl⟩)
  unfold remq
  rw [List.filter_append, List.filter_cons_of_neg (by simp), List.filter_eq_self.2 (fun a ha => by have := fu a ha; simp; omega), List.filter_eq_self.2 (fun a ha => by have := fv a ha; simp; omega)]
  rw [← hu, List.eraseIdx_append_of_length_le (Nat.le_refl _), Nat.sub_self]
  rfl

section
variable {w : World} {M N : Nat} {R : List Nat} {q : List Th}

theorem rq_in (h : RQ w M R N q) (hl : q.length < N) (id : Nat) (key : Int) :
    Calls Try.prog 42 #[.pointer (some ⟨M, 0, none⟩), .int .i64 (id : Int), .int .i64 key] w fun e w' => e = .returned (.tuple #[]) ∧ ∃ R', RQ w' M R' N (insq (id, key) q) ∧ Step R w R' w' := by
  obtain ⟨vi, vk, rfl, h⟩ := h
  exact (rin_any h hl id key).mono fun e w' ⟨he, vi', vk', h', s⟩ => ⟨he, _, ⟨vi', vk', rfl, h'⟩, s⟩
theorem rq_out (h : RQ w M R N q) (i : Nat) (hi : i < q.length) :
    Calls Try.prog 43 #[.pointer (some ⟨M, 0, none⟩), .int .i64 i] w fun e w' => e = .returned (.tuple #[]) ∧ ∃ R', RQ w' M R' N (q.eraseIdx i) ∧ Step R w R' w' := by
  obtain ⟨vi, vk, rfl, h⟩ := h
  have hl := h.l
  have hn := h.n2
  refine (rout_any h.two (by rw [idsL_len, keysL_len]) (by rw [idsL_len]; omega) i (by rw [idsL_len]; exact hi)).mono fun e w' ⟨he, vi', vk', h', s⟩ => ⟨he, _, ⟨vi', vk', rfl, ?_⟩, s⟩
  rw [idsL_erase, keysL_erase] at h'
  exact h'.one h.n1 h.n2 (by rw [List.length_eraseIdx]; split <;> omega)

set_option maxHeartbeats 1000000 in
theorem rput_any (h : RQ w M R N q) (t key : Int) (hl : askE N q t false 5 = 0 → q.length < N) :
    Calls Try.prog 26 #[.pointer (some ⟨M, 0, none⟩), .int .i64 t, .int .i64 key] w fun e w' => e = .returned (.int .i64 (askE N q t false 5)) ∧ ∃ R', RQ w' M R' N (putS N q t key) ∧ Step R w R' w' := by
  have HF := rfind_any h t
  have c0 : w.cell? ⟨M, 0, none⟩ = some (.int .i64 N) := by
    obtain ⟨_, _, _, h⟩ := h
    exact h.c0
  by_cases h0 : t < 0
  · have e1 : askE N q t false 5 = 8 := by unfold askE inN; rw [if_neg (by simp; omega)]
    have e2 : putS N q t key = q := by unfold putS; rw [e1]; rfl
    rw [e1, e2]
    go_enter Try.func26, Try.ntmps26
    go_wp2_with fail
    go_ret
    exact ⟨rfl, R, h, Step.refl _ _⟩
  · have h0' : 0 ≤ t := by omega
    by_cases h1 : (N : Int) ≤ t
    · have e1 : askE N q t false 5 = 8 := by unfold askE inN; rw [if_neg (by simp; omega)]
      have e2 : putS N q t key = q := by unfold putS; rw [e1]; rfl
      rw [e1, e2]
      go_enter Try.func26, Try.ntmps26
      go_wp2_with fail
      go_ret
      exact ⟨rfl, R, h, Step.refl _ _⟩
    · have h1' : t < (N : Int) := by omega
      have hin : inN N t = true := by unfold inN; simp; omega
      cases hb : hasB q t with
      | true =>
        have e1 : askE N q t false 5 = 5 := by unfold askE; rw [hin, hb]; rfl
        have e2 : putS N q t key = q := by unfold putS; rw [e1]; rfl
        rw [e1, e2]
        obtain ⟨i, p, e3, -⟩ := findI_some hb
        rw [e3] at HF
        clear e1 e2 e3
        go_enter Try.func26, Try.ntmps26
        go_wp2_with (first
          | (go_at_call 35; refine HF.mono ?_; rintro e w' ⟨rfl, hw⟩; subst w'))
        go_ret
        exact ⟨rfl, R, h, Step.refl _ _⟩
      | false =>
        have e1 : askE N q t false 5 = 0 := by unfold askE; rw [hin, hb]; rfl
        have hl' := hl e1
        obtain ⟨id, rfl⟩ : ∃ id : Nat, t = id := ⟨t.toNat, by omega⟩
        have e2 : putS N q (id : Int) key = insq (id, key) q := by unfold putS; rw [if_pos e1, Int.toNat_natCast]
        rw [e1, e2]
        rw [findI_none hb] at HF
        have HI := rq_in h hl' id key
        clear e1 e2 hl
        go_enter Try.func26, Try.ntmps26
        go_wp2_with (first
          | (go_at_call 35; refine HF.mono ?_; rintro e w' ⟨rfl, hw⟩; subst w')
          | (go_at_call 42; refine HI.mono ?_; rintro e w2 ⟨rfl, R2, h2, s2⟩))
        go_ret
        exact ⟨rfl, R2, h2, s2⟩

set_option maxHeartbeats 1000000 in
theorem rremove_any (h : RQ w M R N q) (hn : (q.map (·.1)).Nodup) (t : Int) :
    Calls Try.prog 28 #[.pointer (some ⟨M, 0, none⟩), .int .i64 t] w fun e w' => e = .returned (.int .i64 (askE N q t true 4)) ∧ ∃ R', RQ w' M R' N (remS N q t) ∧ Step R w R' w' := by
  have HF := rfind_any h t
  have c0 : w.cell? ⟨M, 0, none⟩ = some (.int .i64 N) := by
    obtain ⟨_, _, _, h⟩ := h
    exact h.c0
  by_cases h0 : t < 0
  · have e1 : askE N q t true 4 = 8 := by unfold askE inN; rw [if_neg (by simp; omega)]
    have e2 : remS N q t = q := by unfold remS; rw [e1]; rfl
    rw [e1, e2]
    go_enter Try.func28, Try.ntmps28
    go_wp2_with fail
    go_ret
    exact ⟨rfl, R, h, Step.refl _ _⟩
  · have h0' : 0 ≤ t := by omega
    by_cases h1 : (N : Int) ≤ t
    · have e1 : askE N q t true 4 = 8 := by unfold askE inN; rw [if_neg (by simp; omega)]
      have e2 : remS N q t = q := by unfold remS; rw [e1]; rfl
      rw [e1, e2]
      go_enter Try.func28, Try.ntmps28
      go_wp2_with fail
      go_ret
      exact ⟨rfl, R, h, Step.refl _ _⟩
    · have h1' : t < (N : Int) := by omega
      have hin : inN N t = true := by unfold inN; simp; omega
      cases hb : hasB q t with
      | false =>
        have e1 : askE N q t true 4 = 4 := by unfold askE; rw [hin, hb]; rfl
        have e2 : remS N q t = q := by unfold remS; rw [e1]; rfl
        rw [e1, e2]
        rw [findI_none hb] at HF
        clear e1 e2
        go_enter Try.func28, Try.ntmps28
        go_wp2_with (first
          | (go_at_call 35; refine HF.mono ?_; rintro e w' ⟨rfl, hw⟩; subst w'))
        go_ret
        exact ⟨rfl, R, h, Step.refl _ _⟩
      | true =>
        have e1 : askE N q t true 4 = 0 := by unfold askE; rw [hin, hb]; rfl
        obtain ⟨i, p, e3, hp, e4, -⟩ := findI_some hb
        have e2 : remS N q t = q.eraseIdx i := by unfold remS; rw [if_pos e1, erase_rem hn hp e4]
        rw [e1, e2]
        rw [e3] at HF
        have HO := rq_out h i (List.getElem?_eq_some_iff.1 hp).1
        clear e1 e2 e3 e4 hp
        go_enter Try.func28, Try.ntmps28
        go_wp2_with (first
          | (go_at_call 35; refine HF.mono ?_; rintro e w' ⟨rfl, hw⟩; subst w')
          | (go_at_call 43; refine HO.mono ?_; rintro e w2 ⟨rfl, R2, h2, s2⟩))
        go_ret
        exact ⟨rfl, R2, h2, s2⟩

theorem rchange_any (h : RQ w M R N q) (hn : (q.map (·.1)).Nodup) (t key : Int) :
    Calls Try.prog 27 #[.pointer (some ⟨M, 0, none⟩), .int .i64 t, .int .i64 key] w fun e w' => e = .returned (.int .i64 (askE N q t true 4)) ∧ ∃ R', RQ w' M R' N (chgS N q t key) ∧ Step R w R' w' := by
  have HR := rremove_any h hn t
  by_cases hz : askE N q t true 4 = 0
  · obtain ⟨id, rfl, hid, hb⟩ := askE_zero (by decide) hz
    have e2 : chgS N q (id : Int) key = insq (id, key) (remq q (id : Int)) := by unfold chgS; rw [if_pos hz, Int.toNat_natCast]
    have e3 : remS N q (id : Int) = remq q (id : Int) := by unfold remS; rw [if_pos hz]
    rw [hz, e3] at HR
    rw [hz, e2]
    have hll : (remq q (id : Int)).length < N := by
      obtain ⟨i, p, _, hp, e4, _⟩ := findI_some hb
      rw [← erase_rem hn hp e4, List.length_eraseIdx, if_pos (List.getElem?_eq_some_iff.1 hp).1]
      obtain ⟨_, _, _, h⟩ := h
      have := h.l
      have := (List.getElem?_eq_some_iff.1 hp).1
      omega
    have HI : ∀ W R', RQ W M R' N (remq q (id : Int)) → _ := fun W R' h => rq_in (w := W) (R := R') h hll id key
    clear e2 e3 hz hb hll
    generalize insq (id, key) (remq q (id : Int)) = q2 at *
    generalize remq q (id : Int) = q1 at *
    go_enter Try.func27, Try.ntmps27
    go_wp2_with (first
      | (go_at_call 28; refine HR.mono ?_; rintro e w1 ⟨rfl, R1, h1, s1⟩)
      | (go_at_call 42; refine (HI _ _ h1).mono ?_; rintro e w2 ⟨rfl, R2, h2, s2⟩))
    go_ret
    exact ⟨rfl, R2, h2, s1.trans s2⟩
  · have e2 : chgS N q t key = q := by unfold chgS; rw [if_neg hz]
    have e3 : remS N q t = q := by unfold remS; rw [if_neg hz]
    rw [e3] at HR
    rw [e2]
    clear e2 e3
    generalize askE N q t true 4 = y at *
    have hz' : (y == 0) = false := by simpa using hz
    go_enter Try.func27, Try.ntmps27
    go_wp2_with (first
      | (go_at_call 28; refine HR.mono ?_; rintro e w1 ⟨rfl, R1, h1, s1⟩))
    go_ret
    exact ⟨rfl, R1, h1, s1⟩

theorem rpop_any (h : RQ w M R N q) :
    Calls Try.prog 29 #[.pointer (some ⟨M, 0, none⟩)] w fun e w' => e = .returned (.tuple #[.int .i64 (fstI q), .int .i64 (fstK q), .bool (fstB q)]) ∧ ∃ R', RQ w' M R' N q.tail ∧ Step R w R' w' := by
  have HL := rleast_any h
  cases q with
  | nil =>
    go_enter Try.func29, Try.ntmps29
    go_wp2_with (first
      | (go_at_call 15; refine HL.mono ?_; rintro e w1 ⟨rfl, hd⟩))
    go_ret3
    exact ⟨rfl, R, h.keep hd.but, Step.keep hd.but⟩
  | cons p r =>
    have HO : ∀ W, RQ W M R N (p :: r) → Calls Try.prog 43 #[.pointer (some ⟨M, 0, none⟩), .int .i64 0] W _ := fun W h => rq_out (w := W) h 0 (by simp)
    have e1 : fstB (p :: r) = true := rfl
    rw [e1] at HL ⊢
    rw [List.tail_cons]
    generalize fstI (p :: r) = i at *
    generalize fstK (p :: r) = y at *
    go_enter Try.func29, Try.ntmps29
    go_wp2_with (first
      | (go_at_call 15; refine HL.mono ?_; rintro e w1 ⟨rfl, hd⟩)
      | (go_at_call 43; refine (HO _ (h.keep hd.but)).mono ?_; rintro e w2 ⟨rfl, R2, h2, s2⟩))
    go_ret3
    exact ⟨rfl, R2, h2, (Step.keep hd.but).trans s2⟩
end

end Go.Proofs.Ytmogedfjhbfglaa
