/- Contracts of Change, Remove, Least, Pop, Key, Len. -/
import Derived.Test.YtmogedfjhbfglaaPut
namespace Go.Proofs.Ytmogedfjhbfglaa
open Go.RowKit

/-- The first of the list, or nothing. -/
def fstI (q : List Th) : Int := match q with | [] => 0 | p :: _ => (p.1 : Int)
def fstK (q : List Th) : Int := match q with | [] => 0 | p :: _ => p.2
def fstB (q : List Th) : Bool := match q with | [] => false | _ :: _ => true

section
variable {w : World} {B N : Nat} {T : List Nat} {q : List Th}

theorem lenq_any (h : HQ w B T N q) : Calls Try.prog 13 #[.pointer (some ⟨B, 0, none⟩)] w fun e w' => e = .returned (.int .i64 (q.length : Nat)) ∧ w' = w := by
  obtain ⟨G, k, v, xs, pl, rfl, hm, hR⟩ := h
  rw [← hR.len]
  exact len_any hm

set_option maxHeartbeats 2000000 in
theorem change_any (h : HQ w B T N q) (t key : Int) :
    Calls Try.prog 22 #[.pointer (some ⟨B, 0, none⟩), .int .i64 t, .int .i64 key] w fun e w' => e = .returned (.int .i64 (askE N q t true 4)) ∧ ∃ T', HQ w' B T' N (chgS N q t key) ∧ Step T w T' w' := by
  obtain ⟨G, k, v, xs, pl, rfl, hm, hR⟩ := h
  have HA := ask_any hm hR t true 4
  unfold chgS
  by_cases hz : askE N q t true 4 = 0
  · rw [if_pos hz]
    rw [hz] at HA ⊢
    obtain ⟨_, -, -, hb⟩ := askE_zero (by decide) hz
    obtain ⟨id, i, ky, rfl, hid, hi, hpl, -⟩ := hR.at' hb
    rw [Int.toNat_natCast]
    have hlt := (List.getElem?_eq_some_iff.1 hi).1
    have HPP := hR.pls.key key hi
    have hll : (xs.set i (id, key)).length = xs.length := by simp
    have HX : HpX le (gx (xs.set i (id, key))) (xs.set i (id, key)).length i := by
      rw [hll]
      exact hR.hp.any le_tr hlt (Nat.le_refl _) (fun k _ hk => by rw [gx, gx, List.getD_eq_getElem?_getD, List.getD_eq_getElem?_getD, List.getElem?_set_ne (Ne.symm hk)])
    have HI : ∀ ys pl', Pls N ys pl' → Hp le (gx ys) ys.length → ys.Perm (xs.set i (id, key)) → Rep N ys pl' (insq (id, key) (remq q (id : Int))) := fun ys pl' a b c => hR.change hi a b c
    obtain ⟨sa, c, rfl, hs, -⟩ := hm.sl
    obtain ⟨H, rfl, _⟩ := hs (by omega)
    have c0 := hm.c0
    have c1 := hm.c1
    have cx := hm.x hpl
    have t1 := hm.t1 hi
    have ft := hm.ft (i * 2 + 1)
    have h1 := hm.setH (ys := xs.set i (id, key)) (i * 2 + 1) (.int .i64 key) hll (flat_set1 key hi)
    have SF := sift_any h1 HPP (i := i) (by rw [hll]; exact hlt) HX
    have hid' : (id : Int) < (N : Int) := by omega
    have hlt' : (i : Int) < (xs.length : Int) := by omega
    have c60 := cells60
    clear hz hb hR HX HPP h1 hll hi hpl
    generalize insq (id, key) (remq q (id : Int)) = q' at *
    generalize xs.set i (id, key) = ys at *
    go_enter Try.func22, Try.ntmps22
    go_wp2_with (first
      | (go_at_call 36; refine HA.mono ?_; rintro e w1 ⟨rfl, hw⟩; subst w1)
      | (go_at_call 37; refine SF.mono ?_; rintro e w5 ⟨rfl, ⟨zs, pl5, h5, p5, pm5, hp5⟩, b5⟩))
    go_ret
    exact ⟨rfl, _, ⟨G, k, _, zs, pl5, rfl, h5, HI _ _ p5 hp5 pm5⟩, Step.same (((But.refl _ w).set (p := ⟨H, i * 2 + 1, none⟩) (bks_v rfl) _).trans (b5.mono bks_GH))⟩
  · rw [if_neg hz]
    generalize askE N q t true 4 = e at *
    have hz' : (e == 0) = false := by simpa using hz
    go_enter Try.func22, Try.ntmps22
    go_wp2_with (first
      | (go_at_call 36; refine HA.mono ?_; rintro e w1 ⟨rfl, hw⟩; subst w1))
    go_ret
    exact ⟨rfl, _, ⟨G, k, v, xs, pl, rfl, hm, hR⟩, Step.refl _ _⟩

theorem taken {G k H c : Nat} (n : Nat) {q' : List Th} {w' : World} {ys : List Th} {pl' : List Int} (h : HM w' B G k N (.slice (some ⟨H, 0, none⟩) (n - 1) c) ys pl') (hr : Rep N ys pl' q') (hb : But [B, G, H] w w') : ∃ T', HQ w' B T' N q' ∧ Step (bks B G (.slice (some ⟨H, 0, none⟩) n c)) w T' w' :=
  ⟨_, ⟨G, k, _, ys, pl', rfl, h, hr⟩, hb.mono bks_BGH, fun _ hx => .inl hx⟩

set_option maxHeartbeats 2000000 in
theorem remove_any (h : HQ w B T N q) (t : Int) :
    Calls Try.prog 23 #[.pointer (some ⟨B, 0, none⟩), .int .i64 t] w fun e w' => e = .returned (.int .i64 (askE N q t true 4)) ∧ ∃ T', HQ w' B T' N (remS N q t) ∧ Step T w T' w' := by
  obtain ⟨G, k, v, xs, pl, rfl, hm, hR⟩ := h
  have HA := ask_any hm hR t true 4
  unfold remS
  by_cases hz : askE N q t true 4 = 0
  · rw [if_pos hz]
    rw [hz] at HA ⊢
    obtain ⟨_, -, -, hb⟩ := askE_zero (by decide) hz
    obtain ⟨id, i, ky, rfl, hid, hi, hpl, -⟩ := hR.at' hb
    have hlt := (List.getElem?_eq_some_iff.1 hi).1
    obtain ⟨sa, c, rfl, hs, -⟩ := hm.sl
    obtain ⟨H, rfl, _⟩ := hs (by omega)
    have c0 := hm.c0
    have c1 := hm.c1
    have cx := hm.x hpl
    have TK := take_any hm hR.pls hR.hp hlt
    rw [gx_of hi] at TK
    have HI : ∀ ys pl', Pls N ys pl' → Hp le (gx ys) ys.length → xs.Perm ((id, ky) :: ys) → Rep N ys pl' (remq q (id : Int)) := fun ys pl' a b c => hR.remq a b c
    have hid' : (id : Int) < (N : Int) := by omega
    clear hz hb hR hi hpl
    generalize remq q (id : Int) = q' at *
    go_enter Try.func23, Try.ntmps23
    go_wp2_with (first
      | (go_at_call 36; refine HA.mono ?_; rintro e w1 ⟨rfl, hw⟩; subst w1)
      | (go_at_call 38; refine TK.mono ?_; rintro e w5 ⟨rfl, ⟨zs, pl5, h5, p5, pm5, hp5⟩, b5⟩))
    go_ret
    exact ⟨rfl, taken _ h5 (HI _ _ p5 hp5 pm5) b5⟩
  · rw [if_neg hz]
    generalize askE N q t true 4 = e at *
    have hz' : (e == 0) = false := by simpa using hz
    go_enter Try.func23, Try.ntmps23
    go_wp2_with (first
      | (go_at_call 36; refine HA.mono ?_; rintro e w1 ⟨rfl, hw⟩; subst w1))
    go_ret
    exact ⟨rfl, _, ⟨G, k, v, xs, pl, rfl, hm, hR⟩, Step.refl _ _⟩

set_option maxHeartbeats 1000000 in
theorem least_any (h : HQ w B T N q) :
    Calls Try.prog 14 #[.pointer (some ⟨B, 0, none⟩)] w fun e w' => e = .returned (.tuple #[.int .i64 (fstI q), .int .i64 (fstK q), .bool (fstB q)]) ∧ Drawn w w' := by
  have HL := lenq_any h
  obtain ⟨G, k, v, xs, pl, rfl, hm, hR⟩ := h
  cases q with
  | nil =>
    go_enter Try.func14, Try.ntmps14
    go_wp2_with (first
      | (go_at_call 13; refine HL.mono ?_; rintro e w1 ⟨rfl, hw⟩; subst w1))
    go_ret3
    exact ⟨rfl, Drawn.refl _⟩
  | cons p r =>
    have hf := hR.first rfl
    have hlt := (List.getElem?_eq_some_iff.1 hf).1
    obtain ⟨sa, c, rfl, hs, -⟩ := hm.sl
    obtain ⟨H, rfl, _⟩ := hs (by omega)
    have c0 := hm.c0
    have t0 := hm.t0 hf
    have t1 := hm.t1 hf
    rw [Nat.zero_mul] at t0 t1
    have c60 := cells60
    have hlt' : (0 : Int) < (xs.length : Int) := by omega
    have hlr : (((p :: r).length : Nat) : Int) ≠ 0 := by simp; omega
    obtain ⟨n, hn⟩ : ∃ n, (p :: r).length = n := ⟨_, rfl⟩
    rw [hn] at HL hlr
    have hlr' : ((n : Int) == 0) = false := by simpa using hlr
    clear hR hf hn
    go_enter Try.func14, Try.ntmps14
    go_wp2_with (first
      | (go_at_call 13; refine HL.mono ?_; rintro e w1 ⟨rfl, hw⟩; subst w1))
    go_quiet (fail)
    go_wp2_with fail
    go_ret3
    exact ⟨rfl, ⟨_, rfl⟩⟩

theorem key_any (h : HQ w B T N q) (t : Int) :
    Calls Try.prog 16 #[.pointer (some ⟨B, 0, none⟩), .int .i64 t] w fun e w' => e = .returned (.tuple #[.int .i64 (keyV q t), .bool (hasB q t)]) ∧ Drawn w w' := by
  obtain ⟨G, k, v, xs, pl, rfl, hm, hR⟩ := h
  have HH := has_any hm hR t
  cases hb : hasB q t with
  | false =>
    rw [keyV_none hb]
    rw [hb] at HH
    go_enter Try.func16, Try.ntmps16
    go_wp2_with (first
      | (go_at_call 34; refine HH.mono ?_; rintro e w1 ⟨rfl, hw⟩; subst w1))
    go_ret2
    exact ⟨rfl, Drawn.refl _⟩
  | true =>
    rw [hb] at HH
    obtain ⟨id, i, ky, rfl, hid, hi, hpl, hk⟩ := hR.at' hb
    rw [hk]
    have hlt := (List.getElem?_eq_some_iff.1 hi).1
    obtain ⟨sa, c, rfl, hs, -⟩ := hm.sl
    obtain ⟨H, rfl, _⟩ := hs (by omega)
    have c0 := hm.c0
    have c1 := hm.c1
    have cx := hm.x hpl
    have t1 := hm.t1 hi
    have c60 := cells60
    have hid' : (id : Int) < (N : Int) := by omega
    have hlt' : (i : Int) < (xs.length : Int) := by omega
    have hid0 : (0 : Int) ≤ (id : Int) := by omega
    have hlt0 : (0 : Int) ≤ (i : Int) := by omega
    clear hR hi hpl hb hk
    go_enter Try.func16, Try.ntmps16
    go_wp2_with (first
      | (go_at_call 34; refine HH.mono ?_; rintro e w1 ⟨rfl, hw⟩; subst w1))
    go_quiet (fail)
    go_wp2_with fail
    go_ret2
    exact ⟨rfl, ⟨_, rfl⟩⟩

set_option maxHeartbeats 1000000 in
theorem pop_any (h : HQ w B T N q) :
    Calls Try.prog 21 #[.pointer (some ⟨B, 0, none⟩)] w fun e w' => e = .returned (.tuple #[.int .i64 (fstI q), .int .i64 (fstK q), .bool (fstB q)]) ∧ ∃ T', HQ w' B T' N q.tail ∧ Step T w T' w' := by
  have HL := least_any h
  cases q with
  | nil =>
    go_enter Try.func21, Try.ntmps21
    go_wp2_with (first
      | (go_at_call 14; refine HL.mono ?_; rintro e w1 ⟨rfl, hd⟩))
    go_ret3
    exact ⟨rfl, T, h.keep hd.but, Step.keep hd.but⟩
  | cons p r =>
    have HTK : ∀ W, Drawn w W → Calls Try.prog 38 #[.pointer (some ⟨B, 0, none⟩), .int .i64 0] W fun e w' => e = .returned (.tuple #[]) ∧ ∃ T', HQ w' B T' N r ∧ Step T W T' w' := fun W hW => by
      obtain ⟨G, k, v, xs, pl, rfl, hm, hR⟩ := h.keep hW.but
      have hf := hR.first rfl
      have hlt := (List.getElem?_eq_some_iff.1 hf).1
      obtain ⟨sa, c, rfl, hs, -⟩ := hm.sl
      obtain ⟨H, rfl, _⟩ := hs (by omega)
      have TK := take_any hm hR.pls hR.hp hlt
      rw [gx_of hf] at TK
      exact TK.mono fun e w' ⟨he, ⟨zs, pl5, h5, p5, pm5, hp5⟩, b5⟩ => ⟨he, taken _ h5 (hR.tail rfl p5 hp5 pm5) b5⟩
    have e1 : fstB (p :: r) = true := rfl
    rw [e1] at HL ⊢
    rw [List.tail_cons]
    generalize fstI (p :: r) = i at *
    generalize fstK (p :: r) = y at *
    go_enter Try.func21, Try.ntmps21
    go_wp2_with (first
      | (go_at_call 14; refine HL.mono ?_; rintro e w1 ⟨rfl, hd⟩)
      | (go_at_call 38; refine (HTK _ hd).mono ?_; rintro e w2 ⟨rfl, T2, h2, s2⟩))
    go_ret3
    exact ⟨rfl, T2, h2, (Step.keep hd.but).trans s2⟩
end

end Go.Proofs.Ytmogedfjhbfglaa
