/- Contracts of known, Live and Free. -/
import Derived.Test.YtjgclehghnmhnaaDoorSTurn
namespace Go.Proofs.YtjgclehghnmhnaaDoor
open Go.RowKit

/-- The index of an id, as a place. -/
def ix (id : Int) : Nat := (id % 65536).toNat
/-- Was the id ever taken? -/
def knownB (ag : List Nat) (id : Int) : Bool := decide (right id) && (match ag[ix id]? with | some a => decide (id / 65536 ≤ (a : Int)) | none => false)
/-- Is it taken? -/
def liveB (ag : List Nat) (tk : List Bool) (id : Int) : Bool := decide (right id) && (tk[ix id]? == some true) && (match ag[ix id]? with | some a => id / 65536 == (a : Int) | none => false)

theorem ix_lt (id : Int) : ix id < 65536 := by unfold ix; omega
theorem ix_eq (id : Int) : ((ix id : Nat) : Int) = id % 65536 := by unfold ix; omega

section
variable {w w' : World} {B G n c : Nat} {fs ag : List Nat}

set_option maxHeartbeats 2000000 in
theorem known_any (h : SlM w B G n c fs ag) (id : Int) (h0 : -9223372036854775808 ≤ id) (h1 : id ≤ 9223372036854775807) :
    Calls Tryd.prog 75 #[.pointer (some ⟨B, 0, none⟩), .int .i64 id] w fun e w' => e = .returned (.bool (knownB ag id)) ∧ Drawn w w' := by
  have hI := index_any id h0 h1
  have hA := age_any id h0 h1
  have c64 := h.c64
  unfold knownB
  by_cases hr : right id
  · have ea : ageI id = id / 65536 := by unfold ageI; rw [if_pos hr]
    have ei : indexI id = ((ix id : Nat) : Int) := by unfold indexI; rw [if_pos hr, ix_eq]
    rw [ea] at hA
    rw [ei] at hI
    rw [decide_eq_true hr, Bool.true_and]
    clear ea ei hr h0 h1
    generalize id / 65536 = a at hA ⊢
    generalize ix id = j at hI ⊢
    have hj0 : (0 : Int) ≤ (j : Int) := by omega
    by_cases hj : j < n
    · have hj' : (j : Int) < (n : Int) := by omega
      obtain ⟨x, hx⟩ : ∃ x, ag[j]? = some x := ⟨_, List.getElem?_eq_getElem (by rw [h.alen]; exact hj)⟩
      have hc := h.a hx
      rw [hx]
      go_enter Tryd.func75, Tryd.ntmps75
      go_wp2_with (go_at_call 77; refine (hI _).mono ?_; rintro e w' ⟨rfl, hw⟩; subst w')
      go_quiet (first | (go_at_call 62; exact Calls.quiet_of_same (made_any (h.drawn ⟨_, rfl⟩))) | (go_at_call 92; exact Calls.quiet_of_same (hA _)))
      go_wp2_with fail
      go_ret
      exact ⟨rfl, _, rfl⟩
    · have hj' : decide ((j : Int) < (n : Int)) = false := decide_eq_false (by omega)
      have hx : ag[j]? = none := List.getElem?_eq_none (by rw [h.alen]; omega)
      rw [hx]
      go_enter Tryd.func75, Tryd.ntmps75
      go_wp2_with (go_at_call 77; refine (hI _).mono ?_; rintro e w' ⟨rfl, hw⟩; subst w')
      go_quiet (first | (go_at_call 62; exact Calls.quiet_of_same (made_any (h.drawn ⟨_, rfl⟩))) | (go_at_call 92; exact Calls.quiet_of_same (hA _)))
      go_wp2_with fail
      go_ret
      exact ⟨rfl, _, rfl⟩
  · have ei : indexI id = -1 := by unfold indexI; rw [if_neg hr]
    rw [ei] at hI
    rw [decide_eq_false hr, Bool.false_and]
    go_enter Tryd.func75, Tryd.ntmps75
    go_wp2_with (go_at_call 77; refine (hI _).mono ?_; rintro e w' ⟨rfl, hw⟩; subst w')
    go_quiet (first | (go_at_call 62; exact Calls.quiet_of_same (made_any (h.drawn ⟨_, rfl⟩))) | (go_at_call 92; exact Calls.quiet_of_same (hA _)))
    go_wp2_with fail
    go_ret
    exact ⟨rfl, _, rfl⟩

theorem SlQ.at {n : Nat} {tk : List Bool} (h : SlQ w B G n ag tk) {j : Nat} (hj : j < n) : ∃ x t, ag[j]? = some x ∧ tk[j]? = some t := by
  obtain ⟨c, fs, h, hl, _⟩ := h
  exact ⟨_, _, List.getElem?_eq_getElem (by rw [h.alen]; exact hj), List.getElem?_eq_getElem (by rw [hl]; exact hj)⟩
theorem SlQ.out {n : Nat} {tk : List Bool} (h : SlQ w B G n ag tk) {j : Nat} (hj : ¬ j < n) : ag[j]? = none ∧ tk[j]? = none := by
  obtain ⟨c, fs, h, hl, _⟩ := h
  exact ⟨List.getElem?_eq_none (by rw [h.alen]; omega), List.getElem?_eq_none (by rw [hl]; omega)⟩

theorem known_iff {ag : List Nat} {id : Int} (h : knownB ag id = true) : right id ∧ ∃ a, ag[ix id]? = some a ∧ id / 65536 ≤ (a : Int) := by
  unfold knownB at h
  rw [Bool.and_eq_true] at h
  obtain ⟨h1, h2⟩ := h
  refine ⟨of_decide_eq_true h1, ?_⟩
  cases hx : ag[ix id]? with
  | none => rw [hx] at h2; cases h2
  | some a => rw [hx] at h2; exact ⟨a, rfl, of_decide_eq_true h2⟩
theorem live_known {ag : List Nat} {tk : List Bool} {id : Int} (h : liveB ag tk id = true) : knownB ag id = true := by
  unfold liveB at h
  simp only [Bool.and_eq_true] at h
  obtain ⟨⟨h1, _⟩, h2⟩ := h
  unfold knownB
  rw [h1, Bool.true_and]
  cases hx : ag[ix id]? with
  | none => rw [hx] at h2; cases h2
  | some a => rw [hx] at h2; simp at h2 ⊢; omega

set_option maxHeartbeats 2000000 in
theorem live_any {tk : List Bool} (h : SlQ w B G n ag tk) (id : Int) (h0 : -9223372036854775808 ≤ id) (h1 : id ≤ 9223372036854775807) :
    Calls Tryd.prog 76 #[.pointer (some ⟨B, 0, none⟩), .int .i64 id] w fun e w' => e = .returned (.bool (liveB ag tk id)) ∧ Drawn w w' := by
  obtain ⟨c, fs, h, hl, hb⟩ := h
  have hK : ∀ W, Drawn w W → Calls Tryd.prog 75 #[.pointer (some ⟨B, 0, none⟩), .int .i64 id] W fun e w' => e = .returned (.bool (knownB ag id)) ∧ Drawn W w' := fun W hd => known_any (h.drawn hd) id h0 h1
  have hI := index_any id h0 h1
  have hA := age_any id h0 h1
  have c64 := h.c64
  cases hk : knownB ag id
  · have e : liveB ag tk id = false := by
      cases hv : liveB ag tk id
      · rfl
      · rw [live_known hv] at hk; cases hk
    rw [e]
    rw [hk] at hK
    clear e hk
    go_enter Tryd.func76, Tryd.ntmps76
    go_wp2_with fail
    go_quiet (first | (go_at_call 75; exact Calls.quiet_of (hK _ ⟨_, rfl⟩)))
    go_wp2_with fail
    go_ret
    exact ⟨rfl, _, rfl⟩
  · obtain ⟨hr, a, ha, hle⟩ := known_iff hk
    rw [hk] at hK
    have hj : ix id < n := by have := (List.getElem?_eq_some_iff.1 ha).1; rw [h.alen] at this; exact this
    have hn := h.le
    have hT : ∀ W, Drawn w W → Calls Tryd.prog 63 #[.pointer (some ⟨B, 0, none⟩), .int .i64 ((ix id : Nat) : Int)] W fun e w' => e = .returned (.bool (!bitF fs (ix id))) ∧ Drawn W w' := fun W hd => taken_any (h.drawn hd) _ (by omega)
    have hc := h.a ha
    have ea : ageI id = id / 65536 := by unfold ageI; rw [if_pos hr]
    have ei : indexI id = ((ix id : Nat) : Int) := by unfold indexI; rw [if_pos hr, ix_eq]
    rw [ea] at hA
    rw [ei] at hI
    have hb := hb (ix id)
    obtain ⟨t, ht⟩ : ∃ t, tk[ix id]? = some t := ⟨_, List.getElem?_eq_getElem (by rw [hl]; exact hj)⟩
    have e : liveB ag tk id = (t && (id / 65536 == (a : Int))) := by
      unfold liveB
      rw [decide_eq_true hr, ht, ha]
      cases t <;> simp
    rw [e]
    rw [ht] at hb
    rw [hb] at hT
    clear hk ea ei hr hle e ha hb ht
    generalize id / 65536 = x at hA ⊢
    generalize ix id = j at hI hj hT hc ⊢
    have hj0 : (0 : Int) ≤ (j : Int) := by omega
    have hj' : (j : Int) < (n : Int) := by omega
    cases t
    · have hT' : ∀ W, Drawn w W → Calls Tryd.prog 63 #[.pointer (some ⟨B, 0, none⟩), .int .i64 ((j : Nat) : Int)] W fun e w' => e = .returned (.bool false) ∧ Drawn W w' := hT
      rw [Bool.false_and]
      go_enter Tryd.func76, Tryd.ntmps76
      go_wp2_with fail
      go_quiet (first | (go_at_call 75; exact Calls.quiet_of (hK _ ⟨_, rfl⟩)) | (go_at_call 63; exact Calls.quiet_of (hT' _ ⟨_, rfl⟩)) | (go_at_call 77; exact Calls.quiet_of_same (hI _)))
      go_wp2_with fail
      go_ret
      exact ⟨rfl, _, rfl⟩
    · have hT' : ∀ W, Drawn w W → Calls Tryd.prog 63 #[.pointer (some ⟨B, 0, none⟩), .int .i64 ((j : Nat) : Int)] W fun e w' => e = .returned (.bool true) ∧ Drawn W w' := hT
      rw [Bool.true_and]
      go_enter Tryd.func76, Tryd.ntmps76
      go_wp2_with fail
      go_quiet (first | (go_at_call 75; exact Calls.quiet_of (hK _ ⟨_, rfl⟩)) | (go_at_call 63; exact Calls.quiet_of (hT' _ ⟨_, rfl⟩)) | (go_at_call 77; exact Calls.quiet_of_same (hI _)) | (go_at_call 92; exact Calls.quiet_of_same (hA _)))
      go_wp2_with fail
      go_ret
      exact ⟨rfl, _, rfl⟩

/-- What Free tells; who is taken behind it. -/
def freeE (ag : List Nat) (tk : List Bool) (id : Int) : Int := if knownB ag id = false then 4 else if liveB ag tk id = false then 7 else 0
def freeT (ag : List Nat) (tk : List Bool) (id : Int) : List Bool := if liveB ag tk id then tk.set (ix id) false else tk

/-- Turned, an index is the other. -/
theorem bits_turn {fs : List Nat} {tk : List Bool} (hf : fs.length = 64) (hb : ∀ i, bitF fs i = (tk[i]? == some false)) {j : Nat} {t : Bool} (hj : j < 4096) (ht : tk[j]? = some t) :
    ∀ i, bitF (fs.set (j / 64) (fs.getD (j / 64) 0 ^^^ 2 ^ (j % 64))) i = ((tk.set j (!t))[i]? == some false) := by
  intro i
  have hl := (List.getElem?_eq_some_iff.1 ht).1
  rw [bitF_turn fs j i (by omega), hb j, hb i, ht]
  by_cases h : i = j
  · subst h
    rw [if_pos rfl, List.getElem?_set_self hl]
    cases t <;> rfl
  · rw [if_neg h, List.getElem?_set_ne (Ne.symm h)]

set_option maxHeartbeats 2000000 in
theorem free_any {tk : List Bool} (hsq : SlQ w B G n ag tk) (id : Int) (h0 : -9223372036854775808 ≤ id) (h1 : id ≤ 9223372036854775807) :
    Calls Tryd.prog 68 #[.pointer (some ⟨B, 0, none⟩), .int .i64 id] w fun e w' => e = .returned (.int .i64 (freeE ag tk id)) ∧ SlQ w' B G n ag (freeT ag tk id) ∧ But [B] w w' := by
  have hM : ∀ W, Drawn w W → Calls Tryd.prog 62 #[.pointer (some ⟨B, 0, none⟩)] W fun e w' => e = .returned (.bool true) ∧ w' = W := fun W hd => by
    obtain ⟨c, fs, h, _⟩ := hsq.drawn hd
    exact made_any h
  have hK : ∀ W, Drawn w W → Calls Tryd.prog 75 #[.pointer (some ⟨B, 0, none⟩), .int .i64 id] W fun e w' => e = .returned (.bool (knownB ag id)) ∧ Drawn W w' := fun W hd => by
    obtain ⟨c, fs, h, _⟩ := hsq.drawn hd
    exact known_any h id h0 h1
  have hL : ∀ W, Drawn w W → Calls Tryd.prog 76 #[.pointer (some ⟨B, 0, none⟩), .int .i64 id] W fun e w' => e = .returned (.bool (liveB ag tk id)) ∧ Drawn W w' := fun W hd => live_any (hsq.drawn hd) id h0 h1
  have hI := index_any id h0 h1
  unfold freeE freeT
  cases hk : knownB ag id
  · have e : liveB ag tk id = false := by
      cases hv : liveB ag tk id
      · rfl
      · rw [live_known hv] at hk; cases hk
    rw [e]
    rw [hk] at hK
    clear hk e
    go_enter Tryd.func68, Tryd.ntmps68
    go_wp2_with (first
      | (go_at_call 62; refine (hM _ (Drawn.refl w)).mono ?_; rintro e w' ⟨rfl, hw⟩; subst w')
      | (go_at_call 75; refine (hK _ (Drawn.refl w)).mono ?_; rintro e w' ⟨rfl, hd⟩))
    go_ret
    exact ⟨rfl, hsq.drawn hd, hd.but⟩
  · rw [hk] at hK
    cases hv : liveB ag tk id
    · rw [hv] at hL
      clear hk hv
      go_enter Tryd.func68, Tryd.ntmps68
      go_wp2_with (first
        | (go_at_call 62; refine (hM _ (Drawn.refl w)).mono ?_; rintro e w' ⟨rfl, hw⟩; subst w')
        | (go_at_call 75; refine (hK _ (Drawn.refl w)).mono ?_; rintro e w1 ⟨rfl, hd⟩)
        | (go_at_call 76; refine (hL _ hd).mono ?_; rintro e w2 ⟨rfl, hd2⟩; replace hd2 := hd.trans hd2))
      go_ret
      exact ⟨rfl, hsq.drawn hd2, hd2.but⟩
    · obtain ⟨hr, a, ha, hle⟩ := known_iff hk
      have ht : tk[ix id]? = some true := by
        unfold liveB at hv
        simp only [Bool.and_eq_true] at hv
        simpa using hv.1.2
      have ei : indexI id = ((ix id : Nat) : Int) := by unfold indexI; rw [if_pos hr, ix_eq]
      rw [ei] at hI
      rw [hv] at hL
      obtain ⟨c, fs, hm, hl, hb⟩ := hsq
      have hj : ix id < n := by have := (List.getElem?_eq_some_iff.1 ha).1; rw [hm.alen] at this; exact this
      have hn := hm.le
      have hq := bits_turn hm.flen hb (j := ix id) (by omega) ht
      have hT : ∀ W, Drawn w W → Calls Tryd.prog 57 #[.pointer (some ⟨B, 0, none⟩), .int .i64 ((ix id : Nat) : Int)] W fun e w' => e = .returned (.tuple #[]) ∧ SlM w' B G n c (fs.set (ix id / 64) (fs.getD (ix id / 64) 0 ^^^ 2 ^ (ix id % 64))) ag ∧ But [B] W w' := fun W hd => turn_any (hm.drawn hd) _ (by omega)
      clear hk hv ei hr hle ha
      generalize ix id = j at hI hj hT hq ht ⊢
      generalize (fs.set (j / 64) (fs.getD (j / 64) 0 ^^^ 2 ^ (j % 64))) = fs' at hT hq
      go_enter Tryd.func68, Tryd.ntmps68
      go_wp2_with (first
        | (go_at_call 62; refine (hM _ (Drawn.refl w)).mono ?_; rintro e w' ⟨rfl, hw⟩; subst w')
        | (go_at_call 75; refine (hK _ (Drawn.refl w)).mono ?_; rintro e w1 ⟨rfl, hd⟩)
        | (go_at_call 76; refine (hL _ hd).mono ?_; rintro e w2 ⟨rfl, hd2⟩; replace hd2 := hd.trans hd2)
        | (go_at_call 77; refine (hI _).mono ?_; rintro e w3 ⟨rfl, hw⟩; subst w3)
        | (go_at_call 57; refine (hT _ hd2).mono ?_; rintro e w4 ⟨rfl, hs, hbt⟩))
      go_ret
      exact ⟨rfl, ⟨c, fs', hs, by simpa using hl, hq⟩, hd2.but.trans hbt⟩

end
end Go.Proofs.YtjgclehghnmhnaaDoor
