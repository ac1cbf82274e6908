/- Contracts of num's Sub and of Lower. -/
import Derived.Test.YtmogedfjhbfglaaCopy
import Derived.Test.YtmogedfjhbfglaaOpens
namespace Go.Proofs.Ytmogedfjhbfglaa
open Go.RowKit

/-- Whether a number is an int; what is told of it. -/
def fitsB (V : Int) : Bool := decide (-9223372036854775808 ≤ V ∧ V ≤ 9223372036854775807)
def toldI (V : Int) : Int := if fitsB V then V else 0

theorem sub_any (a b : Int) (w : World) (ha0 : -9223372036854775808 ≤ a) (ha1 : a ≤ 9223372036854775807) (hb0 : -9223372036854775808 ≤ b) (hb1 : b ≤ 9223372036854775807) :
    Calls Try.prog 40 #[.int .i64 a, .int .i64 b] w fun e w' => e = .returned (.tuple #[.int .i64 (toldI (a - b)), .bool (fitsB (a - b))]) ∧ w' = w := by
  cases hf : fitsB (a - b)
  · rw [show toldI (a - b) = 0 by simp [toldI, hf]]
    have hf' : a - b < -9223372036854775808 ∨ 9223372036854775807 < a - b := by unfold fitsB at hf; simp at hf; omega
    clear hf
    rcases hf' with h | h
    · have h1 : 0 < b := by omega
      have h2 : a < -9223372036854775808 + b := by omega
      go_enter Try.func40, Try.ntmps40
      go_wp2_with fail
      go_ret2
      exact ⟨rfl, rfl⟩
    · have h1 : b < 0 := by omega
      have h2 : 9223372036854775807 + b < a := by omega
      go_enter Try.func40, Try.ntmps40
      go_wp2_with fail
      go_ret2
      exact ⟨rfl, rfl⟩
  · rw [show toldI (a - b) = a - b by simp [toldI, hf]]
    have hf0 : -9223372036854775808 ≤ a - b := by unfold fitsB at hf; simp at hf; omega
    have hf1 : a - b ≤ 9223372036854775807 := by unfold fitsB at hf; simp at hf; omega
    clear hf
    by_cases h : 0 < b
    · have h2 : ¬ a < -9223372036854775808 + b := by omega
      have h3 : ¬ b < 0 := by omega
      go_enter Try.func40, Try.ntmps40
      go_wp2_with fail
      go_ret2
      exact ⟨rfl, rfl⟩
    · by_cases h3 : b < 0
      · have h4 : ¬ 9223372036854775807 + b < a := by omega
        go_enter Try.func40, Try.ntmps40
        go_wp2_with fail
        go_ret2
        exact ⟨rfl, rfl⟩
      · go_enter Try.func40, Try.ntmps40
        go_wp2_with fail
        go_ret2
        exact ⟨rfl, rfl⟩

/-- What Lower tells, and makes of the list. -/
def lowB (q : List Th) (c : Int) : Bool := q.all (fun p => fitsB (p.2 - c))
def lowE (q : List Th) (c : Int) : Int := if lowB q c then 0 else 8
def lowS (q : List Th) (c : Int) : List Th := if lowB q c then lowL q c else q
theorem lowB_perm {xs q : List Th} (h : xs.Perm q) (c : Int) : lowB xs c = lowB q c := by
  rw [Bool.eq_iff_iff]
  unfold lowB
  rw [List.all_eq_true, List.all_eq_true]
  exact ⟨fun H p hp => H p (h.symm.subset hp), fun H p hp => H p (h.subset hp)⟩

/-- The things on the way, behind i of them. -/
def lowW (xs : List Th) (c : Int) (i : Nat) : List Th := lowL (xs.take i) c ++ xs.drop i
theorem lowW_len {xs : List Th} {c : Int} {i : Nat} : (lowW xs c i).length = xs.length := by
  simp [lowW, lowL]
  omega
theorem lowW_get {xs : List Th} {c : Int} {i : Nat} {p : Th} (h : xs[i]? = some p) : (lowW xs c i)[i]? = some p := by
  have hi := (List.getElem?_eq_some_iff.1 h).1
  have hl : (lowL (xs.take i) c).length = i := by simp [lowL]; omega
  unfold lowW
  rw [List.getElem?_append_right (by omega), hl, Nat.sub_self, List.getElem?_drop, Nat.add_zero]
  exact h
theorem lowW_set {xs : List Th} {c : Int} {i : Nat} {p : Th} (h : xs[i]? = some p) : (lowW xs c i).set i (p.1, p.2 - c) = lowW xs c (i + 1) := by
  obtain ⟨hi, e⟩ := List.getElem?_eq_some_iff.1 h
  have hl : (lowL (xs.take i) c).length = i := by simp [lowL]; omega
  unfold lowW
  rw [List.set_append_right _ _ (by omega), hl, Nat.sub_self, List.drop_eq_getElem_cons hi, List.set_cons_zero, List.take_add_one, h]
  simp [lowL]
theorem lowW_0 (xs : List Th) (c : Int) : lowW xs c 0 = xs := by simp [lowW, lowL]
theorem lowW_end (xs : List Th) (c : Int) : lowW xs c xs.length = lowL xs c := by simp [lowW]

/-- Another row of things takes the place of the one that was. -/
theorem HM.other {w : World} {B G k N : Nat} {v v' : Value} {xs ys : List Th} {pl : List Int} (h : HM w B G k N v xs pl) (ho : w.ownsRow 0 60 2 v' ys.length (flat ys)) (nB : v'.ownBlock ≠ some B) (nG : v'.ownBlock ≠ some G) : HM (w.setCell ⟨B, 0, none⟩ v') B G k N v' ys pl := by
  refine ⟨?_, ownsRow_put ho (fun x hx => ?_), h.g.other (Ne.symm h.bg) _ _, h.bg, nB, nG, h.n1, h.n2⟩
  · have := heap_setCell_same w B 0 _ 54 v' h.b
    rw [this]
    simp
  · exact Below.heap_setCell w ⟨B, 0, none⟩ _ x (fun e => nB (by rw [hx, e]))

section
variable {w : World} {B N : Nat} {T : List Nat} {q : List Th}

set_option maxHeartbeats 4000000 in
theorem lower_any (h : HQ w B T N q) (hq : ∀ p ∈ q, I64 p.2) (c : Int) (hc : I64 c) :
    Calls Try.prog 24 #[.pointer (some ⟨B, 0, none⟩), .int .i64 c] w fun e w' => e = .returned (.int .i64 (lowE q c)) ∧ ∃ T', HQ w' B T' N (lowS q c) ∧ Step T w T' w' := by
  obtain ⟨G, k, v, xs, pl, rfl, hm, hR⟩ := h
  have hM := made_any hm
  have hxl : xs.length ≤ 4096 := Nat.le_trans hR.pls.short hm.n2
  have hx64 : ∀ p ∈ xs, I64 p.2 := fun p hp => hq p (hR.pm.subset hp)
  have CT := clone_thing (W := w) hm.h (by omega)
  obtain ⟨va, vc, rfl, hvs, -⟩ := hm.sl
  have c0 := hm.c0
  have lB := hm.lt (x := B) bks_B
  have lG := hm.lt (x := G) bks_G
  go_enter Try.func24, Try.ntmps24
  go_wp2_with (first
    | (go_at_call 31; refine hM.mono ?_; rintro e w' ⟨rfl, hw⟩; subst w')
    | (go_at_call 39; refine CT.mono ?_; rintro e w1 ⟨v1, rfl, r1, g1, b1⟩; obtain ⟨a1, c1, rfl⟩ := own_sh r1; have hm1 := hm.keep (.of_below b1); have d0 := hm1.c0))
  go_loopw [23, 6, 7, 8, 9] (fun v _ _ _ _ wr => ∃ i : Nat, i ≤ xs.length ∧ v = .int .i64 i ∧ wr.ownsRow 0 60 2 (.slice a1 xs.length c1) xs.length (flat (lowW xs c i)) ∧ (∀ p ∈ xs.take i, fitsB (p.2 - c) = true) ∧ But [] w wr) (fun v _ _ _ _ _ => 4096 - (intOf v).toNat)
  case atStart => exact ⟨0, by omega, rfl, by rw [lowW_0]; exact r1, by simp, .of_below b1⟩
  case round =>
    clear d0 hm1 b1 r1 CT hM
    obtain ⟨i, hi, rfl, r1, hf, hB⟩ := hrel
    have hmr := hm.keep hB
    by_cases hlt : i < xs.length
    · obtain ⟨H, rfl, -⟩ := hvs (by omega)
      have hx : xs[i]? = some xs[i] := List.getElem?_eq_getElem hlt
      have ht : xs.take (i + 1) = xs.take i ++ [xs[i]] := by rw [List.take_add_one, hx]; rfl
      have h64 := hx64 xs[i] (List.getElem_mem hlt)
      have hmem : xs[i] ∈ xs := List.getElem_mem hlt
      generalize xs[i] = p at *
      have hlt' : (i : Int) < (xs.length : Int) := by omega
      have t0 := hmr.t0 hx
      have t1 := hmr.t1 hx
      have c60 := cells60
      have SB := sub_any p.2 c
      obtain ⟨H1, c1', e1⟩ := own_some r1 (by omega)
      cases e1
      have hB1 : But [] w (wr.alloc (.cells #[.int .i64 (p.1 : Int), .int .i64 p.2] 60)) := hB.alloc _
      have r1a := r1.alloc (.cells #[.int .i64 (p.1 : Int), .int .i64 p.2] 60)
      have hg1 : w.heap.size ≤ H1 := g1 H1 rfl
      have k1 := (r1a.cellAt (i * 2 + 1) (by omega)).trans (flat_1 (lowW_get (c := c) hx))
      have f1 := r1a.frozenAt (i * 2 + 1)
      have bx : (wr.alloc (.cells #[.int .i64 (p.1 : Int), .int .i64 p.2] 60)).cell? ⟨wr.heap.size, 1, none⟩ = some (.int .i64 p.2) := by simp [go_sem]
      cases hfit : fitsB (p.2 - c) with
      | true =>
        have r2 := (r1a.stored (i * 2 + 1) (.int .i64 (p.2 - c))).1
        rw [← flat_set1 (p.2 - c) (lowW_get (c := c) hx), lowW_set hx] at r2
        have hf2 : ∀ r ∈ xs.take (i + 1), fitsB (r.2 - c) = true := fun r hr => by
          rw [ht] at hr
          rcases List.mem_append.1 hr with hr | hr
          · exact hf r hr
          · rw [List.mem_singleton.1 hr]
            exact hfit
        have SB' : ∀ W, Calls Try.prog 40 #[.int .i64 p.2, .int .i64 c] W fun e w' => e = .returned (.tuple #[.int .i64 (p.2 - c), .bool true]) ∧ w' = W := fun W => by
          have := SB W h64.1 h64.2 hc.1 hc.2
          unfold toldI at this
          rw [hfit, if_pos rfl] at this
          exact this
        obtain ⟨pi, px⟩ := p
        dsimp only at *
        generalize px - c = y at *
        clear hf ht hx SB r1 r1a
        go_wp2_with (first
          | (go_at_call 40; refine (SB' _).mono ?_; rintro e w' ⟨rfl, hw⟩; subst w'))
        go_roundw
        case rel => exact ⟨i + 1, by omega, by simp, r2, hf2, hB1.trans_new ((But.refl [H1] _).set (p := ⟨H1, i * 2 + 1, none⟩) (by simp) _) (by simpa using hg1)⟩
        case measure =>
          simp [intOf]
          omega
      | false =>
        have SB' : ∀ W, Calls Try.prog 40 #[.int .i64 p.2, .int .i64 c] W fun e w' => e = .returned (.tuple #[.int .i64 0, .bool false]) ∧ w' = W := fun W => by
          have := SB W h64.1 h64.2 hc.1 hc.2
          unfold toldI at this
          rw [hfit, if_neg (by simp)] at this
          exact this
        have hno : lowB q c = false := by
          rw [← lowB_perm hR.pm c]
          unfold lowB
          rw [List.all_eq_false]
          exact ⟨p, hmem, by simp [hfit]⟩
        have E1 : Hid (lowE q c = 8) := by show lowE q c = 8; unfold lowE; rw [hno]; rfl
        have E2 : Hid (lowS q c = q) := by show lowS q c = q; unfold lowS; rw [hno]; rfl
        clear hf ht SB r1 r1a hno
        obtain ⟨pi, px⟩ := p
        dsimp only at *
        go_wp2_with (first
          | (go_at_call 40; refine (SB' _).mono ?_; rintro e w' ⟨rfl, hw⟩; subst w'))
        go_ret
        rw [E1.out, E2.out]
        exact ⟨rfl, _, ⟨G, k, _, xs, pl, rfl, hm.keep hB1, hR⟩, Step.keep hB1⟩
    · obtain rfl : i = xs.length := by omega
      rw [lowW_end] at r1
      rw [List.take_length] at hf
      have hyes : lowB q c = true := by
        rw [← lowB_perm hR.pm c]
        unfold lowB
        rw [List.all_eq_true]
        exact hf
      have E1 : Hid (lowE q c = 0) := by show lowE q c = 0; unfold lowE; rw [hyes]; rfl
      have E2 : Hid (lowS q c = lowL q c) := by show lowS q c = lowL q c; unfold lowS; rw [hyes]; rfl
      have d0 := hmr.c0
      have d1 := hmr.fb 0
      have h2 := hmr.other (v' := .slice a1 xs.length c1) (ys := lowL xs c) (by rw [show (lowL xs c).length = xs.length by simp [lowL]]; exact r1) (fun e => by have := g1 _ e; omega) (fun e => by have := g1 _ e; omega)
      have hrl := hR.low c
      clear hf hyes r1
      go_wp2_with fail
      go_ret
      rw [E1.out, E2.out]
      refine ⟨rfl, _, ⟨G, k, _, _, pl, rfl, h2, hrl⟩, (hB.wide).set (p := ⟨B, 0, none⟩) bks_B _, fun x hx => ?_⟩
      rcases bks_out hx with rfl | rfl | hx
      · exact .inl bks_B
      · exact .inl bks_G
      · exact .inr (g1 _ hx)
end

end Go.Proofs.Ytmogedfjhbfglaa
