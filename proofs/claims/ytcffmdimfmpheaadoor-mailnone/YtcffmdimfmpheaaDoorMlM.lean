/- A box of events, plain: what calls tell of it, and what they leave. -/
import Derived.Test.YtcffmdimfmpheaaDoorEvt
namespace Go.Proofs.YtcffmdimfmpheaaDoor
open Go

/-- Is a kind an upcall's? May an event be in a box? May all? -/
def upB (k : Int) : Bool := decide (1 ≤ k) && decide (k ≤ 4)
def mayE (e : Ev) : Bool := goodE e && upB e.kd
def allM (l : List Ev) : Bool := l.all mayE
theorem allM_app (xs ys : List Ev) : allM (xs ++ ys) = (allM xs && allM ys) := by simp [allM]
theorem allM_one (e : Ev) : allM [e] = mayE e := by simp [allM]
theorem allM_take {xs : List Ev} (h : allM xs = true) (k : Nat) : allM (xs.take k) = true := by
  unfold allM at h ⊢
  rw [List.all_eq_true] at h ⊢
  exact fun x hx => h x (List.mem_of_mem_take hx)
theorem allM_drop {xs : List Ev} (h : allM xs = true) (k : Nat) : allM (xs.drop k) = true := by
  unfold allM at h ⊢
  rw [List.all_eq_true] at h ⊢
  exact fun x hx => h x (List.mem_of_mem_drop hx)
theorem allM_at {xs : List Ev} {j : Nat} (hj : j < xs.length) (h : mayE (ev xs j) = false) : allM xs = false := by
  unfold allM
  rw [List.all_eq_false]
  exact ⟨ev xs j, ev_mem hj, by rw [h]; simp⟩
theorem allM_all {xs : List Ev} (h : ∀ j, j < xs.length → mayE (ev xs j) = true) : allM xs = true := by
  unfold allM
  rw [List.all_eq_true]
  intro x hx
  obtain ⟨j, hj, e⟩ := List.mem_iff_getElem.1 hx
  have h1 := h j hj
  rwa [ev_of (show xs[j]? = some x by rw [List.getElem?_eq_getElem hj, e])] at h1

/-- What is wrong with events getting into a box of room N with xs in it. -/
def askE (N : Nat) (xs l : List Ev) : Int := if allM l = true then (if xs.length + l.length ≤ N then 0 else 3) else 2
theorem askE_arg {N : Nat} {xs l : List Ev} (h : allM l = false) : askE N xs l = 2 := by simp [askE, h]
theorem askE_full {N : Nat} {xs l : List Ev} (h : allM l = true) (hn : ¬ xs.length + l.length ≤ N) : askE N xs l = 3 := by simp [askE, h, hn]
theorem askE_ok {N : Nat} {xs l : List Ev} (h : allM l = true) (hn : xs.length + l.length ≤ N) : askE N xs l = 0 := by simp [askE, h, hn]
theorem askE_inv {N : Nat} {xs l : List Ev} (h : askE N xs l = 0) : allM l = true ∧ xs.length + l.length ≤ N := by
  unfold askE at h
  split at h
  · split at h
    · exact ⟨by assumption, by assumption⟩
    · cases h
  · cases h
def putX (N : Nat) (xs : List Ev) (e : Ev) : List Ev := if askE N xs [e] = 0 then xs ++ [e] else xs
def undX (N : Nat) (xs l : List Ev) : List Ev := if askE N xs l = 0 then l ++ xs else xs
theorem put_len {N : Nat} {xs : List Ev} (h : xs.length ≤ N) (e : Ev) : (putX N xs e).length ≤ N := by
  unfold putX
  split
  · rename_i h0
    have := (askE_inv h0).2
    simpa using this
  · exact h
theorem und_len {N : Nat} {xs : List Ev} (h : xs.length ≤ N) (l : List Ev) : (undX N xs l).length ≤ N := by
  unfold undX
  split
  · rename_i h0
    have := (askE_inv h0).2
    simp
    omega
  · exact h

/-- How many go into one upcall of m. -/
def cntK : Nat → List Ev → Nat
  | 0, _ => 0
  | _ + 1, [] => 0
  | m + 1, x :: r => if preB x = true then 1 else cntK m r + 1
theorem ev_zero (x : Ev) (r : List Ev) : ev (x :: r) 0 = x := rfl
theorem ev_succ (x : Ev) (r : List Ev) (j : Nat) : ev (x :: r) (j + 1) = ev r j := rfl
theorem cntK_cnt : ∀ (m : Nat) (xs : List Ev), Cnt m xs (cntK m xs)
  | 0, xs => ⟨by simp [cntK], by simp [cntK], fun j hj => by simp [cntK] at hj, .inr (.inl (by simp [cntK]))⟩
  | m + 1, [] => ⟨by simp [cntK], by simp [cntK], fun j hj => by simp [cntK] at hj, .inl (by simp [cntK])⟩
  | m + 1, x :: r => by
    have ih := cntK_cnt m r
    unfold cntK
    split
    · rename_i hp
      exact ⟨by simp, by omega, fun j hj => by omega, .inr (.inr ⟨by omega, by simpa [ev_zero] using hp⟩)⟩
    · rename_i hp
      have h1 := ih.len
      have h2 := ih.most
      refine ⟨by simp; omega, by omega, fun j hj => ?_, ?_⟩
      · cases j with
        | zero => rw [ev_zero]; simpa using hp
        | succ j => rw [ev_succ]; exact ih.pre j (by omega)
      · rcases ih.stop with h | h | ⟨h, hq⟩
        · exact .inl (by simp; omega)
        · exact .inr (.inl (by omega))
        · refine .inr (.inr ⟨by omega, ?_⟩)
          obtain ⟨k, hk⟩ : ∃ k, cntK m r = k + 1 := ⟨cntK m r - 1, by omega⟩
          rw [hk] at hq ⊢
          simp only [Nat.add_sub_cancel] at hq ⊢
          rw [ev_succ]
          exact hq
def tkN (m : Int) (xs : List Ev) : Nat := cntK (max m 1).toNat xs
theorem tkN_pos (m : Int) {xs : List Ev} (h : 0 < xs.length) : 0 < tkN m xs := by
  unfold tkN
  obtain ⟨k, hk⟩ : ∃ k, (max m 1).toNat = k + 1 := ⟨(max m 1).toNat - 1, by omega⟩
  rw [hk]
  cases xs with
  | nil => simp at h
  | cons x r =>
    unfold cntK
    split <;> omega
theorem tkN_le (m : Int) (xs : List Ev) : tkN m xs ≤ xs.length := (cntK_cnt _ xs).len
theorem tk_of {m : Int} {xs : List Ev} {k : Nat} (h : Cnt (max m 1).toNat xs k) (h0 : 0 < xs.length → 0 < k) : k = tkN m xs :=
  h.uniq (cntK_cnt _ xs) h0 (fun h => tkN_pos m h)
def tkT (m : Int) (xs : List Ev) : List Ev := xs.take (tkN m xs)
def tkX (m : Int) (xs : List Ev) : List Ev := xs.drop (tkN m xs)
theorem tk_app (m : Int) (xs : List Ev) : tkT m xs ++ tkX m xs = xs := List.take_append_drop _ _
theorem tkX_len (m : Int) (xs : List Ev) : (tkX m xs).length ≤ xs.length := by
  unfold tkX
  rw [List.length_drop]
  omega

/-- Those of a thread go. -/
def drpX (xs : List Ev) (t : Int) : List Ev := xs.filter (fun e => decide (e.th ≠ t))
def drpN (xs : List Ev) (t : Int) : Int := (xs.length : Int) - ((drpX xs t).length : Int)
theorem drp_len (xs : List Ev) (t : Int) : (drpX xs t).length ≤ xs.length := List.length_filter_le _ _
theorem drpX_app (xs ys : List Ev) (t : Int) : drpX (xs ++ ys) t = drpX xs t ++ drpX ys t := by simp [drpX]
theorem drpX_in {e : Ev} {t : Int} (h : e.th ≠ t) : drpX [e] t = [e] := by simp [drpX, h]
theorem drpX_out {e : Ev} {t : Int} (h : e.th = t) : drpX [e] t = [] := by simp [drpX, h]
theorem ev_next {xs : List Ev} {j : Nat} (hj : j < xs.length) : xs.take (j + 1) = xs.take j ++ [ev xs j] := by
  rw [List.take_add_one, ev_get hj]
  rfl
theorem drpX_all {xs : List Ev} {t : Int} (h : ∀ j, j < xs.length → (ev xs j).th ≠ t) : drpX xs t = xs := by
  unfold drpX
  rw [List.filter_eq_self]
  intro r hr
  obtain ⟨j, hj, e⟩ := List.mem_iff_getElem.1 hr
  have h1 := h j hj
  rw [ev_of (show xs[j]? = some r by rw [List.getElem?_eq_getElem hj, e])] at h1
  simpa using h1
/-- How many are of a kind. -/
def kndN (xs : List Ev) (k : Int) : Nat := xs.countP (fun e => decide (e.kd = k))
theorem kndN_next {xs : List Ev} {j : Nat} (hj : j < xs.length) (k : Int) : kndN (xs.take (j + 1)) k = kndN (xs.take j) k + (if (ev xs j).kd = k then 1 else 0) := by
  rw [ev_next hj]
  unfold kndN
  rw [List.countP_append]
  by_cases h : (ev xs j).kd = k <;> simp [h]
theorem kndN_le (xs : List Ev) (k : Int) : kndN xs k ≤ xs.length := List.countP_le_length
/-- The first of a thread. -/
def fndV (xs : List Ev) (t : Int) : Ev := (xs.find? (fun e => decide (e.th = t))).getD z15
def fndB (xs : List Ev) (t : Int) : Bool := (xs.find? (fun e => decide (e.th = t))).isSome
theorem fnd_none {xs : List Ev} {t : Int} (h : ∀ j, j < xs.length → (ev xs j).th ≠ t) : fndV xs t = z15 ∧ fndB xs t = false := by
  have : xs.find? (fun e => decide (e.th = t)) = none := by
    rw [List.find?_eq_none]
    intro r hr
    obtain ⟨j, hj, e⟩ := List.mem_iff_getElem.1 hr
    have h1 := h j hj
    rw [ev_of (show xs[j]? = some r by rw [List.getElem?_eq_getElem hj, e])] at h1
    simpa using h1
  unfold fndV fndB
  rw [this]
  exact ⟨rfl, rfl⟩
theorem fnd_some {xs : List Ev} {t : Int} {k : Nat} (hk : k < xs.length) (he : (ev xs k).th = t) (h : ∀ j, j < k → (ev xs j).th ≠ t) : fndV xs t = ev xs k ∧ fndB xs t = true := by
  have : xs.find? (fun e => decide (e.th = t)) = some (ev xs k) := by
    rw [List.find?_eq_some_iff_append]
    refine ⟨by simpa using he, xs.take k, xs.drop (k + 1), ?_, fun r hr => ?_⟩
    · have e1 := ev_get hk
      rw [List.getElem?_eq_getElem hk, Option.some.injEq] at e1
      rw [← e1, ← List.drop_eq_getElem_cons hk, List.take_append_drop]
    · obtain ⟨j, hj, e⟩ := List.mem_iff_getElem.1 hr
      rw [List.length_take] at hj
      have h1 := h j (by omega)
      have e2 : xs[j]? = some r := by
        rw [List.getElem_take] at e
        rw [List.getElem?_eq_getElem (by omega), e]
      rw [ev_of e2] at h1
      simpa using h1
  unfold fndV fndB
  rw [this]
  exact ⟨rfl, rfl⟩

/-- Something that is done. -/
structure Ac where
  kd : Int
  n : Int
  e : Ev
  l : List Ev
/-- What it leaves. -/
def actX (N : Nat) (xs : List Ev) (a : Ac) : List Ev := if a.kd = 0 then putX N xs a.e else if a.kd = 1 then tkX a.n xs else if a.kd = 2 then undX N xs a.l else if a.kd = 3 then drpX xs a.n else xs
theorem act_len {N : Nat} {xs : List Ev} (h : xs.length ≤ N) (a : Ac) : (actX N xs a).length ≤ N := by
  unfold actX
  split
  · exact put_len h _
  · split
    · exact Nat.le_trans (tkX_len _ _) h
    · split
      · exact und_len h _
      · split
        · exact Nat.le_trans (drp_len _ _) h
        · exact h
end Go.Proofs.YtcffmdimfmpheaaDoor
