/- The same contracts, by the list of the numbers that a queue has. -/
import Derived.Test.YtfobfkidpdlkeaaEnds
namespace Go.Proofs.Ytfobfkidpdlkeaa
open Go.RowKit

theorem mod_cases {n f i : Nat} (hf : f < n) (hi : i ≤ n) : (f + i < n ∧ (f + i) % n = f + i) ∨ (n ≤ f + i ∧ (f + i) % n = f + i - n) := by
  by_cases h : f + i < n
  · exact .inl ⟨h, Nat.mod_eq_of_lt h⟩
  · refine .inr ⟨by omega, ?_⟩
    rw [Nat.mod_eq_sub_mod (by omega), Nat.mod_eq_of_lt (by omega)]

theorem holds_push {xs q : List Int} {n f : Nat} (h : Holds xs n f q) (hl : xs.length = n) (hf : f < n) (hq : q.length < n) (x : Int) : Holds (xs.set ((f + q.length) % n) x) n f (q ++ [x]) := by
  intro i y hy
  have m1 := mod_cases (i := q.length) hf (by omega)
  have hi : i ≤ q.length := by
    have := (List.getElem?_eq_some_iff.1 hy).1
    simp at this
    omega
  have m2 := mod_cases (i := i) hf (by omega)
  by_cases e : i = q.length
  · subst e
    rw [List.getElem?_append_right (Nat.le_refl _)] at hy
    simp at hy
    subst hy
    rw [List.getElem?_set_self (by rw [hl]; omega)]
  · rw [List.getElem?_append_left (by omega)] at hy
    rw [List.getElem?_set_ne (by omega)]
    exact h i y hy

theorem holds_front {xs q : List Int} {n f : Nat} (h : Holds xs n f q) (hl : xs.length = n) (hf : f < n) (hq : q.length < n) (x : Int) : Holds (xs.set ((f + (n - 1)) % n) x) n ((f + (n - 1)) % n) (x :: q) := by
  intro i y hy
  have m1 := mod_cases (i := n - 1) hf (by omega)
  have hf' : (f + (n - 1)) % n < n := by omega
  cases i with
  | zero =>
    simp at hy
    subst hy
    rw [Nat.add_zero, Nat.mod_eq_of_lt hf', List.getElem?_set_self (by omega)]
  | succ i =>
    rw [List.getElem?_cons_succ] at hy
    have hi := (List.getElem?_eq_some_iff.1 hy).1
    have m2 := mod_cases (i := i) hf (by omega)
    have m3 := mod_cases (i := i + 1) hf' (by omega)
    have e : ((f + (n - 1)) % n + (i + 1)) % n = (f + i) % n := by omega
    rw [e, List.getElem?_set_ne (by omega)]
    exact h i y hy

theorem holds_pop {xs t : List Int} {n f : Nat} {y : Int} (h : Holds xs n f (y :: t)) (hf : f < n) (hq : t.length < n) : Holds xs n ((f + 1) % n) t := by
  intro i x hx
  have hi := (List.getElem?_eq_some_iff.1 hx).1
  have m1 := mod_cases (i := 1) hf (by omega)
  have hf' : (f + 1) % n < n := by omega
  have m2 := mod_cases (i := i) hf' (by omega)
  have m3 := mod_cases (i := i + 1) hf (by omega)
  have e : ((f + 1) % n + i) % n = (f + (i + 1)) % n := by omega
  rw [e]
  exact h (i + 1) x (by simpa using hx)

theorem holds_back {xs q : List Int} {n f : Nat} (h : Holds xs n f q) : Holds xs n f q.dropLast := by
  intro i x hx
  rw [List.getElem?_dropLast] at hx
  split at hx
  · exact h i x hx
  · cases hx

/-- The queue with something more, if there is room. -/
def addQ (n : Nat) (q q' : List Int) : List Int := if q.length < n then q' else q
/-- What is told: 0, or 3. -/
def errQ (n : Nat) (q : List Int) : Int := if q.length < n then 0 else 3
/-- The number at a place, and whether there is one. -/
def atQ (q : List Int) (i : Int) : Int := if i < 0 then 0 else q.getD i.toNat 0
def isQ (q : List Int) (i : Int) : Bool := decide (0 ≤ i ∧ i < (q.length : Int))

section
variable {w : World} {B G n : Nat} {q : List Int}

theorem RQ.le (h : RQ w B G n q) : q.length ≤ n ∧ n ≤ 4096 ∧ 1 ≤ n := by
  obtain ⟨f, xs, h, k⟩ := h
  exact ⟨h.cn, h.le, h.pos⟩
theorem RQ.lt (h : RQ w B G n q) : B < w.heap.size ∧ G < w.heap.size ∧ B ≠ G := by
  obtain ⟨f, xs, h, k⟩ := h
  exact ⟨h.ltB, h.ltG, h.ne⟩
theorem RQ.drawn {w' : World} (h : RQ w B G n q) (k : Drawn w w') : RQ w' B G n q := by
  obtain ⟨f, xs, h, j⟩ := h
  exact ⟨f, xs, h.drawn k, j⟩

theorem push_q (h : RQ w B G n q) (x : Int) :
    Calls Try.prog 19 #[.pointer (some ⟨B, 0, none⟩), .int .i64 x] w fun e w' => e = .returned (.int .i64 (errQ n q)) ∧ RQ w' B G n (addQ n q (q ++ [x])) ∧ But [B, G] w w' := by
  obtain ⟨f, xs, h, k⟩ := h
  unfold errQ addQ
  by_cases hq : q.length < n
  · rw [if_pos hq, if_pos hq]
    refine (push_room h hq x).mono ?_
    rintro e w' ⟨rfl, h', hb⟩
    exact ⟨rfl, ⟨f, _, by simpa using h', holds_push k h.len h.fn hq x⟩, hb⟩
  · rw [if_neg hq, if_neg hq]
    have e : q.length = n := by have := h.cn; omega
    rw [e] at h
    refine (push_full h x).mono ?_
    rintro e w' ⟨rfl, hk⟩
    exact ⟨rfl, ⟨f, xs, by rw [e]; exact h.drawn hk, k⟩, hk.but⟩

theorem front_q (h : RQ w B G n q) (x : Int) :
    Calls Try.prog 22 #[.pointer (some ⟨B, 0, none⟩), .int .i64 x] w fun e w' => e = .returned (.int .i64 (errQ n q)) ∧ RQ w' B G n (addQ n q (x :: q)) ∧ But [B, G] w w' := by
  obtain ⟨f, xs, h, k⟩ := h
  unfold errQ addQ
  by_cases hq : q.length < n
  · rw [if_pos hq, if_pos hq]
    refine (front_room h hq x).mono ?_
    rintro e w' ⟨rfl, h', hb⟩
    exact ⟨rfl, ⟨_, _, by simpa using h', holds_front k h.len h.fn hq x⟩, hb⟩
  · rw [if_neg hq, if_neg hq]
    have e : q.length = n := by have := h.cn; omega
    rw [e] at h
    refine (front_full h x).mono ?_
    rintro e w' ⟨rfl, hk⟩
    exact ⟨rfl, ⟨f, xs, by rw [e]; exact h.drawn hk, k⟩, hk.but⟩

theorem pop_q (h : RQ w B G n q) :
    Calls Try.prog 20 #[.pointer (some ⟨B, 0, none⟩)] w fun e w' => e = .returned (.tuple #[.int .i64 (q.headD 0), .bool (!q.isEmpty)]) ∧ RQ w' B G n q.tail ∧ But [B, G] w w' := by
  obtain ⟨f, xs, h, k⟩ := h
  cases q with
  | nil =>
    refine (pop_none h).mono ?_
    rintro e w' ⟨rfl, rfl⟩
    exact ⟨rfl, ⟨f, xs, h, k⟩, But.refl _ _⟩
  | cons y t =>
    have h1 := h.cn
    have hx := k 0 y rfl
    rw [Nat.add_zero, Nat.mod_eq_of_lt h.fn] at hx
    refine (pop_some h (by simp) hx).mono ?_
    rintro e w' ⟨rfl, h', hb⟩
    exact ⟨rfl, ⟨_, xs, by simpa using h', holds_pop k h.fn (show t.length < n by simp at h1; omega)⟩, hb⟩

theorem back_q (h : RQ w B G n q) :
    Calls Try.prog 21 #[.pointer (some ⟨B, 0, none⟩)] w fun e w' => e = .returned (.tuple #[.int .i64 (q.getLastD 0), .bool (!q.isEmpty)]) ∧ RQ w' B G n q.dropLast ∧ But [B, G] w w' := by
  obtain ⟨f, xs, h, k⟩ := h
  rcases List.eq_nil_or_concat q with rfl | ⟨t, y, rfl⟩
  · refine (back_none h).mono ?_
    rintro e w' ⟨rfl, rfl⟩
    exact ⟨rfl, ⟨f, xs, h, k⟩, But.refl _ _⟩
  · have h1 := h.cn
    have hx := k t.length y (by simp)
    have hc : (t.concat y).length - 1 = t.length := by simp
    refine (back_some h (by simp) (by rw [hc]; exact hx)).mono ?_
    rintro e w' ⟨rfl, h', hb⟩
    rw [hc] at h'
    have hk := holds_back k
    simp only [List.concat_eq_append, List.dropLast_concat] at hk ⊢
    exact ⟨by simp, ⟨_, xs, h', hk⟩, hb⟩

theorem len_q (h : RQ w B G n q) :
    Calls Try.prog 11 #[.pointer (some ⟨B, 0, none⟩)] w fun e w' => e = .returned (.int .i64 q.length) ∧ w' = w := by
  obtain ⟨f, xs, h, k⟩ := h
  exact len_any h
theorem room_q (h : RQ w B G n q) :
    Calls Try.prog 12 #[.pointer (some ⟨B, 0, none⟩)] w fun e w' => e = .returned (.int .i64 ((n : Int) - q.length)) ∧ Drawn w w' := by
  obtain ⟨f, xs, h, k⟩ := h
  exact room_any h
theorem at_q (h : RQ w B G n q) (i : Int) :
    Calls Try.prog 14 #[.pointer (some ⟨B, 0, none⟩), .int .i64 i] w fun e w' => e = .returned (.tuple #[.int .i64 (atQ q i), .bool (isQ q i)]) ∧ Drawn w w' := by
  obtain ⟨f, xs, h, k⟩ := h
  by_cases hi : 0 ≤ i ∧ i < (q.length : Int)
  · obtain ⟨j, rfl⟩ := Int.eq_ofNat_of_zero_le hi.1
    have hj : j < q.length := by omega
    have e1 : atQ q (j : Int) = q[j] := by
      unfold atQ
      rw [if_neg (by omega)]
      simp [hj]
    have e2 : isQ q (j : Int) = true := by unfold isQ; simp; omega
    rw [e1, e2]
    exact at_in h j hj (k j _ (by simp))
  · have e1 : atQ q i = 0 := by
      unfold atQ
      split
      · rfl
      · simp [List.getD, List.getElem?_eq_none (show q.length ≤ i.toNat by omega)]
    have e2 : isQ q i = false := by unfold isQ; simp; omega
    rw [e1, e2]
    refine (at_out h i (by omega)).mono ?_
    rintro e w' ⟨rfl, rfl⟩
    exact ⟨rfl, Drawn.refl _⟩
end

end Go.Proofs.Ytfobfkidpdlkeaa
