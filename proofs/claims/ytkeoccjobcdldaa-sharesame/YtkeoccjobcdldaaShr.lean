/- Plain facts on cores that are parted one by one: who is next, what each gets. -/
import Derived.Test.YtkeoccjobcdldaaBigNum
namespace Go.Proofs.Ytkeoccjobcdldaa

/-- A claim that may be; claims that may be. -/
def okC (c : Int × Int) : Bool := decide (1 ≤ c.1 ∧ c.1 ≤ 65536 ∧ 0 ≤ c.2 ∧ c.2 ≤ 64)
def goodB (ls : List (Int × Int)) : Bool := decide (ls.length ≤ 64) && ls.all okC
/-- The weight and the demand of one, and what it has. -/
def wt (ls : List (Int × Int)) (i : Nat) : Int := (ls.getD i (0, 0)).1
def dm (ls : List (Int × Int)) (i : Nat) : Int := (ls.getD i (0, 0)).2
def ix (xs : List Int) (i : Nat) : Int := xs.getD i 0
def hunB (ls : List (Int × Int)) (xs : List Int) (i : Nat) : Bool := decide (ix xs i < dm ls i)
def levI (ls : List (Int × Int)) (xs : List Int) (i j : Nat) : Int := Big.cmpI (ix xs i * wt ls j) (ix xs j * wt ls i)
/-- The place p on from s, round. -/
def rd (n s p : Nat) : Nat := if s + p < n then s + p else s + p - n
/-- How far on from s one stands. -/
def pos (n s i : Nat) : Nat := if s ≤ i then i - s else i + n - s
def stepO (ls : List (Int × Int)) (xs : List Int) (l : Option Nat) (i : Nat) : Option Nat :=
  if hunB ls xs i = true then (match l with | none => some i | some b => if levI ls xs i b < 0 then some i else some b) else l
def foldO (ls : List (Int × Int)) (xs : List Int) (n s : Nat) : Nat → Option Nat
  | 0 => none
  | k + 1 => stepO ls xs (foldO ls xs n s k) (rd n s k)
/-- Who is next. -/
def nextO (ls : List (Int × Int)) (xs : List Int) (s : Nat) : Option Nat := foldO ls xs ls.length s ls.length
def lI : Option Nat → Int
  | none => -1
  | some i => i
def give (xs : List Int) : Option Nat → List Int
  | none => xs
  | some i => xs.set i (ix xs i + 1)
/-- What each has behind so many cores. -/
def divL (ls : List (Int × Int)) (s : Nat) : Nat → List Int
  | 0 => List.replicate ls.length 0
  | k + 1 => give (divL ls s k) (nextO ls (divL ls s k) s)
def atN (n : Nat) (start : Int) : Nat := (start % (n : Int)).toNat
/-- What Divide tells. -/
def divA (cores : Int) (ls : List (Int × Int)) (start : Int) : List Int :=
  if 0 ≤ cores ∧ cores ≤ 64 ∧ goodB ls = true then divL ls (atN ls.length start) cores.toNat else []

theorem rd_lt {n s p : Nat} (hs : s < n) (hp : p < n) : rd n s p < n := by unfold rd; split <;> omega
theorem rd_pos {n s i : Nat} (hs : s < n) (hi : i < n) : rd n s (pos n s i) = i := by unfold rd pos; split <;> split <;> omega
theorem pos_rd {n s p : Nat} (hs : s < n) (hp : p < n) : pos n s (rd n s p) = p := by unfold rd pos; split <;> split <;> omega
theorem pos_lt {n s i : Nat} (hs : s < n) (hi : i < n) : pos n s i < n := by unfold pos; split <;> omega
theorem pos_ne {n s i j : Nat} (hs : s < n) (hi : i < n) (hj : j < n) (h : i ≠ j) : pos n s i ≠ pos n s j := by unfold pos; split <;> split <;> omega
theorem atN_lt {n : Nat} (start : Int) (h : 0 < n) : atN n start < n := by
  unfold atN
  have h1 := Int.emod_nonneg start (show (n : Int) ≠ 0 by omega)
  have h2 := Int.emod_lt_of_pos start (show (0 : Int) < n by omega)
  omega
theorem atN_zero (n : Nat) : atN n 0 = 0 := by simp [atN]

/-- Weights above 0, demands not below. -/
def Pos (ls : List (Int × Int)) : Prop := ∀ i, i < ls.length → 0 < wt ls i ∧ wt ls i ≤ 65536 ∧ 0 ≤ dm ls i ∧ dm ls i ≤ 64
theorem good_pos {ls : List (Int × Int)} (h : goodB ls = true) : Pos ls ∧ ls.length ≤ 64 := by
  unfold goodB at h
  simp only [Bool.and_eq_true, decide_eq_true_eq] at h
  refine ⟨fun i hi => ?_, h.1⟩
  have h2 := List.all_eq_true.1 h.2 ls[i] (List.getElem_mem hi)
  unfold okC at h2
  simp only [decide_eq_true_eq] at h2
  unfold wt dm
  rw [List.getD_eq_getElem?_getD, List.getElem?_eq_getElem hi, Option.getD_some]
  omega

theorem cmp_neg_iff (V U : Int) : Big.cmpI V U < 0 ↔ V < U := by unfold Big.cmpI; split <;> (try split) <;> omega

theorem frac_lt {a x b y c z : Int} (hx : 0 < x) (hy : 0 < y) (hz : 0 < z) (h1 : a * y < b * x) (h2 : b * z ≤ c * y) : a * z < c * x := by
  have e1 : a * y * z < b * x * z := Int.mul_lt_mul_of_pos_right h1 hz
  have e2 : b * z * x ≤ c * y * x := Int.mul_le_mul_of_nonneg_right h2 (by omega)
  have e3 : a * z * y < c * x * y := by
    rw [Int.mul_right_comm a z y, Int.mul_right_comm c x y]
    rw [Int.mul_right_comm b x z] at e1
    omega
  exact Int.lt_of_mul_lt_mul_right e3 (by omega)

/-- One stands ahead of another: it has less for its weight; or as much, and stands no further on. -/
def Ahead (ls : List (Int × Int)) (xs : List Int) (n s m i : Nat) : Prop :=
  ix xs m * wt ls i < ix xs i * wt ls m ∨ ix xs m * wt ls i = ix xs i * wt ls m ∧ pos n s m ≤ pos n s i

theorem foldO_spec {ls : List (Int × Int)} {xs : List Int} {n s : Nat} (hn : n = ls.length) (hP : Pos ls) (hs : s < n) : ∀ k, k ≤ n →
    (foldO ls xs n s k = none → ∀ j, j < k → hunB ls xs (rd n s j) = false) ∧
    (∀ m, foldO ls xs n s k = some m → m < n ∧ hunB ls xs m = true ∧ pos n s m < k ∧ ∀ j, j < k → hunB ls xs (rd n s j) = true → Ahead ls xs n s m (rd n s j))
  | 0, _ => ⟨fun _ j hj => by omega, fun m h => by simp [foldO] at h⟩
  | k + 1, hk => by
    obtain ⟨ih0, ih1⟩ := foldO_spec (xs := xs) hn hP hs k (by omega)
    have hr := rd_lt hs (show k < n by omega)
    have hpr := pos_rd hs (show k < n by omega)
    have hfold : foldO ls xs n s (k + 1) = stepO ls xs (foldO ls xs n s k) (rd n s k) := rfl
    rw [hfold]
    unfold stepO
    by_cases hh : hunB ls xs (rd n s k) = true
    · rw [if_pos hh]
      cases hf : foldO ls xs n s k with
      | none =>
        refine ⟨fun h => by simp at h, fun m h => ?_⟩
        simp at h
        subst h
        refine ⟨hr, hh, by omega, fun j hj hu => ?_⟩
        by_cases hjk : j = k
        · subst hjk
          exact .inr ⟨rfl, Nat.le_refl _⟩
        · have := ih0 hf j (by omega)
          rw [this] at hu
          cases hu
      | some b =>
        obtain ⟨b1, b2, b3, b4⟩ := ih1 b hf
        dsimp only
        obtain ⟨wb, _⟩ := hP b (by omega)
        obtain ⟨wr, _⟩ := hP (rd n s k) (by omega)
        by_cases hl : levI ls xs (rd n s k) b < 0
        · rw [if_pos hl]
          have hl' := (cmp_neg_iff _ _).1 hl
          refine ⟨fun h => by simp at h, fun m h => ?_⟩
          simp at h
          subst h
          refine ⟨hr, hh, by omega, fun j hj hu => ?_⟩
          by_cases hjk : j = k
          · subst hjk
            exact .inr ⟨rfl, Nat.le_refl _⟩
          · have ha := b4 j (by omega) hu
            have hj2 := rd_lt hs (show j < n by omega)
            obtain ⟨wj, _⟩ := hP (rd n s j) (by omega)
            refine .inl (frac_lt wr wb wj hl' ?_)
            rcases ha with ha | ha
            · omega
            · omega
        · rw [if_neg hl]
          have hl' : ¬ _ := fun h => hl ((cmp_neg_iff _ _).2 h)
          refine ⟨fun h => by simp at h, fun m h => ?_⟩
          simp at h
          subst h
          refine ⟨b1, b2, by omega, fun j hj hu => ?_⟩
          by_cases hjk : j = k
          · subst hjk
            unfold Ahead
            omega
          · exact b4 j (by omega) hu
    · rw [if_neg hh]
      refine ⟨fun h j hj => ?_, fun m h => ?_⟩
      · by_cases hjk : j = k
        · subst hjk
          simpa using hh
        · exact ih0 h j (by omega)
      · obtain ⟨b1, b2, b3, b4⟩ := ih1 m h
        refine ⟨b1, b2, by omega, fun j hj hu => ?_⟩
        by_cases hjk : j = k
        · subst hjk
          exact absurd hu hh
        · exact b4 j (by omega) hu

theorem next_none {ls : List (Int × Int)} {xs : List Int} {s : Nat} (hP : Pos ls) (hs : s < ls.length) (h : nextO ls xs s = none) {i : Nat} (hi : i < ls.length) : dm ls i ≤ ix xs i := by
  have h1 := (foldO_spec (xs := xs) rfl hP hs ls.length (Nat.le_refl _)).1 h (pos ls.length s i) (pos_lt hs hi)
  rw [rd_pos hs hi] at h1
  simpa [hunB] using h1
theorem next_some {ls : List (Int × Int)} {xs : List Int} {s m : Nat} (hP : Pos ls) (hs : s < ls.length) (h : nextO ls xs s = some m) :
    m < ls.length ∧ ix xs m < dm ls m ∧ ∀ i, i < ls.length → ix xs i < dm ls i → Ahead ls xs ls.length s m i := by
  obtain ⟨h1, h2, _, h4⟩ := (foldO_spec (xs := xs) rfl hP hs ls.length (Nat.le_refl _)).2 m h
  refine ⟨h1, by simpa [hunB] using h2, fun i hi hu => ?_⟩
  have h5 := h4 (pos ls.length s i) (pos_lt hs hi)
  rw [rd_pos hs hi] at h5
  exact h5 (by simpa [hunB] using hu)
/-- Whoever is next is one of them, whatever the weights are. -/
theorem foldO_lt {ls : List (Int × Int)} {xs : List Int} {n s : Nat} (hs : s < n ∨ n = 0) : ∀ k, k ≤ n → ∀ m, foldO ls xs n s k = some m → m < n
  | 0, _, m, h => by simp [foldO] at h
  | k + 1, hk, m, h => by
    have ih := foldO_lt (ls := ls) (xs := xs) hs k (by omega)
    have hr := rd_lt (show s < n by omega) (show k < n by omega)
    have hfold : foldO ls xs n s (k + 1) = stepO ls xs (foldO ls xs n s k) (rd n s k) := rfl
    rw [hfold] at h
    unfold stepO at h
    split at h
    · split at h
      · simp at h; omega
      · rename_i b hb
        have := ih b hb
        split at h <;> (simp at h; omega)
    · exact ih m h

theorem give_len (xs : List Int) (o : Option Nat) : (give xs o).length = xs.length := by
  cases o <;> simp [give]
theorem divL_len (ls : List (Int × Int)) (s : Nat) : ∀ k, (divL ls s k).length = ls.length
  | 0 => by simp [divL]
  | k + 1 => by rw [divL, give_len, divL_len ls s k]
theorem ix_set {xs : List Int} {i j : Nat} {v : Int} (hi : i < xs.length) : ix (xs.set i v) j = if j = i then v else ix xs j := by
  unfold ix
  by_cases h : j = i
  · subst h; simp [hi]
  · rw [if_neg h]
    simp only [List.getD_eq_getElem?_getD, List.getElem?_set_ne (Ne.symm h)]
theorem ix_rep (n i : Nat) : ix (List.replicate n 0) i = 0 := by
  unfold ix
  rw [List.getD_eq_getElem?_getD, List.getElem?_replicate]
  split <;> rfl
theorem ix_get {xs : List Int} {i : Nat} (h : i < xs.length) : xs[i]? = some (ix xs i) := by
  unfold ix
  rw [List.getD_eq_getElem?_getD, List.getElem?_eq_getElem h, Option.getD_some]
theorem cl_get {ls : List (Int × Int)} {i : Nat} (h : i < ls.length) : ls[i]? = some (wt ls i, dm ls i) := by
  unfold wt dm
  rw [List.getD_eq_getElem?_getD, List.getElem?_eq_getElem h, Option.getD_some]
theorem sum_set : ∀ (xs : List Int) (i : Nat), i < xs.length → (xs.set i (ix xs i + 1)).sum = xs.sum + 1
  | x :: r, 0, _ => by simp [ix]; omega
  | x :: r, i + 1, h => by
    have ih := sum_set r i (by simp at h; omega)
    have e : ix (x :: r) (i + 1) = ix r i := by simp [ix]
    rw [List.set_cons_succ, List.sum_cons, List.sum_cons, e, ih]
    omega
theorem sum_rep (n : Nat) : (List.replicate n (0 : Int)).sum = 0 := by
  induction n with
  | zero => rfl
  | succ n ih => rw [List.replicate_succ, List.sum_cons, ih]; rfl
/-- All demands. -/
def dsum (ls : List (Int × Int)) : Int := (ls.map (fun c => c.2)).sum
theorem ix_tail (x : Int) (r : List Int) (i : Nat) : ix (x :: r) (i + 1) = ix r i := by simp [ix]
theorem dm_tail (c : Int × Int) (r : List (Int × Int)) (i : Nat) : dm (c :: r) (i + 1) = dm r i := by simp [dm]
theorem sum_eq : ∀ (ls : List (Int × Int)) (xs : List Int), xs.length = ls.length → (∀ i, i < ls.length → ix xs i = dm ls i) → xs.sum = dsum ls
  | [], [], _, _ => rfl
  | c :: r, x :: t, hl, h => by
    have ih := sum_eq r t (by simpa using hl) (fun i hi => by
      have := h (i + 1) (by simp; omega)
      rw [ix_tail, dm_tail] at this
      exact this)
    have h0 := h 0 (by simp)
    simp [ix, dm] at h0
    unfold dsum at *
    rw [List.sum_cons, List.map_cons, List.sum_cons, ih, h0]
theorem sum_le : ∀ (ls : List (Int × Int)) (xs : List Int), xs.length = ls.length → (∀ i, i < ls.length → ix xs i ≤ dm ls i) → xs.sum ≤ dsum ls
  | [], [], _, _ => Int.le_refl _
  | c :: r, x :: t, hl, h => by
    have ih := sum_le r t (by simpa using hl) (fun i hi => by
      have := h (i + 1) (by simp; omega)
      rw [ix_tail, dm_tail] at this
      exact this)
    have h0 := h 0 (by simp)
    simp [ix, dm] at h0
    unfold dsum at *
    rw [List.sum_cons, List.map_cons, List.sum_cons]
    omega
theorem sum_lt : ∀ (ls : List (Int × Int)) (xs : List Int) (m : Nat), xs.length = ls.length → (∀ i, i < ls.length → ix xs i ≤ dm ls i) → m < ls.length → ix xs m < dm ls m → xs.sum < dsum ls
  | [], [], m, _, _, hm, _ => by simp at hm
  | c :: r, x :: t, m, hl, h, hm, hx => by
    have h' : ∀ i, i < r.length → ix t i ≤ dm r i := fun i hi => by
      have := h (i + 1) (by simp; omega)
      rw [ix_tail, dm_tail] at this
      exact this
    have h0 := h 0 (by simp)
    simp [ix, dm] at h0
    cases m with
    | zero =>
      have ih := sum_le r t (by simpa using hl) h'
      simp [ix, dm] at hx
      unfold dsum at *
      rw [List.sum_cons, List.map_cons, List.sum_cons]
      omega
    | succ m =>
      rw [ix_tail, dm_tail] at hx
      have ih := sum_lt r t m (by simpa using hl) h' (by simp at hm; omega) hx
      unfold dsum at *
      rw [List.sum_cons, List.map_cons, List.sum_cons]
      omega
theorem dsum_nn {ls : List (Int × Int)} (hP : Pos ls) : 0 ≤ dsum ls := by
  have := sum_le ls (List.replicate ls.length 0) (by simp) (fun i hi => by rw [ix_rep]; exact (hP i hi).2.2.1)
  rw [sum_rep] at this
  exact this

/-- What holds of each parting. -/
structure Inv (ls : List (Int × Int)) (s : Nat) (k : Nat) (xs : List Int) : Prop where
  len : xs.length = ls.length
  lo : ∀ i, i < ls.length → 0 ≤ ix xs i
  hi : ∀ i, i < ls.length → ix xs i ≤ dm ls i
  sum : xs.sum = k ∧ (k : Int) ≤ dsum ls ∨ xs.sum = dsum ls ∧ dsum ls ≤ k
  lev : ∀ i j, i < ls.length → j < ls.length → i ≠ j → ix xs i < dm ls i → 0 < ix xs j →
    (ix xs j - 1) * wt ls i < ix xs i * wt ls j ∨ (ix xs j - 1) * wt ls i = ix xs i * wt ls j ∧ pos ls.length s j < pos ls.length s i

theorem inv_zero {ls : List (Int × Int)} (s : Nat) (hP : Pos ls) : Inv ls s 0 (List.replicate ls.length 0) where
  len := by simp
  lo := fun i hi => by rw [ix_rep]; exact Int.le_refl _
  hi := fun i hi => by rw [ix_rep]; exact (hP i hi).2.2.1
  sum := .inl ⟨sum_rep _, dsum_nn hP⟩
  lev := fun i j _ _ _ _ h => by rw [ix_rep] at h; omega

theorem inv_step {ls : List (Int × Int)} {s k : Nat} {xs : List Int} (hP : Pos ls) (hs : s < ls.length) (h : Inv ls s k xs) : Inv ls s (k + 1) (give xs (nextO ls xs s)) := by
  cases hn : nextO ls xs s with
  | none =>
    have hall : ∀ i, i < ls.length → ix xs i = dm ls i := fun i hi => by
      have h1 := next_none hP hs hn hi
      have h2 := h.hi i hi
      omega
    have hsum := sum_eq ls xs h.len hall
    refine ⟨h.len, h.lo, h.hi, .inr ⟨hsum, ?_⟩, h.lev⟩
    rcases h.sum with ⟨a, b⟩ | ⟨a, b⟩ <;> omega
  | some m =>
    obtain ⟨m1, m2, m3⟩ := next_some hP hs hn
    have hl : m < xs.length := by rw [h.len]; exact m1
    have hg : give xs (some m) = xs.set m (ix xs m + 1) := rfl
    have hsl := sum_lt ls xs m h.len h.hi m1 m2
    rw [hg]
    refine ⟨by rw [List.length_set]; exact h.len, fun i hi => ?_, fun i hi => ?_, .inl ?_, fun i j hi hj hij hu hx => ?_⟩
    · rw [ix_set hl]
      have := h.lo i hi
      have := h.lo m m1
      split <;> omega
    · rw [ix_set hl]
      have := h.hi i hi
      split
      · rename_i e; subst e; omega
      · omega
    · rw [sum_set xs m hl]
      rcases h.sum with ⟨a, b⟩ | ⟨a, b⟩
      · exact ⟨by omega, by omega⟩
      · omega
    · rw [ix_set hl] at hu hx
      rw [ix_set hl, ix_set hl]
      obtain ⟨wi, _⟩ := hP i hi
      obtain ⟨wj, _⟩ := hP j hj
      by_cases him : i = m
      · subst him
        rw [if_pos rfl] at hu
        rw [if_neg (fun e => hij e.symm)] at hx
        rw [if_pos rfl, if_neg (fun e => hij e.symm)]
        have := h.lev i j hi hj hij (by omega) hx
        rw [Int.add_mul, Int.one_mul]
        rcases this with h1 | h1 <;> omega
      · rw [if_neg him] at hu
        rw [if_neg him]
        by_cases hjm : j = m
        · subst hjm
          rw [if_pos rfl]
          have := m3 i hi hu
          rw [show ix xs j + 1 - 1 = ix xs j by omega]
          rcases this with h1 | ⟨h1, h2⟩
          · exact .inl h1
          · have := pos_ne hs hj hi (Ne.symm hij)
            exact .inr ⟨h1, by omega⟩
        · rw [if_neg hjm] at hx
          rw [if_neg hjm]
          exact h.lev i j hi hj hij hu hx
theorem nextO_nil (xs : List Int) (s : Nat) : nextO [] xs s = none := rfl
theorem divL_inv {ls : List (Int × Int)} {s : Nat} (hP : Pos ls) (hs : s < ls.length ∨ ls.length = 0) : ∀ k, Inv ls s k (divL ls s k)
  | 0 => inv_zero s hP
  | k + 1 => by
    have ih := divL_inv hP hs k
    rcases hs with hs | hs
    · exact inv_step hP hs ih
    · obtain rfl := List.eq_nil_of_length_eq_zero hs
      refine ⟨by rw [divL_len], fun i hi => by simp at hi, fun i hi => by simp at hi, .inr ?_, fun i j hi => by simp at hi⟩
      have e := List.eq_nil_of_length_eq_zero (divL_len [] s (k + 1))
      rw [e]
      exact ⟨rfl, by show (0 : Int) ≤ _; omega⟩
theorem atN_ok (ls : List (Int × Int)) (start : Int) : atN ls.length start < ls.length ∨ ls.length = 0 := by
  by_cases h : ls.length = 0
  · exact .inr h
  · exact .inl (atN_lt start (by omega))
/-- Where nobody is next, nothing turns any more. -/
theorem divL_stop {ls : List (Int × Int)} {s k : Nat} (h : nextO ls (divL ls s k) s = none) : ∀ m, k ≤ m → divL ls s m = divL ls s k
  | 0, hm => by rw [show k = 0 by omega]
  | m + 1, hm => by
    by_cases hk : k = m + 1
    · rw [hk]
    · have ih := divL_stop h m (by omega)
      rw [divL, ih, h]
      rfl
theorem divA_good {cores : Int} {ls : List (Int × Int)} {start : Int} (h0 : 0 ≤ cores) (h1 : cores ≤ 64) (hg : goodB ls = true) : divA cores ls start = divL ls (atN ls.length start) cores.toNat := by
  unfold divA
  rw [if_pos ⟨h0, h1, hg⟩]
theorem divA_bad {cores : Int} {ls : List (Int × Int)} {start : Int} (h : cores < 0 ∨ 64 < cores ∨ goodB ls = false) : divA cores ls start = [] := by
  unfold divA
  rw [if_neg]
  rintro ⟨a, b, c⟩
  rcases h with h | h | h
  · omega
  · omega
  · rw [c] at h; cases h
end Go.Proofs.Ytkeoccjobcdldaa
