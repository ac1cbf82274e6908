/- Owners, targets, and the moves between them: plain functions, and what follows of them. -/
namespace Go.Proofs.Ytokigpmkhkldkaa

def ix (xs : List Int) (i : Nat) : Int := xs.getD i 0
theorem ix_set {xs : List Int} {i j : Nat} {v : Int} (hi : i < xs.length) : ix (xs.set i v) j = if j = i then v else ix xs j := by
  unfold ix
  by_cases h : j = i
  · subst h; simp [hi]
  · rw [if_neg h]
    simp only [List.getD_eq_getElem?_getD, List.getElem?_set_ne (Ne.symm h)]
theorem ix_rep (n i : Nat) : ix (List.replicate n 0) i = 0 := by
  unfold ix
  rw [List.getD_eq_getElem?_getD, List.getElem?_replicate]
  split <;> rfl
theorem ix_get {xs : List Int} {i : Nat} (h : i < xs.length) : xs[i]? = some (ix xs i) := by
  unfold ix
  rw [List.getD_eq_getElem?_getD, List.getElem?_eq_getElem h, Option.getD_some]
theorem ix_tail (x : Int) (r : List Int) (i : Nat) : ix (x :: r) (i + 1) = ix r i := by simp [ix]
theorem ix_head (x : Int) (r : List Int) : ix (x :: r) 0 = x := by simp [ix]
theorem ix_mem {xs : List Int} {i : Nat} (h : i < xs.length) : ix xs i ∈ xs := List.mem_of_getElem? (ix_get h)
theorem mem_ix {xs : List Int} {x : Int} (h : x ∈ xs) : ∃ i, i < xs.length ∧ ix xs i = x := by
  obtain ⟨i, hi, e⟩ := List.getElem_of_mem h
  exact ⟨i, hi, by have := ix_get hi; rw [List.getElem?_eq_getElem hi, Option.some.injEq] at this; rw [← this]; exact e⟩
theorem ix_rng (f : Nat → Int) {n i : Nat} (h : i < n) : ix ((List.range n).map f) i = f i := by
  unfold ix
  simp [List.getD_eq_getElem?_getD, h]
theorem ix_ext {xs ys : List Int} (hl : xs.length = ys.length) (h : ∀ i, i < xs.length → ix xs i = ix ys i) : xs = ys := by
  apply List.ext_getElem hl
  intro i h1 h2
  have e := h i h1
  unfold ix at e
  rw [List.getD_eq_getElem?_getD, List.getD_eq_getElem?_getD, List.getElem?_eq_getElem h1, List.getElem?_eq_getElem h2] at e
  simpa using e

/-- Owners that may be. -/
def goodB (os : List Int) (n : Int) : Bool := decide (os.length ≤ 64) && decide (0 ≤ n) && decide (n ≤ 64) && os.all (fun o => decide (0 ≤ o) && decide (o ≤ n))
theorem good_iff {os : List Int} {n : Int} : goodB os n = true ↔ os.length ≤ 64 ∧ 0 ≤ n ∧ n ≤ 64 ∧ ∀ c, c < os.length → 0 ≤ ix os c ∧ ix os c ≤ n := by
  unfold goodB
  simp only [Bool.and_eq_true, decide_eq_true_eq, List.all_eq_true]
  constructor
  · rintro ⟨⟨⟨a, b⟩, c⟩, d⟩
    exact ⟨a, b, c, fun i hi => d _ (ix_mem hi)⟩
  · rintro ⟨a, b, c, d⟩
    refine ⟨⟨⟨a, b⟩, c⟩, fun x hx => ?_⟩
    obtain ⟨i, hi, rfl⟩ := mem_ix hx
    exact d i hi

/-- How many of the first k are the space's. -/
def ct (os : List Int) (s : Int) : Nat → Nat
  | 0 => 0
  | k + 1 => ct os s k + if ix os k = s then 1 else 0
def cn (os : List Int) (s : Int) : Nat := ct os s os.length
def cntJ (os : List Int) (n j : Nat) : List Int := (List.range n).map fun (i : Nat) => ((ct os ((i : Int) + 1) j : Nat) : Int)
def cntL (os : List Int) (n : Nat) : List Int := cntJ os n os.length
def countA (os : List Int) (n : Int) : List Int := if goodB os n = true then cntL os n.toNat else []

theorem cntJ_len (os : List Int) (n j : Nat) : (cntJ os n j).length = n := by simp [cntJ]
theorem cntL_len (os : List Int) (n : Nat) : (cntL os n).length = n := cntJ_len os n _
theorem ix_cntJ {os : List Int} {n j i : Nat} (h : i < n) : ix (cntJ os n j) i = ((ct os ((i : Int) + 1) j : Nat) : Int) := ix_rng _ h
theorem ix_cntL {os : List Int} {n i : Nat} (h : i < n) : ix (cntL os n) i = ((cn os ((i : Int) + 1) : Nat) : Int) := ix_cntJ h
theorem cntJ_zero (os : List Int) (n : Nat) : cntJ os n 0 = List.replicate n 0 := by
  apply ix_ext (by simp [cntJ])
  intro i hi
  rw [cntJ_len] at hi
  rw [ix_cntJ hi, ix_rep]; rfl
theorem cntJ_free {os : List Int} {n j : Nat} (h : ¬ 0 < ix os j) : cntJ os n (j + 1) = cntJ os n j := by
  apply ix_ext (by simp [cntJ])
  intro i hi
  rw [cntJ_len] at hi
  rw [ix_cntJ hi, ix_cntJ hi, ct, if_neg (by omega)]; rfl
theorem cntJ_next {os : List Int} {n j p : Nat} (hp : p < n) (h : ix os j = (p : Int) + 1) : cntJ os n (j + 1) = (cntJ os n j).set p (ix (cntJ os n j) p + 1) := by
  apply ix_ext (by simp [cntJ])
  intro i hi
  rw [cntJ_len] at hi
  rw [ix_set (by rw [cntJ_len]; exact hp), ix_cntJ hi, ix_cntJ hi, ix_cntJ hp, ct, h]
  by_cases e : i = p
  · subst e; simp
  · rw [if_neg (by omega), if_neg e]; rfl
theorem ct_le (os : List Int) (s : Int) : ∀ k, ct os s k ≤ k
  | 0 => Nat.le_refl _
  | k + 1 => by have := ct_le os s k; rw [ct]; split <;> omega

/-- How many there are too many, and how many are lacking. -/
def exI (os ts : List Int) (i : Nat) : Int := if ix ts i < (cn os ((i : Int) + 1) : Nat) then ((cn os ((i : Int) + 1) : Nat) : Int) - ix ts i else 0
def lkI (os ts : List Int) (i : Nat) : Int := if ix ts i < (cn os ((i : Int) + 1) : Nat) then 0 else ix ts i - ((cn os ((i : Int) + 1) : Nat) : Int)
def exJ (os ts : List Int) (j : Nat) : List Int := (List.range ts.length).map fun (i : Nat) => if i < j then exI os ts i else 0
def lkJ (os ts : List Int) (j : Nat) : List Int := (List.range ts.length).map fun (i : Nat) => if i < j then lkI os ts i else 0
def exL (os ts : List Int) : List Int := exJ os ts ts.length
def lkL (os ts : List Int) : List Int := lkJ os ts ts.length
def okT (ts : List Int) : Bool := ts.all (fun t => decide (0 ≤ t))
def rightB (os ts : List Int) : Bool := okT ts && goodB os (ts.length : Int)
def exA (os ts : List Int) : List Int := if rightB os ts = true then exL os ts else []
def lkA (os ts : List Int) : List Int := if rightB os ts = true then lkL os ts else []

section
variable {os ts : List Int}
theorem exJ_len (j : Nat) : (exJ os ts j).length = ts.length := by simp [exJ]
theorem lkJ_len (j : Nat) : (lkJ os ts j).length = ts.length := by simp [lkJ]
theorem exL_len : (exL os ts).length = ts.length := exJ_len _
theorem lkL_len : (lkL os ts).length = ts.length := lkJ_len _
theorem ix_exJ {j i : Nat} (h : i < ts.length) : ix (exJ os ts j) i = if i < j then exI os ts i else 0 := ix_rng _ h
theorem ix_lkJ {j i : Nat} (h : i < ts.length) : ix (lkJ os ts j) i = if i < j then lkI os ts i else 0 := ix_rng _ h
theorem ix_exL {i : Nat} (h : i < ts.length) : ix (exL os ts) i = exI os ts i := by rw [exL, ix_exJ h, if_pos h]
theorem ix_lkL {i : Nat} (h : i < ts.length) : ix (lkL os ts) i = lkI os ts i := by rw [lkL, ix_lkJ h, if_pos h]
theorem exJ_zero : exJ os ts 0 = List.replicate ts.length 0 := by
  apply ix_ext (by simp [exJ])
  intro i hi
  rw [exJ_len] at hi
  rw [ix_exJ hi, ix_rep, if_neg (by omega)]
theorem lkJ_zero : lkJ os ts 0 = List.replicate ts.length 0 := by
  apply ix_ext (by simp [lkJ])
  intro i hi
  rw [lkJ_len] at hi
  rw [ix_lkJ hi, ix_rep, if_neg (by omega)]
theorem exJ_next {j : Nat} (hj : j < ts.length) : exJ os ts (j + 1) = (exJ os ts j).set j (exI os ts j) := by
  apply ix_ext (by simp [exJ])
  intro i hi
  rw [exJ_len] at hi
  rw [ix_set (by rw [exJ_len]; exact hj), ix_exJ hi, ix_exJ hi]
  by_cases e : i = j
  · subst e; simp
  · rw [if_neg e]
    by_cases h : i < j
    · rw [if_pos h, if_pos (by omega)]
    · rw [if_neg h, if_neg (by omega)]
theorem lkJ_next {j : Nat} (hj : j < ts.length) : lkJ os ts (j + 1) = (lkJ os ts j).set j (lkI os ts j) := by
  apply ix_ext (by simp [lkJ])
  intro i hi
  rw [lkJ_len] at hi
  rw [ix_set (by rw [lkJ_len]; exact hj), ix_lkJ hi, ix_lkJ hi]
  by_cases e : i = j
  · subst e; simp
  · rw [if_neg e]
    by_cases h : i < j
    · rw [if_pos h, if_pos (by omega)]
    · rw [if_neg h, if_neg (by omega)]
theorem set_same {xs : List Int} {j : Nat} (h : j < xs.length) : xs.set j (ix xs j) = xs := by
  apply ix_ext (by simp)
  intro i hi
  rw [ix_set h]
  split
  · rename_i e; rw [e]
  · rfl
theorem exJ_none {j : Nat} (hj : j < ts.length) (h : exI os ts j = 0) : exJ os ts (j + 1) = exJ os ts j := by
  rw [exJ_next hj, h]
  have e : ix (exJ os ts j) j = 0 := by rw [ix_exJ hj, if_neg (by omega)]
  have := set_same (xs := exJ os ts j) (j := j) (by rw [exJ_len]; exact hj)
  rw [e] at this
  exact this
theorem lkJ_none {j : Nat} (hj : j < ts.length) (h : lkI os ts j = 0) : lkJ os ts (j + 1) = lkJ os ts j := by
  rw [lkJ_next hj, h]
  have e : ix (lkJ os ts j) j = 0 := by rw [ix_lkJ hj, if_neg (by omega)]
  have := set_same (xs := lkJ os ts j) (j := j) (by rw [lkJ_len]; exact hj)
  rw [e] at this
  exact this
theorem right_iff : rightB os ts = true ↔ (∀ i, i < ts.length → 0 ≤ ix ts i) ∧ goodB os (ts.length : Int) = true := by
  unfold rightB okT
  simp only [Bool.and_eq_true, decide_eq_true_eq, List.all_eq_true]
  constructor
  · rintro ⟨a, b⟩
    exact ⟨fun i hi => a _ (ix_mem hi), b⟩
  · rintro ⟨a, b⟩
    refine ⟨fun x hx => ?_, b⟩
    obtain ⟨i, hi, rfl⟩ := mem_ix hx
    exact a i hi
theorem exI_nn (i : Nat) : 0 ≤ exI os ts i := by unfold exI; split <;> omega
theorem lkI_nn (i : Nat) : 0 ≤ lkI os ts i := by unfold lkI; split <;> omega
theorem exI_le (h : rightB os ts = true) {i : Nat} (hi : i < ts.length) : exI os ts i ≤ (cn os ((i : Int) + 1) : Nat) := by
  have := (right_iff.1 h).1 i hi
  unfold exI; split <;> omega
end

/-- Are there as many? -/
def enB (l : Int) : List Int → Bool
  | [] => true
  | t :: r => if l < t then false else enB (l - t) r
theorem en_drop {l : Int} {ts : List Int} {j : Nat} (hj : j < ts.length) : enB l (ts.drop j) = if l < ix ts j then false else enB (l - ix ts j) (ts.drop (j + 1)) := by
  have e : ts.drop j = ix ts j :: ts.drop (j + 1) := by
    rw [List.drop_eq_getElem_cons hj]
    have := ix_get hj
    rw [List.getElem?_eq_getElem hj, Option.some.injEq] at this
    rw [this]
  rw [e, enB]
theorem en_all (l : Int) (ts : List Int) : enB l (ts.drop ts.length) = true := by rw [List.drop_length]; rfl

/-- The first of them, from the k'th down, and up to it. -/
def dn (os : List Int) (s : Int) : Nat → List Nat
  | 0 => []
  | k + 1 => if ix os k = s then k :: dn os s k else dn os s k
def up (os : List Int) (s : Int) : Nat → List Nat
  | 0 => []
  | k + 1 => if ix os k = s then up os s k ++ [k] else up os s k
def fl {α : Type} (f : Nat → List α) : Nat → List α
  | 0 => []
  | j + 1 => fl f j ++ f j
def grL (os : List Int) (s : Int) (n : Nat) : List Nat := (dn os s os.length).take n
def goC (os ex : List Int) (j : Nat) : List Nat := up os 0 os.length ++ fl (fun i => grL os ((i : Int) + 1) (ix ex i).toNat) j
def plC (lk : List Int) (j : Nat) : List Int := fl (fun i => List.replicate (ix lk i).toNat ((i : Int) + 1)) j
/-- The moves of these cores to these places. -/
def mk (os : List Int) : List Nat → List Int → List (Int × Int × Int)
  | [], _ => []
  | c :: cs, ps => if ix os c = ps.headD 0 then mk os cs ps.tail else ((c : Int), ix os c, ps.headD 0) :: mk os cs ps.tail
def planL (os ts : List Int) : List (Int × Int × Int) := mk os (goC os (exL os ts) ts.length) (plC (lkL os ts) ts.length)
def planA (os ts : List Int) : List (Int × Int × Int) := if rightB os ts = true ∧ enB (os.length : Int) ts = true then planL os ts else []
/-- What a move makes of owners. -/
def apS (os : List Int) (m : Int × Int × Int) : List Int := if 0 ≤ m.1 ∧ m.1 < (os.length : Int) ∧ ix os m.1.toNat = m.2.1 then os.set m.1.toNat m.2.2 else os
def apL (os : List Int) (l : List (Int × Int × Int)) : List Int := l.foldl apS os
theorem apS_len (os : List Int) (m : Int × Int × Int) : (apS os m).length = os.length := by unfold apS; split <;> simp
theorem apL_len : ∀ (l : List (Int × Int × Int)) (os : List Int), (apL os l).length = os.length
  | [], _ => rfl
  | m :: l, os => by
    rw [apL, List.foldl_cons]
    exact (apL_len l (apS os m)).trans (apS_len os m)

theorem dn_len (os : List Int) (s : Int) : ∀ k, (dn os s k).length = ct os s k
  | 0 => rfl
  | k + 1 => by rw [dn, ct]; split <;> simp [dn_len os s k]
theorem up_len (os : List Int) (s : Int) : ∀ k, (up os s k).length = ct os s k
  | 0 => rfl
  | k + 1 => by rw [up, ct]; split <;> simp [up_len os s k]
theorem dn_mem {os : List Int} {s : Int} : ∀ {k c : Nat}, c ∈ dn os s k → c < k ∧ ix os c = s
  | 0, c, h => by simp [dn] at h
  | k + 1, c, h => by
    rw [dn] at h
    split at h
    · rename_i e
      rcases List.mem_cons.1 h with rfl | h
      · exact ⟨by omega, e⟩
      · have := dn_mem h; exact ⟨by omega, this.2⟩
    · have := dn_mem h; exact ⟨by omega, this.2⟩
theorem up_mem {os : List Int} {s : Int} : ∀ {k c : Nat}, c ∈ up os s k → c < k ∧ ix os c = s
  | 0, c, h => by simp [up] at h
  | k + 1, c, h => by
    rw [up] at h
    split at h
    · rename_i e
      rcases List.mem_append.1 h with h | h
      · have := up_mem h; exact ⟨by omega, this.2⟩
      · rw [List.mem_singleton] at h; subst h; exact ⟨by omega, e⟩
    · have := up_mem h; exact ⟨by omega, this.2⟩
theorem dn_nodup (os : List Int) (s : Int) : ∀ k, (dn os s k).Nodup
  | 0 => by simp [dn]
  | k + 1 => by
    rw [dn]
    split
    · rw [List.nodup_cons]
      exact ⟨fun h => by have := (dn_mem h).1; omega, dn_nodup os s k⟩
    · exact dn_nodup os s k
theorem up_nodup (os : List Int) (s : Int) : ∀ k, (up os s k).Nodup
  | 0 => by simp [up]
  | k + 1 => by
    rw [up]
    split
    · rw [List.nodup_append]
      refine ⟨up_nodup os s k, by simp, fun a ha b hb => ?_⟩
      rw [List.mem_singleton] at hb
      have := (up_mem ha).1
      omega
    · exact up_nodup os s k
theorem grL_mem {os : List Int} {s : Int} {n c : Nat} (h : c ∈ grL os s n) : c < os.length ∧ ix os c = s ∧ 0 < n := by
  have h1 := dn_mem (List.mem_of_mem_take h)
  refine ⟨h1.1, h1.2, ?_⟩
  cases n with
  | zero => simp [grL] at h
  | succ n => omega
theorem grL_len {os : List Int} {s : Int} {n : Nat} (h : n ≤ cn os s) : (grL os s n).length = n := by
  rw [grL, List.length_take, dn_len]
  unfold cn at h
  omega

/-- Sums. -/
def sm (f : Nat → Int) : Nat → Int
  | 0 => 0
  | n + 1 => sm f n + f n
theorem sm_congr {f g : Nat → Int} : ∀ {n : Nat}, (∀ i, i < n → f i = g i) → sm f n = sm g n
  | 0, _ => rfl
  | n + 1, h => by rw [sm, sm, sm_congr (fun i hi => h i (by omega)), h n (by omega)]
theorem sm_add (f g : Nat → Int) : ∀ n, sm (fun i => f i + g i) n = sm f n + sm g n
  | 0 => rfl
  | n + 1 => by rw [sm, sm, sm, sm_add f g n]; omega
theorem sm_le {f g : Nat → Int} : ∀ {n : Nat}, (∀ i, i < n → f i ≤ g i) → sm f n ≤ sm g n
  | 0, _ => Int.le_refl _
  | n + 1, h => by
    have := sm_le (n := n) (fun i hi => h i (by omega))
    have := h n (by omega)
    rw [sm, sm]; omega
theorem sm_lt {f g : Nat → Int} : ∀ {n : Nat} (p : Nat), p < n → (∀ i, i < n → f i ≤ g i) → f p < g p → sm f n < sm g n
  | n + 1, p, hp, h, hlt => by
    rw [sm, sm]
    by_cases e : p = n
    · subst e
      have := sm_le (n := p) (fun i hi => h i (by omega))
      omega
    · have := sm_lt (n := n) p (by omega) (fun i hi => h i (by omega)) hlt
      have := h n (by omega)
      omega
theorem sm_one (p : Nat) : ∀ n, sm (fun i => if i = p then 1 else 0) n = if p < n then 1 else 0
  | 0 => rfl
  | n + 1 => by
    rw [sm, sm_one p n]
    by_cases h : p < n
    · rw [if_pos h, if_neg (by omega), if_pos (by omega)]; rfl
    · rw [if_neg h]
      by_cases e : n = p
      · rw [if_pos e, if_pos (by omega)]; rfl
      · rw [if_neg e, if_neg (by omega)]; rfl
theorem sm_nn {f : Nat → Int} {n : Nat} (h : ∀ i, i < n → 0 ≤ f i) : 0 ≤ sm f n := by
  have := sm_le (f := fun _ => 0) (g := f) h
  have e : ∀ n, sm (fun _ => 0) n = 0 := fun n => by
    induction n with
    | zero => rfl
    | succ n ih => rw [sm, ih]; rfl
  rw [e] at this
  exact this
theorem fl_len {α : Type} (f : Nat → List α) : ∀ n, ((fl f n).length : Int) = sm (fun i => ((f i).length : Int)) n
  | 0 => rfl
  | n + 1 => by rw [fl, sm, List.length_append, ← fl_len f n]; omega
theorem sm_ct (os : List Int) (n : Nat) : ∀ k, (∀ c, c < k → 0 ≤ ix os c ∧ ix os c ≤ n) → sm (fun i => (ct os ((i : Int) + 1) k : Int)) n + ct os 0 k = k
  | 0, _ => by
    have : sm (fun i => (ct os ((i : Int) + 1) 0 : Int)) n = sm (fun _ => 0) n := rfl
    rw [this]
    have e : ∀ n, sm (fun _ => 0) n = 0 := fun n => by
      induction n with
      | zero => rfl
      | succ n ih => rw [sm, ih]; rfl
    rw [e]; rfl
  | k + 1, h => by
    have ih := sm_ct os n k (fun c hc => h c (by omega))
    have hk := h k (by omega)
    by_cases h0 : ix os k = 0
    · have e : sm (fun i => (ct os ((i : Int) + 1) (k + 1) : Int)) n = sm (fun i => (ct os ((i : Int) + 1) k : Int)) n := sm_congr fun i hi => by
        rw [ct, if_neg (by omega)]; rfl
      rw [e, ct, if_pos h0]
      omega
    · have e : sm (fun i => (ct os ((i : Int) + 1) (k + 1) : Int)) n = sm (fun i => (ct os ((i : Int) + 1) k : Int) + if i = (ix os k).toNat - 1 then 1 else 0) n := sm_congr fun i hi => by
        rw [ct]
        by_cases e : i = (ix os k).toNat - 1
        · rw [if_pos e, if_pos (by omega)]; omega
        · rw [if_neg e, if_neg (by omega)]; omega
      rw [e, sm_add, sm_one, if_pos (by omega), ct, if_neg h0]
      omega
theorem sum_sm : ∀ ts : List Int, sm (fun i => ix ts i) ts.length = ts.sum := by
  have key : ∀ (t : Int) (r : List Int) (n : Nat), sm (fun i => ix (t :: r) i) (n + 1) = t + sm (fun i => ix r i) n := by
    intro t r n
    induction n with
    | zero => simp [sm, ix_head]
    | succ n ih => rw [sm, ih, sm, ix_tail]; omega
  intro ts
  induction ts with
  | nil => rfl
  | cons t r ih => rw [List.length_cons, key, ih, List.sum_cons]
theorem en_sum : ∀ (ts : List Int) (l : Int), 0 ≤ l → enB l ts = true → ts.sum ≤ l
  | [], l, h0, _ => h0
  | t :: r, l, h0, h => by
    rw [enB] at h
    split at h
    · cases h
    · rename_i e
      have := en_sum r (l - t) (by omega) h
      rw [List.sum_cons]; omega
end Go.Proofs.Ytokigpmkhkldkaa
