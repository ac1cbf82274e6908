/- Plain facts: weights that are so many times as great, and a claim without a demand behind all, make no difference. -/
import Derived.Test.YtkeoccjobcdldaaShr
namespace Go.Proofs.Ytkeoccjobcdldaa

def scale (k : Int) (c : Int × Int) : Int × Int := (c.1 * k, c.2)
/-- The first i weights so many times as great. -/
def mulW (k : Int) (ls : List (Int × Int)) (i : Nat) : List (Int × Int) := (ls.take i).map (scale k) ++ ls.drop i
theorem mulW_zero (k : Int) (ls : List (Int × Int)) : mulW k ls 0 = ls := by simp [mulW]
theorem mulW_all (k : Int) (ls : List (Int × Int)) : mulW k ls ls.length = ls.map (scale k) := by simp [mulW]
theorem mulW_len (k : Int) (ls : List (Int × Int)) (i : Nat) : (mulW k ls i).length = ls.length := by simp [mulW]; omega
theorem mulW_at {k : Int} {ls : List (Int × Int)} {i : Nat} (h : i < ls.length) : (mulW k ls i)[i]? = some (wt ls i, dm ls i) := by
  unfold mulW
  rw [List.getElem?_append_right (by simp; omega)]
  simp only [List.length_map, List.length_take, List.getElem?_drop]
  rw [show i + (i - min i ls.length) = i by omega]
  exact cl_get h
theorem mulW_set {k : Int} {ls : List (Int × Int)} {i : Nat} (h : i < ls.length) : (mulW k ls i).set i (wt ls i * k, dm ls i) = mulW k ls (i + 1) := by
  unfold mulW
  rw [List.set_append_right _ _ (by simp; omega)]
  simp only [List.length_map, List.length_take]
  rw [show i - min i ls.length = 0 by omega, List.drop_eq_getElem_cons h, List.set_cons_zero, List.take_add_one, cl_get h]
  simp [scale]

theorem cmp_mul {a b k : Int} (hk : 0 < k) : Big.cmpI (a * k) (b * k) = Big.cmpI a b := by
  unfold Big.cmpI
  by_cases h : a = b
  · subst h; simp
  · have h1 : ¬ a * k = b * k := fun e => h (Int.eq_of_mul_eq_mul_right (by omega) e)
    rw [if_neg h1, if_neg h]
    by_cases h2 : a < b
    · rw [if_pos (Int.mul_lt_mul_of_pos_right h2 hk), if_pos h2]
    · rw [if_neg (fun e => h2 (Int.lt_of_mul_lt_mul_right e (by omega))), if_neg h2]

section
variable {ls : List (Int × Int)} {xs : List Int} {k : Int}
/-- Those claims, and one without a demand behind. -/
def more (k : Int) (ls : List (Int × Int)) : List (Int × Int) := ls.map (scale k) ++ [(1, 0)]
theorem more_len : (more k ls).length = ls.length + 1 := by simp [more]
theorem more_wt {i : Nat} (h : i < ls.length) : wt (more k ls) i = wt ls i * k := by
  unfold more wt
  rw [List.getD_eq_getElem?_getD, List.getElem?_append_left (by simpa using h), List.getElem?_map, cl_get h]
  simp [scale, wt]
theorem more_dm {i : Nat} (h : i < ls.length) : dm (more k ls) i = dm ls i := by
  unfold more dm
  rw [List.getD_eq_getElem?_getD, List.getElem?_append_left (by simpa using h), List.getElem?_map, cl_get h]
  simp [scale, dm]
theorem more_last : (more k ls)[ls.length]? = some (1, 0) := by
  unfold more
  rw [List.getElem?_append_right (by simp)]
  simp
theorem more_dml : dm (more k ls) ls.length = 0 := by
  unfold dm
  rw [List.getD_eq_getElem?_getD, more_last]
  rfl
theorem more_wtl : wt (more k ls) ls.length = 1 := by
  unfold wt
  rw [List.getD_eq_getElem?_getD, more_last]
  rfl
theorem ix_app {i : Nat} (h : i < xs.length) : ix (xs ++ [0]) i = ix xs i := by
  unfold ix
  rw [List.getD_eq_getElem?_getD, List.getElem?_append_left h, ← List.getD_eq_getElem?_getD]
theorem ix_last : ix (xs ++ [0]) xs.length = 0 := by
  unfold ix
  rw [List.getD_eq_getElem?_getD, List.getElem?_append_right (Nat.le_refl _)]
  simp
theorem more_hun (he : xs.length = ls.length) {i : Nat} (h : i < ls.length) : hunB (more k ls) (xs ++ [0]) i = hunB ls xs i := by
  unfold hunB
  rw [ix_app (by omega), more_dm h]
theorem more_lev (he : xs.length = ls.length) (hk : 0 < k) {i j : Nat} (hi : i < ls.length) (hj : j < ls.length) : levI (more k ls) (xs ++ [0]) i j = levI ls xs i j := by
  unfold levI
  rw [ix_app (by omega), ix_app (by omega), more_wt hi, more_wt hj, ← Int.mul_assoc, ← Int.mul_assoc, cmp_mul hk]
theorem more_fold (he : xs.length = ls.length) (hk : 0 < k) : ∀ j, j ≤ ls.length → foldO (more k ls) (xs ++ [0]) (ls.length + 1) 0 j = foldO ls xs ls.length 0 j
  | 0, _ => rfl
  | j + 1, hj => by
    have ih := more_fold he hk j (by omega)
    have e1 : rd (ls.length + 1) 0 j = j := by unfold rd; rw [if_pos (by omega)]; omega
    have e2 : rd ls.length 0 j = j := by unfold rd; rw [if_pos (by omega)]; omega
    show stepO (more k ls) (xs ++ [0]) (foldO (more k ls) (xs ++ [0]) (ls.length + 1) 0 j) (rd (ls.length + 1) 0 j) = stepO ls xs (foldO ls xs ls.length 0 j) (rd ls.length 0 j)
    rw [ih, e1, e2]
    unfold stepO
    rw [more_hun he (by omega)]
    cases hf : foldO ls xs ls.length 0 j with
    | none => rfl
    | some b =>
      have hb := foldO_lt (ls := ls) (xs := xs) (n := ls.length) (s := 0) (by omega) j (by omega) b hf
      dsimp only
      rw [more_lev he hk (by omega) hb]
theorem more_next (he : xs.length = ls.length) (hk : 0 < k) : nextO (more k ls) (xs ++ [0]) 0 = nextO ls xs 0 := by
  unfold nextO
  rw [more_len]
  show stepO (more k ls) (xs ++ [0]) (foldO (more k ls) (xs ++ [0]) (ls.length + 1) 0 ls.length) (rd (ls.length + 1) 0 ls.length) = _
  rw [more_fold he hk _ (Nat.le_refl _)]
  have e1 : rd (ls.length + 1) 0 ls.length = ls.length := by unfold rd; rw [if_pos (by omega)]; omega
  have h1 : hunB (more k ls) (xs ++ [0]) ls.length = false := by
    unfold hunB
    rw [more_dml, ← he, ix_last]
    rfl
  rw [e1]
  unfold stepO
  rw [h1]
  rfl
theorem more_div (hk : 0 < k) : ∀ m, divL (more k ls) 0 m = divL ls 0 m ++ [0]
  | 0 => by
    show List.replicate (more k ls).length 0 = List.replicate ls.length 0 ++ [0]
    rw [more_len, List.replicate_succ']
  | m + 1 => by
    have ih := more_div hk m
    show give (divL (more k ls) 0 m) (nextO (more k ls) (divL (more k ls) 0 m) 0) = give (divL ls 0 m) (nextO ls (divL ls 0 m) 0) ++ [0]
    rw [ih, more_next (divL_len ls 0 m) hk]
    cases ho : nextO ls (divL ls 0 m) 0 with
    | none => rfl
    | some i =>
      have hi : i < ls.length := foldO_lt (n := ls.length) (s := 0) (by omega) _ (Nat.le_refl _) i ho
      have hl : i < (divL ls 0 m).length := by rw [divL_len]; exact hi
      show (divL ls 0 m ++ [0]).set i (ix (divL ls 0 m ++ [0]) i + 1) = (divL ls 0 m).set i (ix (divL ls 0 m) i + 1) ++ [0]
      rw [ix_app hl, List.set_append_left _ _ hl]
theorem more_good (hg : goodB ls = true) (hn : ls.length ≤ 63) (hw : ∀ i, i < ls.length → wt ls i ≤ 4096) (hk : 0 < k) (hk2 : k ≤ 16) : goodB (more k ls) = true := by
  obtain ⟨hP, _⟩ := good_pos hg
  unfold goodB
  rw [Bool.and_eq_true]
  refine ⟨by rw [more_len]; exact decide_eq_true (by omega), ?_⟩
  rw [List.all_eq_true]
  intro c hc
  unfold more at hc
  rw [List.mem_append] at hc
  rcases hc with hc | hc
  · obtain ⟨d, hd, rfl⟩ := List.mem_map.1 hc
    obtain ⟨i, hi, e⟩ := List.getElem_of_mem hd
    have h1 := cl_get hi
    rw [List.getElem?_eq_getElem hi, e] at h1
    simp only [Option.some.injEq] at h1
    have h2 := hP i hi
    have h3 := hw i hi
    rw [h1]
    unfold okC scale
    simp only [decide_eq_true_eq]
    have h4 : 1 * 1 ≤ wt ls i * k := Int.mul_le_mul (by omega) (by omega) (by omega) (by omega)
    have h5 : wt ls i * k ≤ 4096 * 16 := Int.mul_le_mul (by omega) (by omega) (by omega) (by omega)
    omega
  · simp at hc
    subst hc
    rfl
theorem more_divA {cores : Int} (h0 : 0 ≤ cores) (h1 : cores ≤ 64) (hg : goodB ls = true) (hg2 : goodB (more k ls) = true) (hk : 0 < k) : divA cores (more k ls) 0 = divA cores ls 0 ++ [0] := by
  rw [divA_good h0 h1 hg2, divA_good h0 h1 hg, atN_zero, atN_zero, more_div hk]
end
end Go.Proofs.Ytkeoccjobcdldaa
