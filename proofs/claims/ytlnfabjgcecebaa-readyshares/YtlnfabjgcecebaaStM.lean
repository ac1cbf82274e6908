/- Threads that are picked by least passes, plain: how they stand to one another. -/
import Derived.Test.YtlnfabjgcecebaaJ1
namespace Go.Proofs.Ytlnfabjgcecebaa.Str


/-- A sum over the numbers below m. -/
def sm : Nat → (Nat → Nat) → Nat
  | 0, _ => 0
  | m + 1, f => sm m f + f m
def upd (f : Nat → Nat) (b v : Nat) : Nat → Nat := fun i => if i = b then v else f i
theorem upd_same (f : Nat → Nat) (b v : Nat) : upd f b v b = v := if_pos rfl
theorem upd_other (f : Nat → Nat) {b i : Nat} (v : Nat) (h : i ≠ b) : upd f b v i = f i := if_neg h
theorem sm_le : ∀ {m : Nat} {f g : Nat → Nat}, (∀ i, i < m → f i ≤ g i) → sm m f ≤ sm m g
  | 0, _, _, _ => Nat.le_refl _
  | m + 1, f, g, h => Nat.add_le_add (sm_le (fun i hi => h i (by omega))) (h m (by omega))
theorem sm_congr : ∀ {m : Nat} {f g : Nat → Nat}, (∀ i, i < m → f i = g i) → sm m f = sm m g
  | 0, _, _, _ => rfl
  | m + 1, f, g, h => by
    show sm m f + f m = sm m g + g m
    rw [sm_congr (fun i hi => h i (by omega)), h m (by omega)]
theorem sm_zero : ∀ m : Nat, sm m (fun _ => 0) = 0
  | 0 => rfl
  | m + 1 => sm_zero m
theorem sm_upd (f : Nat → Nat) (b v : Nat) : ∀ {m : Nat}, b < m → sm m (upd f b v) + f b = sm m f + v
  | m + 1, h => by
    show sm m (upd f b v) + upd f b v m + f b = sm m f + f m + v
    by_cases e : b = m
    · subst e
      have : sm b (upd f b v) = sm b f := sm_congr (fun i hi => upd_other f v (by omega))
      rw [this, upd_same]
      omega
    · have ih := sm_upd f b v (m := m) (by omega)
      rw [upd_other f v (by omega : m ≠ b)]
      omega
theorem sm_add (f g : Nat → Nat) : ∀ m : Nat, sm m (fun i => f i + g i) = sm m f + sm m g
  | 0 => rfl
  | m + 1 => by
    show sm m (fun i => f i + g i) + (f m + g m) = sm m f + f m + (sm m g + g m)
    rw [sm_add f g m]
    omega
theorem sm_one : ∀ m : Nat, sm m (fun _ => 1) = m
  | 0 => rfl
  | m + 1 => by
    show sm m (fun _ => 1) + 1 = m + 1
    rw [sm_one m]

/-- m threads of strides s, with passes p, picked n times each, sc picks (of others) since its last one. -/
structure Turns (m : Nat) (s p n sc : Nat → Nat) : Prop where
  pn : ∀ i, i < m → p i = n i * s i
  a : ∀ i j, i < m → j < m → p i ≤ p j + s i
  c : ∀ i, i < m → ∃ c : Nat → Nat, sm m c = sc i ∧ ∀ j, j < m → c j * s j + p i ≤ p j + s i
theorem Turns.begin (m : Nat) (s : Nat → Nat) : Turns m s (fun _ => 0) (fun _ => 0) (fun _ => 0) :=
  ⟨fun i _ => by simp, fun i j _ _ => by simp, fun i _ => ⟨fun _ => 0, sm_zero m, fun j _ => by simp⟩⟩
/-- The one with the least pass is picked, and charged. -/
theorem Turns.pick {m : Nat} {s p n sc : Nat → Nat} (h : Turns m s p n sc) {b : Nat} (hb : b < m) (hl : ∀ j, j < m → p b ≤ p j) :
    Turns m s (upd p b (p b + s b)) (upd n b (n b + 1)) (fun i => if i = b then 0 else sc i + 1) := by
  refine ⟨fun i hi => ?_, fun i j hi hj => ?_, fun i hi => ?_⟩
  · by_cases e : i = b
    · subst e
      rw [upd_same, upd_same, h.pn i hi, Nat.add_mul, Nat.one_mul]
    · rw [upd_other p _ e, upd_other n _ e]
      exact h.pn i hi
  · by_cases e1 : i = b
    · subst e1
      rw [upd_same]
      by_cases e2 : j = i
      · subst e2
        rw [upd_same]
        omega
      · rw [upd_other p _ e2]
        have := hl j hj
        omega
    · rw [upd_other p _ e1]
      by_cases e2 : j = b
      · subst e2
        rw [upd_same]
        have := h.a i j hi hj
        omega
      · rw [upd_other p _ e2]
        exact h.a i j hi hj
  · by_cases e : i = b
    · subst e
      refine ⟨fun _ => 0, by rw [if_pos rfl]; exact sm_zero m, fun j hj => ?_⟩
      show 0 * s j + _ ≤ _
      rw [upd_same, Nat.zero_mul]
      by_cases e2 : j = i
      · subst e2
        rw [upd_same]
        omega
      · rw [upd_other p _ e2]
        have := hl j hj
        omega
    · obtain ⟨c, h1, h2⟩ := h.c i hi
      refine ⟨upd c b (c b + 1), ?_, fun j hj => ?_⟩
      · rw [if_neg e]
        have := sm_upd c b (c b + 1) hb
        omega
      · rw [upd_other p _ e]
        by_cases e2 : j = b
        · subst e2
          rw [upd_same, upd_same, Nat.add_mul, Nat.one_mul]
          have := h2 j hj
          omega
        · rw [upd_other p _ e2, upd_other c _ e2]
          exact h2 j hj
/-- Nobody waits for more picks than so many. -/
theorem Turns.bound {m : Nat} {s p n sc : Nat → Nat} (h : Turns m s p n sc) (hs : ∀ j, j < m → 0 < s j) {i : Nat} (hi : i < m) : sc i + 1 ≤ sm m (fun j => 2 + s i / s j) := by
  obtain ⟨c, h1, h2⟩ := h.c i hi
  have hc : sm m c ≤ sm m (fun j => 1 + s i / s j) := sm_le (fun j hj => by
    have e1 := h2 j hj
    have e2 := h.a j i hj hi
    have hp := hs j hj
    have e3 : c j * s j ≤ s j + s i := by omega
    have e4 : c j ≤ (s j + s i) / s j := (Nat.le_div_iff_mul_le hp).2 e3
    rw [Nat.add_div_left _ hp] at e4
    show c j ≤ 1 + s i / s j
    omega)
  have e : sm m (fun j => 2 + s i / s j) = sm m (fun _ => 1) + sm m (fun j => 1 + s i / s j) := by
    rw [← sm_add]
    exact sm_congr (fun j _ => by omega)
  rw [e, sm_one]
  omega
/-- Any two differ by no more than their tickets say. -/
theorem Turns.within {m : Nat} {s p n sc : Nat → Nat} (h : Turns m s p n sc) {t : Nat → Nat} (hs : ∀ j, j < m → s j = 1099511627776 / t j) (ht : ∀ j, j < m → 1 ≤ t j ∧ t j ≤ 65536) {i j : Nat} (hi : i < m) (hj : j < m) (hn : n i ≤ 300) : n i * t j ≤ n j * t i + 2 * (t i + t j) := by
  have e := h.a i j hi hj
  rw [h.pn i hi, h.pn j hj] at e
  obtain ⟨ti1, ti2⟩ := ht i hi
  obtain ⟨tj1, _⟩ := ht j hj
  have di := Nat.div_add_mod 1099511627776 (t i)
  have dj := Nat.div_add_mod 1099511627776 (t j)
  have mi := Nat.mod_lt 1099511627776 ti1
  rw [← hs i hi] at di
  rw [← hs j hj] at dj
  generalize 1099511627776 % t i = ri at di mi
  generalize 1099511627776 % t j = rj at dj
  generalize n i = a at *
  generalize n j = b at *
  generalize s i = si at *
  generalize s j = sj at *
  generalize t i = x at *
  generalize t j = y at *
  -- a si <= b sj + si; x si + ri = O; y sj + rj = O
  have k1 : a * si * (x * y) ≤ (b * sj + si) * (x * y) := Nat.mul_le_mul_right _ e
  have k2 : a * si * (x * y) = a * y * (x * si) := by simp only [Nat.mul_left_comm, Nat.mul_comm]
  have k3 : (b * sj + si) * (x * y) = b * x * (y * sj) + y * (x * si) := by
    rw [Nat.add_mul]
    simp only [Nat.mul_left_comm, Nat.mul_comm]
  have k4 : x * si ≤ 1099511627776 := by omega
  have k5 : y * sj ≤ 1099511627776 := by omega
  have k6 : b * x * (y * sj) ≤ b * x * 1099511627776 := Nat.mul_le_mul_left _ k5
  have k7 : y * (x * si) ≤ y * 1099511627776 := Nat.mul_le_mul_left _ k4
  have k8 : a * y * 1099511627776 = a * y * (x * si) + a * y * ri := by rw [← Nat.mul_add, di]
  have k9 : a * y * ri = y * (a * ri) := by simp only [Nat.mul_left_comm, Nat.mul_comm]
  have k10 : a * ri ≤ 300 * 65536 := Nat.mul_le_mul hn (by omega)
  have k11 : y * (a * ri) ≤ y * (300 * 65536) := Nat.mul_le_mul_left _ k10
  generalize a * y = A at *
  generalize b * x = B at *
  have k12 : A * 1099511627776 ≤ B * 1099511627776 + y * 1099511627776 + y * 19660800 := by omega
  omega
end Go.Proofs.Ytlnfabjgcecebaa.Str
