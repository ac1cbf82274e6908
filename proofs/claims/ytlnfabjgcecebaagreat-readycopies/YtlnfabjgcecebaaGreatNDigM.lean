/- Plain arithmetic of digits to base 2^16, the lowest first. -/
namespace Go.Proofs.YtlnfabjgcecebaaGreat.Big

/-- The number that digits are. -/
def val : List Int → Int
  | [] => 0
  | d :: r => d + 65536 * val r
/-- Each digit is one. -/
def Dig (ds : List Int) : Prop := ∀ d, d ∈ ds → 0 ≤ d ∧ d < 65536
/-- No nought at the end. -/
def Canon (ds : List Int) : Prop := ∀ r d, ds = r ++ [d] → d ≠ 0
def pw (n : Nat) : Int := 65536 ^ n

theorem pw_zero : pw 0 = 1 := rfl
theorem pw_succ (n : Nat) : pw (n + 1) = pw n * 65536 := Int.pow_succ 65536 n
theorem pw_pos (n : Nat) : 0 < pw n := Int.pow_pos (by decide)
theorem pw_add (m n : Nat) : pw (m + n) = pw m * pw n := Int.pow_add 65536 m n
theorem pw_le {m n : Nat} (h : m ≤ n) : pw m ≤ pw n := by
  obtain ⟨k, rfl⟩ := Nat.exists_eq_add_of_le h
  rw [pw_add]
  have h1 := pw_pos m
  have h2 := pw_pos k
  have h3 : pw m * 1 ≤ pw m * pw k := Int.mul_le_mul_of_nonneg_left (by omega) (by omega)
  omega
theorem val_nil : val [] = 0 := rfl
theorem val_cons (d : Int) (r : List Int) : val (d :: r) = d + 65536 * val r := rfl
theorem dig_nil : Dig [] := fun _ h => by cases h
theorem dig_snoc {ds : List Int} {d : Int} (h : Dig ds) (h0 : 0 ≤ d) (h1 : d < 65536) : Dig (ds ++ [d]) := by
  intro x hx
  rcases List.mem_append.1 hx with hx | hx
  · exact h x hx
  · rw [List.mem_singleton] at hx; subst hx; exact ⟨h0, h1⟩
theorem dig_tail {d : Int} {r : List Int} (h : Dig (d :: r)) : Dig r := fun x hx => h x (List.mem_cons_of_mem _ hx)
theorem dig_take {ds : List Int} (n : Nat) (h : Dig ds) : Dig (ds.take n) := fun x hx => h x (List.mem_of_mem_take hx)
theorem get_in {ds : List Int} {i : Nat} (hi : i < ds.length) : ds.getD i 0 = ds[i] := by simp [hi]
theorem get_past {ds : List Int} {i : Nat} (hi : ds.length ≤ i) : ds.getD i 0 = 0 := by simp [List.getElem?_eq_none hi]
theorem dig_get {ds : List Int} (h : Dig ds) (i : Nat) : 0 ≤ ds.getD i 0 ∧ ds.getD i 0 < 65536 := by
  by_cases hi : i < ds.length
  · rw [get_in hi]; exact h _ (List.getElem_mem hi)
  · rw [get_past (by omega)]; omega
theorem val_snoc (ds : List Int) (d : Int) : val (ds ++ [d]) = val ds + pw ds.length * d := by
  induction ds with
  | nil => show d + 65536 * 0 = 0 + 1 * d; omega
  | cons x r ih =>
    show x + 65536 * val (r ++ [d]) = x + 65536 * val r + pw (r.length + 1) * d
    rw [ih, pw_succ, Int.mul_add, Int.mul_comm (pw r.length) 65536, Int.mul_assoc]
    omega
theorem val_nonneg {ds : List Int} (h : Dig ds) : 0 ≤ val ds := by
  induction ds with
  | nil => exact Int.le_refl 0
  | cons x r ih =>
    have h1 := ih (dig_tail h)
    have h2 := h x List.mem_cons_self
    show 0 ≤ x + 65536 * val r
    omega
theorem val_lt {ds : List Int} (h : Dig ds) : val ds < pw ds.length := by
  induction ds with
  | nil => show (0 : Int) < 1; omega
  | cons x r ih =>
    have h1 := ih (dig_tail h)
    have h2 := h x List.mem_cons_self
    show x + 65536 * val r < pw (r.length + 1)
    rw [pw_succ]
    omega
/-- The digits from the i-th on. -/
theorem val_drop (ds : List Int) (i : Nat) : val (ds.drop i) = ds.getD i 0 + 65536 * val (ds.drop (i + 1)) := by
  by_cases hi : i < ds.length
  · rw [get_in hi, List.drop_eq_getElem_cons hi]; rfl
  · rw [get_past (by omega), List.drop_eq_nil_of_le (by omega), List.drop_eq_nil_of_le (by omega)]; rfl
theorem val_drop_past {ds : List Int} {i : Nat} (h : ds.length ≤ i) : val (ds.drop i) = 0 := by
  rw [List.drop_eq_nil_of_le h]; rfl
theorem val_split (ds : List Int) (i : Nat) (h : i ≤ ds.length) : val ds = val (ds.take i) + pw i * val (ds.drop i) := by
  induction i generalizing ds with
  | zero => show val ds = 0 + 1 * val ds; omega
  | succ n ih =>
    match ds, h with
    | x :: r, h =>
      show x + 65536 * val r = (x + 65536 * val (r.take n)) + pw (n + 1) * val (r.drop n)
      have h' : n ≤ r.length := by simp at h; omega
      rw [ih r h', pw_succ, Int.mul_add, Int.mul_comm (pw n) 65536, Int.mul_assoc]
      omega

/-- One step of a sum, digit by digit. -/
theorem sum_step {out : List Int} {i : Nat} {c x y A B V : Int} (hl : out.length = i) (h : val out + pw i * (c + (x + 65536 * A) + (y + 65536 * B)) = V) :
    val (out ++ [(c + x + y) % 65536]) + pw (i + 1) * ((c + x + y) / 65536 + A + B) = V := by
  rw [val_snoc, hl, pw_succ, ← h]
  generalize pw i = P
  have e : c + (x + 65536 * A) + (y + 65536 * B) = (c + x + y) % 65536 + 65536 * ((c + x + y) / 65536 + A + B) := by omega
  rw [e]
  generalize (c + x + y) % 65536 = d
  generalize (c + x + y) / 65536 + A + B = q
  rw [Int.mul_add, ← Int.mul_assoc]
  omega
/-- One step of a difference. -/
theorem diff_step {out : List Int} {i : Nat} {c x y A B V : Int} (hl : out.length = i) (h : val out + pw i * (c + (x + 65536 * A) - (y + 65536 * B)) = V) :
    val (out ++ [(c + x - y) % 65536]) + pw (i + 1) * ((c + x - y) / 65536 + A - B) = V := by
  rw [val_snoc, hl, pw_succ, ← h]
  generalize pw i = P
  have e : c + (x + 65536 * A) - (y + 65536 * B) = (c + x - y) % 65536 + 65536 * ((c + x - y) / 65536 + A - B) := by omega
  rw [e]
  generalize (c + x - y) % 65536 = d
  generalize (c + x - y) / 65536 + A - B = q
  rw [Int.mul_add, ← Int.mul_assoc]
  omega

/-- Digits without noughts at the end are as many as the number wants. -/
theorem canon_len {ds : List Int} (h : Dig ds) (hc : Canon ds) (hn : ds.length ≠ 0) : pw (ds.length - 1) ≤ val ds := by
  have hne : ds ≠ [] := fun e => hn (by rw [e]; rfl)
  have e := List.dropLast_concat_getLast hne
  have hz := hc _ _ e.symm
  have hd := h (ds.getLast hne) (List.getLast_mem hne)
  have hv : val ds = val ds.dropLast + pw ds.dropLast.length * ds.getLast hne := by
    have := val_snoc ds.dropLast (ds.getLast hne); rw [e] at this; exact this
  have h0 : 0 ≤ val ds.dropLast := val_nonneg (fun x hx => h x (List.dropLast_subset _ hx))
  rw [List.length_dropLast] at hv
  have hp := pw_pos (ds.length - 1)
  have h1 : pw (ds.length - 1) * 1 ≤ pw (ds.length - 1) * ds.getLast hne := Int.mul_le_mul_of_nonneg_left (by omega) (by omega)
  omega
theorem canon_short {ds : List Int} (h : Dig ds) (hc : Canon ds) {n : Nat} (hv : val ds < pw n) : ds.length ≤ n := by
  by_cases hn : ds.length = 0
  · omega
  · have h1 := canon_len h hc hn
    have h2 : ¬ n ≤ ds.length - 1 := fun hle => by have := pw_le hle; omega
    omega
/-- Digits without noughts at the end are told by the number. -/
theorem canon_eq : ∀ {as bs : List Int}, Dig as → Dig bs → Canon as → Canon bs → val as = val bs → as = bs
  | [], [], _, _, _, _, _ => rfl
  | [], b :: r, _, hb, _, cb, h => by
    have h1 := canon_len hb cb (by simp)
    have h2 := pw_pos ((b :: r).length - 1)
    rw [← h, val_nil] at h1; omega
  | a :: r, [], ha, _, ca, _, h => by
    have h1 := canon_len ha ca (by simp)
    have h2 := pw_pos ((a :: r).length - 1)
    rw [h, val_nil] at h1; omega
  | a :: r, b :: s, ha, hb, ca, cb, h => by
    have h1 := ha a List.mem_cons_self
    have h2 := hb b List.mem_cons_self
    rw [val_cons, val_cons] at h
    have e : a = b := by omega
    have e2 : val r = val s := by omega
    rw [e, canon_eq (dig_tail ha) (dig_tail hb) (fun t d et => ca (a :: t) d (by rw [et]; rfl)) (fun t d et => cb (b :: t) d (by rw [et]; rfl)) e2]
end Go.Proofs.YtlnfabjgcecebaaGreat.Big
