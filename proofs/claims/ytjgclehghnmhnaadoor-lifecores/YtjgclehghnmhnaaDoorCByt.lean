/- Numbers as bytes, one way alone, and what bytes tell: plain lists. -/
import Derived.Test.YtjgclehghnmhnaaDoorRows
namespace Go.Proofs.YtjgclehghnmhnaaDoor

/-- The bytes of a number, at most so many and one. -/
def numF : Nat → Nat → List UInt8
  | 0, n => [UInt8.ofNat n]
  | k + 1, n => if n < 128 then [UInt8.ofNat n] else UInt8.ofNat (n % 128 + 128) :: numF k (n / 128)
def numL (n : Nat) : List UInt8 := numF 10 n

theorem numF_small {k n : Nat} (h : n < 128) : numF k n = [UInt8.ofNat n] := by
  cases k with
  | zero => rfl
  | succ k => simp [numF, h]
theorem numF_great {k n : Nat} (h : ¬ n < 128) : numF (k + 1) n = UInt8.ofNat (n % 128 + 128) :: numF k (n / 128) := by simp [numF, h]
theorem numF_len : ∀ (k n : Nat), (numF k n).length ≤ k + 1
  | 0, n => by simp [numF]
  | k + 1, n => by
    by_cases h : n < 128
    · simp [numF, h]
    · rw [numF_great h]
      have := numF_len k (n / 128)
      simp only [List.length_cons]
      omega
theorem numL_len (n : Nat) : (numL n).length ≤ 11 := numF_len 10 n
theorem numF_pos (k n : Nat) : 0 < (numF k n).length := by
  cases k with
  | zero => simp [numF]
  | succ k =>
    by_cases h : n < 128
    · simp [numF, h]
    · rw [numF_great h]
      simp

theorem u8_small {n : Nat} (h : n < 256) : (UInt8.ofNat n).toNat = n := by
  rw [UInt8.toNat_ofNat']
  omega

/-- A byte that may not stand there. -/
def badB (sh : Nat) (c : UInt8) : Bool := (decide (0 < sh) && decide (c.toNat = 0)) || (decide (sh = 63) && decide (1 < c.toNat))

/-- What bytes tell of a number: an error, the number, the bytes behind it. -/
def numG (sh acc : Nat) : List UInt8 → Nat × Nat × List UInt8
  | [] => (9, 0, [])
  | c :: t => if badB sh c then (10, 0, []) else if c.toNat < 128 then (0, acc + c.toNat * 2 ^ sh, t) else numG (sh + 7) (acc + c.toNat % 128 * 2 ^ sh) t

theorem numG_nil (sh acc : Nat) : numG sh acc [] = (9, 0, []) := rfl
theorem numG_bad {sh acc : Nat} {c : UInt8} {t : List UInt8} (h : badB sh c = true) : numG sh acc (c :: t) = (10, 0, []) := by simp [numG, h]
theorem numG_last {sh acc : Nat} {c : UInt8} {t : List UInt8} (h : badB sh c = false) (k : c.toNat < 128) : numG sh acc (c :: t) = (0, acc + c.toNat * 2 ^ sh, t) := by simp [numG, h, k]
theorem numG_more {sh acc : Nat} {c : UInt8} {t : List UInt8} (h : badB sh c = false) (k : ¬ c.toNat < 128) : numG sh acc (c :: t) = numG (sh + 7) (acc + c.toNat % 128 * 2 ^ sh) t := by simp [numG, h, k]

theorem badB_no {sh : Nat} {c : UInt8} (h0 : 0 < sh → c.toNat ≠ 0) (h1 : sh = 63 → c.toNat ≤ 1) : badB sh c = false := by
  unfold badB
  simp
  exact ⟨h0, h1⟩
theorem badB_out {sh : Nat} {c : UInt8} (h : badB sh c = false) : (0 < sh → c.toNat ≠ 0) ∧ (sh = 63 → c.toNat ≤ 1) := by
  unfold badB at h
  simp at h
  exact h

/-- What was put is got. -/
theorem numG_of (t : List UInt8) : ∀ (k i n acc : Nat), k + i = 9 → n < 2 ^ (64 - 7 * i) → (0 < i → 0 < n) → numG (7 * i) acc (numF k n ++ t) = (0, acc + n * 2 ^ (7 * i), t)
  | 0, i, n, acc, hk, hn, hp => by
    obtain rfl : i = 9 := by omega
    have h2 : n < 2 := hn
    have e : (UInt8.ofNat n).toNat = n := u8_small (by omega)
    show numG _ acc (UInt8.ofNat n :: t) = _
    rw [numG_last (badB_no (by rw [e]; intro _; have := hp (by omega); omega) (by rw [e]; omega)) (by rw [e]; omega), e]
  | k + 1, i, n, acc, hk, hn, hp => by
    by_cases h : n < 128
    · rw [numF_small h]
      have e : (UInt8.ofNat n).toNat = n := u8_small (by omega)
      show numG _ acc (UInt8.ofNat n :: t) = _
      rw [numG_last (badB_no (by rw [e]; intro h0; have := hp (by omega); omega) (by omega)) (by rw [e]; omega), e]
    · rw [numF_great h]
      have e : (UInt8.ofNat (n % 128 + 128)).toNat = n % 128 + 128 := u8_small (by omega)
      show numG _ acc (UInt8.ofNat (n % 128 + 128) :: (numF k (n / 128) ++ t)) = _
      rw [numG_more (badB_no (by rw [e]; omega) (by omega)) (by rw [e]; omega), e]
      have e7 : 7 * i + 7 = 7 * (i + 1) := by omega
      rw [e7, numG_of t k (i + 1) (n / 128) _ (by omega) ?_ (by omega)]
      · have hp2 : 2 ^ (7 * (i + 1)) = 128 * 2 ^ (7 * i) := by rw [← e7, Nat.pow_add]; omega
        rw [hp2]
        have hd := Nat.div_add_mod n 128
        have e3 : (n % 128 + 128) % 128 = n % 128 := by omega
        rw [e3]
        congr 2
        have : n * 2 ^ (7 * i) = (128 * (n / 128) + n % 128) * 2 ^ (7 * i) := by rw [hd]
        rw [this, Nat.add_mul, Nat.mul_assoc 128, ← Nat.mul_assoc (n / 128), Nat.mul_comm (n / 128) 128, Nat.mul_assoc 128]
        omega
      · have hq : 64 - 7 * i = 64 - 7 * (i + 1) + 7 := by omega
        rw [hq, Nat.pow_add] at hn
        exact Nat.div_lt_of_lt_mul (by omega)

theorem numF_more : ∀ (k n : Nat), n < 128 ^ (k + 1) → numF (k + 1) n = numF k n
  | 0, n, h => by
    rw [numF_small (by omega)]
    rfl
  | k + 1, n, h => by
    by_cases hn : n < 128
    · rw [numF_small hn, numF_small hn]
    · rw [numF_great hn, numF_great hn, numF_more k (n / 128) (Nat.div_lt_of_lt_mul (by rw [Nat.pow_succ] at h; omega))]
theorem numL_nine {n : Nat} (h : n < 2 ^ 64) : numL n = numF 9 n := numF_more 9 n (by omega)
theorem numG_put {n : Nat} (h : n < 2 ^ 64) (t : List UInt8) : numG 0 0 (numL n ++ t) = (0, n, t) := by
  rw [numL_nine h]
  have := numG_of t 9 0 n 0 rfl (by simpa using h) (by omega)
  simpa using this

/-- Any bytes that are a number are that number's. -/
theorem numG_is : ∀ (x t : List UInt8) (k i acc N : Nat), k + i = 9 → numG (7 * i) acc x = (0, N, t) → ∃ m, N = acc + m * 2 ^ (7 * i) ∧ x = numF k m ++ t ∧ m < 2 ^ (64 - 7 * i) ∧ (0 < i → 0 < m)
  | [], t, k, i, acc, N, hk, h => by simp [numG] at h
  | c :: x, t, k, i, acc, N, hk, h => by
    cases hb : badB (7 * i) c with
    | true =>
      rw [numG_bad hb] at h
      simp at h
    | false =>
      obtain ⟨b0, b1⟩ := badB_out hb
      by_cases hc : c.toNat < 128
      · rw [numG_last hb hc] at h
        simp only [Prod.mk.injEq, true_and] at h
        obtain ⟨rfl, rfl⟩ := h
        refine ⟨c.toNat, rfl, by rw [numF_small hc]; simp, ?_, fun hi => by have := b0 (by omega); omega⟩
        by_cases h9 : i = 9
        · subst h9
          have := b1 (by omega)
          show c.toNat < 2
          omega
        · have : 2 ^ 7 ≤ 2 ^ (64 - 7 * i) := Nat.pow_le_pow_right (by omega) (by omega)
          omega
      · rw [numG_more hb hc] at h
        have h9 : i ≠ 9 := fun e => by have := b1 (by omega); omega
        obtain ⟨k', rfl⟩ : ∃ k', k = k' + 1 := ⟨k - 1, by omega⟩
        have e7 : 7 * i + 7 = 7 * (i + 1) := by omega
        rw [e7] at h
        obtain ⟨m, hN, hx, hm, hp⟩ := numG_is x t k' (i + 1) _ N (by omega) h
        have hc2 : c.toNat < 256 := c.toNat_lt
        have hm0 := hp (by omega)
        have hd : (c.toNat % 128 + 128 * m) / 128 = m := by omega
        have hr : (c.toNat % 128 + 128 * m) % 128 = c.toNat % 128 := by omega
        refine ⟨c.toNat % 128 + 128 * m, ?_, ?_, ?_, fun _ => by omega⟩
        · have hp2 : 2 ^ (7 * (i + 1)) = 128 * 2 ^ (7 * i) := by rw [← e7, Nat.pow_add]; omega
          rw [hN, hp2, Nat.add_mul, ← Nat.mul_assoc, Nat.mul_comm m 128]
          omega
        · rw [numF_great (by omega), hd, hr]
          have hc3 : c.toNat % 128 + 128 = c.toNat := by omega
          rw [hc3, hx]
          simp
        · have hq : 64 - 7 * i = 64 - 7 * (i + 1) + 7 := by omega
          rw [hq, Nat.pow_add]
          omega

theorem numG_back {x t : List UInt8} {n : Nat} (h : numG 0 0 x = (0, n, t)) : x = numL n ++ t ∧ n < 2 ^ 64 := by
  obtain ⟨m, hN, hx, hm, _⟩ := numG_is x t 9 0 0 n rfl h
  simp at hN hm
  subst hN
  exact ⟨by rw [numL_nine (by omega)]; exact hx, by omega⟩

theorem numG_err : ∀ (x : List UInt8) (sh acc : Nat), (numG sh acc x).1 ≠ 0 → (numG sh acc x).2 = (0, [])
  | [], sh, acc, _ => rfl
  | c :: x, sh, acc, h => by
    cases hb : badB sh c with
    | true => rw [numG_bad hb]
    | false =>
      by_cases hc : c.toNat < 128
      · rw [numG_last hb hc] at h
        exact absurd rfl h
      · rw [numG_more hb hc] at h ⊢
        exact numG_err x _ _ h
theorem numG_e : ∀ (x : List UInt8) (sh acc : Nat), (numG sh acc x).1 = 0 ∨ (numG sh acc x).1 = 9 ∨ (numG sh acc x).1 = 10
  | [], sh, acc => .inr (.inl rfl)
  | c :: x, sh, acc => by
    cases hb : badB sh c with
    | true => rw [numG_bad hb]; exact .inr (.inr rfl)
    | false =>
      by_cases hc : c.toNat < 128
      · rw [numG_last hb hc]; exact .inl rfl
      · rw [numG_more hb hc]
        exact numG_e x _ _
theorem numG_short : ∀ (x : List UInt8) (sh acc : Nat), (numG sh acc x).2.2.length ≤ x.length
  | [], sh, acc => by simp [numG]
  | c :: x, sh, acc => by
    cases hb : badB sh c with
    | true => rw [numG_bad hb]; simp
    | false =>
      by_cases hc : c.toNat < 128
      · rw [numG_last hb hc]; simp
      · rw [numG_more hb hc]
        have := numG_short x (sh + 7) (acc + c.toNat % 128 * 2 ^ sh)
        simp only [List.length_cons]
        omega

/-- An int as a number, and back. -/
def zigN (i : Int) : Nat := if i < 0 then 2 * (-i - 1).toNat + 1 else 2 * i.toNat
def unzig (u : Nat) : Int := if u % 2 = 1 then -((u / 2 : Nat) : Int) - 1 else ((u / 2 : Nat) : Int)
theorem unzig_zig (i : Int) : unzig (zigN i) = i := by
  unfold unzig zigN
  split <;> split <;> omega
theorem zig_unzig (u : Nat) : zigN (unzig u) = u := by
  unfold unzig zigN
  split <;> split <;> omega
theorem zigN_lt {i : Int} (h1 : -9223372036854775808 ≤ i) (h2 : i ≤ 9223372036854775807) : zigN i < 2 ^ 64 := by
  unfold zigN
  split <;> omega
theorem unzig_in {u : Nat} (h : u < 2 ^ 64) : -9223372036854775808 ≤ unzig u ∧ unzig u ≤ 9223372036854775807 := by
  unfold unzig
  split <;> omega

def intsF (xs : List Int) : List UInt8 := xs.flatMap (fun i => numL (zigN i))
def intsL (xs : List Int) : List UInt8 := numL xs.length ++ intsF xs
theorem intsF_cons (x : Int) (xs : List Int) : intsF (x :: xs) = numL (zigN x) ++ intsF xs := rfl
theorem intsF_app (xs ys : List Int) : intsF (xs ++ ys) = intsF xs ++ intsF ys := by simp [intsF]
theorem intsF_len : ∀ xs : List Int, (intsF xs).length ≤ 11 * xs.length
  | [] => by simp [intsF]
  | x :: xs => by
    rw [intsF_cons, List.length_append, List.length_cons]
    have := intsF_len xs
    have := numL_len (zigN x)
    omega

/-- What bytes tell, by what is asked: an error, the value, the bytes behind it. -/
def numT (most : Nat) (bs : List UInt8) : Nat × Nat × List UInt8 :=
  let r := numG 0 0 bs
  if r.1 = 0 then (if most < r.2.1 then (8, 0, []) else r) else r
def intT (least most : Int) (bs : List UInt8) : Nat × Int × List UInt8 :=
  let r := numG 0 0 bs
  if r.1 = 0 then (if unzig r.2.1 < least ∨ most < unzig r.2.1 then (8, 0, []) else (0, unzig r.2.1, r.2.2)) else (r.1, 0, [])
/-- How many may follow. -/
def upN (most : Int) : Nat := most.toNat
def textT (most : Int) (bs : List UInt8) : Nat × List UInt8 × List UInt8 :=
  let r := numT (upN most) bs
  if r.1 = 0 then (if r.2.2.length < r.2.1 then (9, [], []) else (0, r.2.2.take r.2.1, r.2.2.drop r.2.1)) else (r.1, [], [])
def byteT : List UInt8 → Nat × UInt8 × List UInt8
  | [] => (9, 0, [])
  | c :: t => (0, c, t)
def flagT : List UInt8 → Nat × Bool × List UInt8
  | [] => (9, false, [])
  | c :: t => if 1 < c.toNat then (10, false, []) else (0, decide (c.toNat = 1), t)
def intsG (least most : Int) : Nat → List UInt8 → Nat × List Int × List UInt8
  | 0, bs => (0, [], bs)
  | n + 1, bs =>
    let r := intT least most bs
    if r.1 = 0 then
      let q := intsG least most n r.2.2
      if q.1 = 0 then (0, r.2.1 :: q.2.1, q.2.2) else (q.1, [], [])
    else (r.1, [], [])
def intsT (count least most : Int) (bs : List UInt8) : Nat × List Int × List UInt8 :=
  let r := numT (upN count) bs
  if r.1 = 0 then intsG least most r.2.1 r.2.2 else (r.1, [], [])

/-- A source: its error, and the bytes that are left. -/
def getS {α : Type} (f : List UInt8 → Nat × α × List UInt8) (z : α) (st : Nat × List UInt8) : α × Nat × List UInt8 :=
  if st.1 = 0 then ((f st.2).2.1, (f st.2).1, (f st.2).2.2) else (z, st)

end Go.Proofs.YtjgclehghnmhnaaDoor
