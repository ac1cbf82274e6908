/- What the library's OnesCount64 computes: how many members a set has. -/
import Derived.Test.YtjgclehghnmhnaaDoorSSets
namespace Go.Proofs.YtjgclehghnmhnaaDoor
open Go

/-- A function of bytes, on each of n bytes. -/
def onB (g : Nat → Nat) : Nat → Nat → Nat
  | 0, _ => 0
  | n + 1, x => g (x % 256) + 256 * onB g n (x / 256)
/-- n bytes alike. -/
def rep (b : Nat) : Nat → Nat
  | 0 => 0
  | n + 1 => b + 256 * rep b n

theorem and_split (a b c d : Nat) (ha : a < 256) (hc : c < 256) : (a + 256 * b) &&& (c + 256 * d) = (a &&& c) + 256 * (b &&& d) := by
  have h1 := Nat.and_mod_two_pow (a := a + 256 * b) (b := c + 256 * d) (n := 8)
  have h2 := Nat.and_div_two_pow (a := a + 256 * b) (b := c + 256 * d) (n := 8)
  have e : (2 : Nat) ^ 8 = 256 := by decide
  rw [e] at h1 h2
  have e1 : (a + 256 * b) % 256 = a := by omega
  have e2 : (c + 256 * d) % 256 = c := by omega
  have e3 : (a + 256 * b) / 256 = b := by omega
  have e4 : (c + 256 * d) / 256 = d := by omega
  rw [e1, e2] at h1
  rw [e3, e4] at h2
  omega

theorem onB_lt {g : Nat → Nat} (hg : ∀ d, d < 256 → g d < 256) : ∀ (n x : Nat), onB g n x < 256 ^ n
  | 0, _ => by simp [onB]
  | n + 1, x => by
    have h1 := hg (x % 256) (by omega)
    have h2 := onB_lt hg n (x / 256)
    rw [Nat.pow_succ]
    unfold onB
    omega

theorem onB_mod {g : Nat → Nat} (hg : ∀ d, d < 256 → g d < 256) (n x : Nat) : onB g (n + 1) x % 256 = g (x % 256) := by
  have h1 := hg (x % 256) (by omega)
  unfold onB
  omega
theorem onB_div {g : Nat → Nat} (hg : ∀ d, d < 256 → g d < 256) (n x : Nat) : onB g (n + 1) x / 256 = onB g n (x / 256) := by
  have h1 := hg (x % 256) (by omega)
  show (g (x % 256) + 256 * onB g n (x / 256)) / 256 = onB g n (x / 256)
  omega

theorem onB_comp {f g : Nat → Nat} (hg : ∀ d, d < 256 → g d < 256) : ∀ (n x : Nat), onB f n (onB g n x) = onB (fun d => f (g d)) n x
  | 0, _ => rfl
  | n + 1, x => by
    rw [onB, onB_mod hg, onB_div hg, onB_comp hg n (x / 256)]
    rfl

def g1 (d : Nat) : Nat := ((d / 2) &&& 85) + (d &&& 85)
def g2 (d : Nat) : Nat := ((d / 4) &&& 51) + (d &&& 51)
def g3 (d : Nat) : Nat := (d / 16 + d) &&& 15

theorem half_and : ∀ d : Fin 512, (d.val / 2) % 256 &&& 85 = (d.val % 256 / 2) &&& 85 := by decide +kernel
theorem quart_and : ∀ d : Fin 1024, (d.val / 4) % 256 &&& 51 = (d.val % 256 / 4) &&& 51 := by decide +kernel
theorem g1_lt : ∀ d : Fin 256, g1 d.val < 256 := by decide +kernel
theorem g2_lt : ∀ d : Fin 256, g2 d.val < 256 := by decide +kernel
theorem g21_small : ∀ d : Fin 256, g2 (g1 d.val) / 16 ≤ 4 ∧ g2 (g1 d.val) % 16 ≤ 4 := by decide +kernel
theorem g321 : ∀ d : Fin 256, g3 (g2 (g1 d.val)) = Lib.popAux 8 d.val := by decide +kernel
theorem g3_and : ∀ d : Fin 256, ∀ e : Fin 5, d.val / 16 ≤ 4 → d.val % 16 ≤ 4 → ((d.val / 16 + 16 * e.val) + d.val < 256 ∧ ((d.val / 16 + 16 * e.val) + d.val) &&& 15 = g3 d.val) := by decide +kernel

theorem step1 : ∀ (n x : Nat), ((x / 2) &&& rep 85 n) + (x &&& rep 85 n) = onB g1 n x
  | 0, x => by simp [rep, onB]
  | n + 1, x => by
    have e1 : x / 2 = (x / 2) % 256 + 256 * (x / 256 / 2) := by omega
    have e2 : x = x % 256 + 256 * (x / 256) := by omega
    have h1 := half_and ⟨x % 512, by omega⟩
    simp only at h1
    have e3 : (x % 512 / 2) % 256 = (x / 2) % 256 := by omega
    have e4 : x % 512 % 256 = x % 256 := by omega
    rw [e3, e4] at h1
    have a1 : (x / 2) &&& rep 85 (n + 1) = (((x / 2) % 256) &&& 85) + 256 * ((x / 256 / 2) &&& rep 85 n) := by
      conv => lhs; rw [e1, rep]
      exact and_split _ _ _ _ (by omega) (by omega)
    have a2 : x &&& rep 85 (n + 1) = ((x % 256) &&& 85) + 256 * ((x / 256) &&& rep 85 n) := by
      conv => lhs; rw [e2, rep]
      exact and_split _ _ _ _ (by omega) (by omega)
    rw [a1, a2, h1, onB, ← step1 n (x / 256), g1]
    omega

theorem step2 : ∀ (n x : Nat), ((x / 4) &&& rep 51 n) + (x &&& rep 51 n) = onB g2 n x
  | 0, x => by simp [rep, onB]
  | n + 1, x => by
    have e1 : x / 4 = (x / 4) % 256 + 256 * (x / 256 / 4) := by omega
    have e2 : x = x % 256 + 256 * (x / 256) := by omega
    have h1 := quart_and ⟨x % 1024, by omega⟩
    simp only at h1
    have e3 : (x % 1024 / 4) % 256 = (x / 4) % 256 := by omega
    have e4 : x % 1024 % 256 = x % 256 := by omega
    rw [e3, e4] at h1
    have a1 : (x / 4) &&& rep 51 (n + 1) = (((x / 4) % 256) &&& 51) + 256 * ((x / 256 / 4) &&& rep 51 n) := by
      conv => lhs; rw [e1, rep]
      exact and_split _ _ _ _ (by omega) (by omega)
    have a2 : x &&& rep 51 (n + 1) = ((x % 256) &&& 51) + 256 * ((x / 256) &&& rep 51 n) := by
      conv => lhs; rw [e2, rep]
      exact and_split _ _ _ _ (by omega) (by omega)
    rw [a1, a2, h1, onB, ← step2 n (x / 256), g2]
    omega

/-- Each of n bytes has halves of at most 4. -/
def Low : Nat → Nat → Prop
  | 0, x => x = 0
  | n + 1, x => x % 256 / 16 ≤ 4 ∧ x % 16 ≤ 4 ∧ Low n (x / 256)

theorem low_mod : ∀ (n x : Nat), Low n x → x % 16 ≤ 4
  | 0, x, h => by have : x = 0 := h; omega
  | _ + 1, _, h => h.2.1

theorem step3 : ∀ (n x : Nat), Low n x → (x / 16 + x) &&& rep 15 n = onB g3 n x
  | 0, x, h => by simp [rep, onB]
  | n + 1, x, h => by
    obtain ⟨h1, h2, h3⟩ := h
    have h4 := low_mod n _ h3
    have e0 := g3_and ⟨x % 256, by omega⟩ ⟨x / 256 % 16, by omega⟩
    simp only at e0
    have e1 := e0 h1 (by omega)
    have e2 : x / 16 + x = ((x % 256 / 16 + 16 * (x / 256 % 16)) + x % 256) + 256 * (x / 256 / 16 + x / 256) := by omega
    rw [e2, rep, and_split _ _ _ _ e1.1 (by omega), e1.2, step3 n _ h3, onB]

theorem low_onB : ∀ (n x : Nat), Low n (onB (fun d => g2 (g1 d)) n x)
  | 0, _ => rfl
  | n + 1, x => by
    have hg : ∀ d, d < 256 → g2 (g1 d) < 256 := fun d hd => g2_lt ⟨g1 d, g1_lt ⟨d, hd⟩⟩
    have h := g21_small ⟨x % 256, by omega⟩
    simp only at h
    have h1 := onB_mod hg n x
    have h2 := onB_div hg n x
    refine ⟨?_, ?_, ?_⟩
    · rw [h1]; exact h.1
    · omega
    · rw [h2]; exact low_onB n (x / 256)

theorem popAux_add : ∀ (a b x : Nat), Lib.popAux (a + b) x = Lib.popAux a x + Lib.popAux b (x / 2 ^ a)
  | 0, b, x => by simp [Lib.popAux]
  | a + 1, b, x => by
    rw [Nat.add_right_comm, Lib.popAux, Lib.popAux, popAux_add a b (x / 2), Nat.div_div_eq_div_mul, Nat.pow_succ, Nat.mul_comm 2]
    omega

theorem popAux_mod : ∀ (a x : Nat), Lib.popAux a (x % 2 ^ a) = Lib.popAux a x
  | 0, _ => rfl
  | a + 1, x => by
    rw [Lib.popAux, Lib.popAux, ← popAux_mod a (x / 2), ← popAux_mod a (x % 2 ^ (a + 1) / 2)]
    have e1 : x % 2 ^ (a + 1) % 2 = x % 2 := by
      rw [Nat.pow_succ]; exact Nat.mod_mul_left_mod x (2 ^ a) 2
    have e2 : x % 2 ^ (a + 1) / 2 % 2 ^ a = x / 2 % 2 ^ a := by
      rw [Nat.pow_succ, Nat.mul_comm, Nat.mod_mul_right_div_self, Nat.mod_mod]
    rw [e1, e2]

theorem pop_byte (k x : Nat) : Lib.popAux (8 + k) x = g3 (g2 (g1 (x % 256))) + Lib.popAux k (x / 256) := by
  rw [popAux_add, ← popAux_mod 8 x, g321 ⟨x % 256, by omega⟩]

theorem pop_le : ∀ (f x : Nat), Lib.popAux f x ≤ f
  | 0, _ => Nat.le_refl _
  | f + 1, x => by
    have := pop_le f (x / 2)
    unfold Lib.popAux
    omega

theorem dv (B r q : Nat) (h : r < B) : (r + B * q) / B = q := by
  rw [Nat.add_mul_div_left _ _ (by omega), Nat.div_eq_of_lt h, Nat.zero_add]

/-- The sums behind the third step, of eight bytes of at most 8. -/
theorem sum8 (c0 c1 c2 c3 c4 c5 c6 c7 : Nat) (h0 : c0 ≤ 8) (h1 : c1 ≤ 8) (h2 : c2 ≤ 8) (h3 : c3 ≤ 8) (h4 : c4 ≤ 8) (h5 : c5 ≤ 8) (h6 : c6 ≤ 8) (h7 : c7 ≤ 8)
    (z z1 z2 z3 : Nat) (hz : z = c0 + 256 * (c1 + 256 * (c2 + 256 * (c3 + 256 * (c4 + 256 * (c5 + 256 * (c6 + 256 * c7))))))) (e1 : z1 = z + z / 256) (e2 : z2 = z1 + z1 / 65536) (e3 : z3 = z2 + z2 / 4294967296) :
    z3 < 9223372036854775808 ∧ z3 % 128 = c0 + c1 + c2 + c3 + c4 + c5 + c6 + c7 := by
  have a1 : z / 256 = c1 + 256 * (c2 + 256 * (c3 + 256 * (c4 + 256 * (c5 + 256 * (c6 + 256 * c7))))) := by
    rw [hz]; exact dv 256 c0 _ (by omega)
  have b2 : z1 = ((c0 + c1) + 256 * (c1 + c2)) + 65536 * ((c2 + c3) + 256 * ((c3 + c4) + 256 * ((c4 + c5) + 256 * ((c5 + c6) + 256 * ((c6 + c7) + 256 * c7))))) := by
    rw [e1, a1, hz]; clear e1 e2 e3 a1 hz; omega
  have a2 : z1 / 65536 = (c2 + c3) + 256 * ((c3 + c4) + 256 * ((c4 + c5) + 256 * ((c5 + c6) + 256 * ((c6 + c7) + 256 * c7)))) := by
    rw [b2]; exact dv 65536 _ _ (by omega)
  have b3 : z2 = ((c0 + c1 + c2 + c3) + 256 * ((c1 + c2 + c3 + c4) + 256 * ((c2 + c3 + c4 + c5) + 256 * (c3 + c4 + c5 + c6)))) + 4294967296 * ((c4 + c5 + c6 + c7) + 256 * ((c5 + c6 + c7) + 256 * ((c6 + c7) + 256 * c7))) := by
    rw [e2, a2, b2]; clear e1 e2 e3 a1 hz a2 b2; omega
  have a3 : z2 / 4294967296 = (c4 + c5 + c6 + c7) + 256 * ((c5 + c6 + c7) + 256 * ((c6 + c7) + 256 * c7)) := by
    rw [b3]; exact dv 4294967296 _ _ (by omega)
  have b4 : z3 = (c0 + c1 + c2 + c3 + c4 + c5 + c6 + c7) + 256 * ((c1 + c2 + c3 + c4 + c5 + c6 + c7) + 256 * ((c2 + c3 + c4 + c5 + c6 + c7) + 256 * ((c3 + c4 + c5 + c6 + c7) + 256 * ((c4 + c5 + c6 + c7) + 256 * ((c5 + c6 + c7) + 256 * ((c6 + c7) + 256 * c7)))))) := by
    rw [e3, a3, b3]; clear e1 e2 e3 a1 hz a2 b2 b3 a3; omega
  clear e1 e2 e3 a1 hz a2 b2 b3 a3
  refine ⟨by omega, ?_⟩
  rw [b4]
  generalize ((c1 + c2 + c3 + c4 + c5 + c6 + c7) + 256 * ((c2 + c3 + c4 + c5 + c6 + c7) + 256 * ((c3 + c4 + c5 + c6 + c7) + 256 * ((c4 + c5 + c6 + c7) + 256 * ((c5 + c6 + c7) + 256 * ((c6 + c7) + 256 * c7)))))) = T
  omega

theorem pop64 (x : Nat) : ∃ c0 c1 c2 c3 c4 c5 c6 c7 : Nat, c0 ≤ 8 ∧ c1 ≤ 8 ∧ c2 ≤ 8 ∧ c3 ≤ 8 ∧ c4 ≤ 8 ∧ c5 ≤ 8 ∧ c6 ≤ 8 ∧ c7 ≤ 8 ∧
    onB (fun d => g3 (g2 (g1 d))) 8 x = c0 + 256 * (c1 + 256 * (c2 + 256 * (c3 + 256 * (c4 + 256 * (c5 + 256 * (c6 + 256 * c7)))))) ∧ Lib.onesCount x = c0 + c1 + c2 + c3 + c4 + c5 + c6 + c7 := by
  have hle : ∀ y, g3 (g2 (g1 (y % 256))) ≤ 8 := fun y => by
    rw [g321 ⟨y % 256, by omega⟩]; exact pop_le 8 _
  refine ⟨_, _, _, _, _, _, _, _, hle x, hle (x / 256), hle (x / 256 / 256), hle (x / 256 / 256 / 256), hle (x / 256 / 256 / 256 / 256), hle (x / 256 / 256 / 256 / 256 / 256), hle (x / 256 / 256 / 256 / 256 / 256 / 256), hle (x / 256 / 256 / 256 / 256 / 256 / 256 / 256), ?_, ?_⟩
  · simp only [onB, Nat.mul_zero, Nat.add_zero]
  · have q0 : Lib.onesCount x = g3 (g2 (g1 (x % 256))) + Lib.popAux 56 (x / 256) := pop_byte 56 x
    have q1 := pop_byte 48 (x / 256)
    have q2 := pop_byte 40 (x / 256 / 256)
    have q3 := pop_byte 32 (x / 256 / 256 / 256)
    have q4 := pop_byte 24 (x / 256 / 256 / 256 / 256)
    have q5 := pop_byte 16 (x / 256 / 256 / 256 / 256 / 256)
    have q6 := pop_byte 8 (x / 256 / 256 / 256 / 256 / 256 / 256)
    have q7 : Lib.popAux 8 (x / 256 / 256 / 256 / 256 / 256 / 256 / 256) = g3 (g2 (g1 (x / 256 / 256 / 256 / 256 / 256 / 256 / 256 % 256))) := pop_byte 0 (x / 256 / 256 / 256 / 256 / 256 / 256 / 256)
    simp only [Nat.reduceAdd] at q1 q2 q3 q4 q5 q6
    rw [q0, q1, q2, q3, q4, q5, q6, q7]
    simp only [Nat.add_assoc]

/-- The whole of OnesCount64's reckoning. -/
theorem ones_all (x y1 y2 y3 z1 z2 z3 : Nat) (h1 : y1 = ((x / 2) &&& 6148914691236517205) + (x &&& 6148914691236517205)) (h2 : y2 = ((y1 / 4) &&& 3689348814741910323) + (y1 &&& 3689348814741910323)) (h3 : y3 = (y2 / 16 + y2) &&& 1085102592571150095)
    (e1 : z1 = y3 + y3 / 256) (e2 : z2 = z1 + z1 / 65536) (e3 : z3 = z2 + z2 / 4294967296) :
    y1 < 18446744073709551616 ∧ y2 / 16 + y2 < 18446744073709551616 ∧ y2 < 18446744073709551616 ∧ z3 < 9223372036854775808 ∧ z3 % 128 = (mem x).length := by
  have r1 : rep 85 8 = 6148914691236517205 := by decide
  have r2 : rep 51 8 = 3689348814741910323 := by decide
  have r3 : rep 15 8 = 1085102592571150095 := by decide
  have p8 : (256 : Nat) ^ 8 = 18446744073709551616 := by decide
  have hg1 : ∀ d, d < 256 → g1 d < 256 := fun d hd => g1_lt ⟨d, hd⟩
  have hg2 : ∀ d, d < 256 → g2 d < 256 := fun d hd => g2_lt ⟨d, hd⟩
  have hg21 : ∀ d, d < 256 → g2 (g1 d) < 256 := fun d hd => g2_lt ⟨g1 d, g1_lt ⟨d, hd⟩⟩
  rw [← r1, step1] at h1
  rw [← r2, step2, h1, onB_comp hg1] at h2
  have hlow := low_onB 8 x
  rw [← r3, h2, step3 8 _ hlow, onB_comp hg21] at h3
  have l1 := onB_lt hg1 8 x
  have l2 := onB_lt hg21 8 x
  rw [p8, ← h1] at l1
  rw [p8, ← h2] at l2
  have l3 : y2 / 16 + y2 < 18446744073709551616 := by
    have hl := hlow
    rw [← h2] at hl
    obtain ⟨_, _, hl⟩ := hl
    obtain ⟨_, _, hl⟩ := hl
    obtain ⟨_, _, hl⟩ := hl
    obtain ⟨_, _, hl⟩ := hl
    obtain ⟨_, _, hl⟩ := hl
    obtain ⟨_, _, hl⟩ := hl
    obtain ⟨_, _, hl⟩ := hl
    have := hl.1
    omega
  obtain ⟨c0, c1, c2, c3, c4, c5, c6, c7, k0, k1, k2, k3, k4, k5, k6, k7, hz, ho⟩ := pop64 x
  rw [hz] at h3
  have hs := sum8 c0 c1 c2 c3 c4 c5 c6 c7 k0 k1 k2 k3 k4 k5 k6 k7 y3 z1 z2 z3 h3 e1 e2 e3
  refine ⟨l1, l3, l2, hs.1, ?_⟩
  rw [hs.2, ← ho, onesCount_length]

end Go.Proofs.YtjgclehghnmhnaaDoor
