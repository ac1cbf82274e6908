/- Lists of tickets: is there an i-th, and may all be; their sums. -/
/- Sums over lists of tickets; the most picks up to a thread's next one. -/
/- Whether shares are near, as it is told. -/
import Derived.Test.YtlnfabjgcecebaaStMem
import Derived.Test.YtlnfabjgcecebaaStFns
namespace Go.Proofs.Ytlnfabjgcecebaa.Str
open Go.RowKit Go.Proofs.Ytlnfabjgcecebaa.Big

/-- A number by its place. -/
def ix (xs : List Int) (i : Nat) : Int := xs.getD i 0
theorem ix_get {xs : List Int} {i : Nat} (h : i < xs.length) : xs[i]? = some (ix xs i) := by
  unfold ix
  rw [List.getD_eq_getElem?_getD, List.getElem?_eq_getElem h, Option.getD_some]
theorem ix_mem {xs : List Int} {i : Nat} (h : i < xs.length) : ix xs i ∈ xs := List.mem_of_getElem? (ix_get h)
/-- Ints in memory. -/
def IX (w : World) (a : Option Addr) (xs : List Int) : Prop := ∀ j, j < xs.length → ∃ b o, a = some ⟨b, o, none⟩ ∧ w.cell? ⟨b, o + j, none⟩ = some (.int .i64 (ix xs j))
theorem IX.below {w w' : World} {a : Option Addr} {xs : List Int} (h : IX w a xs) (hb : Below w.heap.size w w') : IX w' a xs := fun j hj => by
  obtain ⟨b, o, e, h0⟩ := h j hj
  exact ⟨b, o, e, cell_on hb h0⟩

/-- May all be. -/
def allB (xs : List Int) : Bool := xs.all goodB
def oneB (xs : List Int) (i : Int) : Bool := ((decide (xs.length ≤ 32) && decide (0 ≤ i)) && decide (i < (xs.length : Int))) && allB xs
theorem all_ix {xs : List Int} (h : allB xs = true) {j : Nat} (hj : j < xs.length) : goodB (ix xs j) = true := List.all_eq_true.1 h _ (ix_mem hj)
theorem all_of {xs : List Int} (h : ∀ j, j < xs.length → goodB (ix xs j) = true) : allB xs = true := by
  refine List.all_eq_true.2 (fun x hx => ?_)
  obtain ⟨j, hj, rfl⟩ := List.mem_iff_getElem.1 hx
  have := h j hj
  unfold ix at this
  rw [List.getD_eq_getElem?_getD, List.getElem?_eq_getElem hj, Option.getD_some] at this
  exact this
theorem not_all {xs : List Int} {j : Nat} (hj : j < xs.length) (h : goodB (ix xs j) = false) : allB xs = false := by
  cases e : allB xs
  · rfl
  · rw [all_ix e hj] at h
    cases h
theorem one_iff {xs : List Int} {i : Int} : oneB xs i = true ↔ (xs.length ≤ 32 ∧ 0 ≤ i ∧ i < (xs.length : Int)) ∧ allB xs = true := by
  unfold oneB
  simp only [Bool.and_eq_true, decide_eq_true_eq, and_assoc]

section
variable {w : World} {xa : Option Addr} {xc : Nat} {xs : List Int}

end
end Go.Proofs.Ytlnfabjgcecebaa.Str
namespace Go.Proofs.Ytlnfabjgcecebaa.Str
open Go.RowKit Go.Proofs.Ytlnfabjgcecebaa.Big

/-- What the first j are worth, added. -/
def sumG (g : Int → Int) (xs : List Int) : Nat → Int
  | 0 => 0
  | j + 1 => sumG g xs j + g (ix xs j)
theorem sum_bd {g : Int → Int} {xs : List Int} {K : Int} (h : ∀ j, j < xs.length → 0 ≤ g (ix xs j) ∧ g (ix xs j) ≤ K) : ∀ j : Nat, j ≤ xs.length → 0 ≤ sumG g xs j ∧ sumG g xs j ≤ (j : Int) * K
  | 0, _ => by simp [sumG]
  | j + 1, hj => by
    have ih := sum_bd h j (by omega)
    have e := h j (by omega)
    have k : ((j + 1 : Nat) : Int) * K = (j : Int) * K + K := by rw [Int.natCast_add, Int.add_mul]; simp
    rw [k]
    show 0 ≤ sumG g xs j + g (ix xs j) ∧ sumG g xs j + g (ix xs j) ≤ _
    omega
/-- How many picks one more thread may get, at the most. -/
def oftI (own t : Int) : Int := 2 + own / strI t
def bndI (xs : List Int) (i : Int) : Int := if oneB xs i = true then sumG (oftI (strI (ix xs i.toNat))) xs xs.length else 0
theorem oft_bd {own t : Int} (ho0 : 0 ≤ own) (ho1 : own ≤ 1099511627776) (ht : goodB t = true) : 0 ≤ own / strI t ∧ own / strI t ≤ 65536 := by
  have hs := str_pos ht
  refine ⟨Int.ediv_nonneg ho0 (by omega), ?_⟩
  have : own / strI t < 65537 := by
    rw [Int.ediv_lt_iff_lt_mul (by omega)]
    omega
  omega

section
variable {w : World} {xa : Option Addr} {xc : Nat} {xs : List Int}

end
end Go.Proofs.Ytlnfabjgcecebaa.Str
namespace Go.Proofs.Ytlnfabjgcecebaa.Str
open Go.RowKit Go.Proofs.Ytlnfabjgcecebaa.Big

theorem within_no {n t m u k : Int} (h : (goodB t && goodB u && decide (0 ≤ k) && decide (k ≤ 64)) = false) : withB n t m u k = false := by unfold withB; rw [h]; rfl
theorem within_yes {n t m u k : Int} (h : (goodB t && goodB u && decide (0 ≤ k) && decide (k ≤ 64)) = true) : withB n t m u k = decide (absI (n * u - m * t) ≤ (k + 1) * (t + u)) := by unfold withB; rw [h]; rfl

theorem rwithin_any (n t m u k : Int) (w : World) (hn0 : -9223372036854775808 ≤ n) (hn1 : n ≤ 9223372036854775807) (hm0 : -9223372036854775808 ≤ m) (hm1 : m ≤ 9223372036854775807) :
    Calls Try.prog 19 #[.int .i64 n, .int .i64 t, .int .i64 m, .int .i64 u, .int .i64 k] w fun e w' => e = .returned (.bool (withB n t m u k)) ∧ Below w.heap.size w w' := by
  have G1 := fun W => rright_any t W
  have G2 := fun W => rright_any u W
  by_cases h3 : k < 0
  · rw [within_no (by simp; omega)]
    go_enter Try.func19, Try.ntmps19
    go_wp2_with fail
    go_ret
    exact ⟨rfl, Below.refl _ _⟩
  have h3' : decide (k < 0) = false := by simp; omega
  by_cases h4 : 64 < k
  · rw [within_no (by simp; omega)]
    go_enter Try.func19, Try.ntmps19
    go_wp2_with fail
    go_ret
    exact ⟨rfl, Below.refl _ _⟩
  cases h1 : goodB t
  · rw [within_no (by rw [h1]; rfl)]
    rw [h1] at G1
    go_enter Try.func19, Try.ntmps19
    go_wp2_with (first | (go_at_call 53; (with_reducible refine (G1 _).mono ?_); rintro e w1 ⟨rfl, rfl⟩))
    go_ret
    exact ⟨rfl, Below.refl _ _⟩
  cases h2 : goodB u
  · rw [within_no (by rw [h1, h2]; rfl)]
    rw [h1] at G1
    rw [h2] at G2
    go_enter Try.func19, Try.ntmps19
    go_wp2_with (first
      | (go_at_call 53; (with_reducible refine (G1 _).mono ?_); rintro e w1 ⟨rfl, rfl⟩)
      | (go_at_call 53; (with_reducible refine (G2 _).mono ?_); rintro e w1 ⟨rfl, rfl⟩))
    go_ret
    exact ⟨rfl, Below.refl _ _⟩
  have hT := good_iff.1 h1
  have hU := good_iff.1 h2
  have N := fun W => rnear_any n t m u (k + 1) (t + u) W hn0 hn1 (by omega) (by omega) hm0 hm1 (by omega) (by omega) (by omega) (by omega) (by omega) (by omega)
  rw [within_yes (by rw [h1, h2]; simp; omega)]
  generalize decide (absI (n * u - m * t) ≤ (k + 1) * (t + u)) = z at *
  rw [h1] at G1
  rw [h2] at G2
  obtain ⟨hT0, hT1⟩ := hT
  obtain ⟨hU0, hU1⟩ := hU
  have h5 : 0 ≤ k := by omega
  clear h1 h2
  go_enter Try.func19, Try.ntmps19
  go_wp2_with (first
    | (go_at_call 53; (with_reducible refine (G1 _).mono ?_); rintro e w1 ⟨rfl, rfl⟩)
    | (go_at_call 53; (with_reducible refine (G2 _).mono ?_); rintro e w1 ⟨rfl, rfl⟩)
    | (go_at_call 54; (with_reducible refine (N _).mono ?_); rintro e w2 ⟨rfl, b2⟩))
  go_ret
  exact ⟨rfl, b2⟩
end Go.Proofs.Ytlnfabjgcecebaa.Str
