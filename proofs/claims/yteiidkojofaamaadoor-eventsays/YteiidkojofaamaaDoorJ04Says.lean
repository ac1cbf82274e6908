/- The reference's Digits, of numbers up to 2^62. -/
/- Events, plain: their numbers, which may be, rows of them, how many go into one upcall. -/
import Derived.Test.YteiidkojofaamaaDoorJ03Says
import Derived.Lib.ItoaLen
import Derived.Test.YteiidkojofaamaaDoorJ01Says
namespace Go.Proofs.YteiidkojofaamaaDoor
open Go.RowKit

theorem dec_small {u : Nat} (h : u < 10) : Lib.decDigits u = [UInt8.ofNat (48 + u)] := by rw [Lib.decDigits, dif_pos h]
theorem dec_big {u : Nat} (h : ¬ u < 10) : Lib.decDigits u = Lib.decDigits (u / 10) ++ Lib.decDigits (u % 10) := by
  rw [Lib.decDigits, dif_neg h, dec_small (u := u % 10) (by omega)]
theorem itoa_nat (u : Nat) : Lib.itoa (u : Int) = Lib.decDigits u := by
  unfold Lib.itoa
  rw [if_neg (by omega)]
  simp
theorem itoa_neg {v : Int} (h : v < 0) : Lib.itoa v = 45 :: Lib.itoa (-v) := by
  obtain ⟨u, hu⟩ : ∃ u : Nat, -v = (u : Int) := ⟨(-v).toNat, by omega⟩
  rw [hu, itoa_nat]
  unfold Lib.itoa
  rw [if_pos h]
  have : v.natAbs = u := by omega
  rw [this]
theorem digit_cut (w : World) : ∀ u : Nat, u < 10 → (Instr.slice 9 (.string ⟨#[48, 49, 50, 51, 52, 53, 54, 55, 56, 57]⟩) (some (.int .i64 (u : Int))) (some (.int .i64 ((u : Int) + 1))) none).run Tryd.prog w = .ok (.string ⟨#[UInt8.ofNat (48 + u)]⟩) w
  | 0, _ => by kernel_rfl
  | 1, _ => by kernel_rfl
  | 2, _ => by kernel_rfl
  | 3, _ => by kernel_rfl
  | 4, _ => by kernel_rfl
  | 5, _ => by kernel_rfl
  | 6, _ => by kernel_rfl
  | 7, _ => by kernel_rfl
  | 8, _ => by kernel_rfl
  | 9, _ => by kernel_rfl
  | _ + 10, h => absurd h (by omega)
theorem dec_len (u : Nat) (h : u < 18446744073709551616) : (⟨(Lib.decDigits u).toArray⟩ : ByteArray).size ≤ 20 := by
  show (Lib.decDigits u).toArray.size ≤ 20
  rw [List.size_toArray, Lib.decDigits_length]
  exact Lib.nDigits_le20 u h
theorem cat_bytes (a b : List UInt8) : (⟨a.toArray⟩ : ByteArray) ++ ⟨b.toArray⟩ = ⟨(a ++ b).toArray⟩ := by
  apply ByteArray.ext
  simp

set_option maxRecDepth 100000 in
set_option maxHeartbeats 1000000 in
theorem rdig_nat : ∀ (f u : Nat), u ≤ f → u ≤ 4611686018427387904 → ∀ w : World, Calls Tryd.prog 44 #[.int .i64 (u : Int)] w fun e w' => e = .returned (.string ⟨(Lib.decDigits u).toArray⟩) ∧ w' = w
  | f, u, hf, hb, w => by
    by_cases hu : u < 10
    · rw [dec_small hu]
      have h1 : (u : Int) < 10 := by omega
      have h0 : ¬ (u : Int) < 0 := by omega
      have hc := digit_cut w u hu
      go_enter Tryd.func44, Tryd.ntmps44
      go_wp2_with fail
      go_ret
      exact ⟨rfl, rfl⟩
    · match f, hf with
      | 0, hf => omega
      | f + 1, hf =>
        have ih1 := rdig_nat f (u / 10) (by omega) (by omega)
        have ih2 := rdig_nat f (u % 10) (by omega) (by omega)
        rw [dec_big hu]
        have h0 : ¬ (u : Int) < 0 := by omega
        have h1 : ¬ (u : Int) < 10 := by omega
        rw [show ((u / 10 : Nat) : Int) = (u : Int) / 10 by omega] at ih1
        rw [show ((u % 10 : Nat) : Int) = (u : Int) % 10 by omega] at ih2
        rw [← cat_bytes]
        have z1 := dec_len (u / 10) (by omega)
        have z2 := dec_len (u % 10) (by omega)
        generalize (⟨(Lib.decDigits (u / 10)).toArray⟩ : ByteArray) = s1 at *
        generalize (⟨(Lib.decDigits (u % 10)).toArray⟩ : ByteArray) = s2 at *
        have hsz : ¬ 9223372036854775807 < s1.size + s2.size := by omega
        go_enter Tryd.func44, Tryd.ntmps44
        go_wp2_with (go_at_call 44; first
          | ((with_reducible refine (ih1 _).mono ?_); rintro e w' ⟨rfl, rfl⟩)
          | ((with_reducible refine (ih2 _).mono ?_); rintro e w' ⟨rfl, rfl⟩))
        go_ret
        exact ⟨rfl, rfl⟩

theorem rdig_any {v : Int} (h1 : -4611686018427387904 ≤ v) (h2 : v ≤ 4611686018427387904) (w : World) : Calls Tryd.prog 44 #[.int .i64 v] w fun e w' => e = .returned (.string ⟨(Lib.itoa v).toArray⟩) ∧ w' = w := by
  by_cases hv : v < 0
  · obtain ⟨u, hu⟩ : ∃ u : Nat, -v = (u : Int) := ⟨(-v).toNat, by omega⟩
    have ih := rdig_nat u u (Nat.le_refl _) (by omega)
    rw [itoa_neg hv, hu, itoa_nat, show (45 :: Lib.decDigits u) = [45] ++ Lib.decDigits u from rfl, ← cat_bytes]
    have z1 := dec_len u (by omega)
    generalize (⟨(Lib.decDigits u).toArray⟩ : ByteArray) = s1 at *
    have hsz : ¬ 9223372036854775807 < 1 + s1.size := by omega
    go_enter Tryd.func44, Tryd.ntmps44
    go_wp2_with (go_at_call 44; (with_reducible refine (ih _).mono ?_); rintro e w' ⟨rfl, rfl⟩)
    go_ret
    exact ⟨rfl, rfl⟩
  · obtain ⟨u, rfl⟩ : ∃ u : Nat, v = (u : Int) := ⟨v.toNat, by omega⟩
    rw [itoa_nat]
    exact rdig_nat u u (Nat.le_refl _) (by omega) w

end Go.Proofs.YteiidkojofaamaaDoor
namespace Go.Proofs.YteiidkojofaamaaDoor
open Go

/-- An event. -/
structure Ev where
  kd : Int
  ac : Int
  th : Int
  va : Int
  pg : Int
  pc : Int
  rs : Nat → Int
  dp : Int
def z15 : Ev := ⟨0, 0, 0, 0, 0, 0, fun _ => 0, 0⟩
/-- Its numbers, in their order; those of its context. -/
def evI (e : Ev) : List Int := [e.kd, e.ac, e.th, e.va, e.pg, e.pc, e.rs 0, e.rs 1, e.rs 2, e.rs 3, e.rs 4, e.rs 5, e.rs 6, e.rs 7, e.dp]
def cxI (e : Ev) : List Int := [e.pg, e.pc, e.rs 0, e.rs 1, e.rs 2, e.rs 3, e.rs 4, e.rs 5, e.rs 6, e.rs 7, e.dp]
def eqE (a b : Ev) : Bool := decide (evI a = evI b)
/-- All are machine's numbers. -/
def RgE (e : Ev) : Prop := ∀ x ∈ evI e, -9223372036854775808 ≤ x ∧ x ≤ 9223372036854775807
def ev (xs : List Ev) (j : Nat) : Ev := xs.getD j z15
theorem ev_get {xs : List Ev} {j : Nat} (h : j < xs.length) : xs[j]? = some (ev xs j) := by
  unfold ev
  rw [List.getD_eq_getElem?_getD, List.getElem?_eq_getElem h]
  rfl
theorem ev_of {xs : List Ev} {j : Nat} {e : Ev} (h : xs[j]? = some e) : ev xs j = e := by
  unfold ev
  rw [List.getD_eq_getElem?_getD, h]
  rfl
theorem ev_mem {xs : List Ev} {j : Nat} (h : j < xs.length) : ev xs j ∈ xs := List.mem_of_getElem? (ev_get h)
theorem ev_take {xs : List Ev} {j k : Nat} (h : j < k) : ev (xs.take k) j = ev xs j := by
  unfold ev
  rw [List.getD_eq_getElem?_getD, List.getD_eq_getElem?_getD, List.getElem?_take_of_lt h]
theorem ev_drop (xs : List Ev) (j k : Nat) : ev (xs.drop k) j = ev xs (k + j) := by
  unfold ev
  rw [List.getD_eq_getElem?_getD, List.getD_eq_getElem?_getD, List.getElem?_drop]
/-- Are two rows alike? -/
def sameB (xs ys : List Ev) : Bool := decide (xs.map evI = ys.map evI)
theorem sameB_refl (xs : List Ev) : sameB xs xs = true := by simp [sameB]
theorem sameB_len {xs ys : List Ev} (h : xs.length ≠ ys.length) : sameB xs ys = false := by
  unfold sameB
  refine decide_eq_false fun e => h ?_
  have := congrArg List.length e
  simpa using this
theorem sameB_at {xs ys : List Ev} {j : Nat} (h : j < xs.length) (hy : j < ys.length) (he : eqE (ev xs j) (ev ys j) = false) : sameB xs ys = false := by
  unfold sameB
  refine decide_eq_false fun e => ?_
  have := congrArg (fun l => l[j]?) e
  simp only [List.getElem?_map, ev_get h, ev_get hy, Option.map_some, Option.some.injEq] at this
  unfold eqE at he
  rw [decide_eq_true this] at he
  cases he
theorem sameB_all {xs ys : List Ev} (hl : xs.length = ys.length) (h : ∀ j, j < xs.length → eqE (ev xs j) (ev ys j) = true) : sameB xs ys = true := by
  unfold sameB
  refine decide_eq_true (List.ext_getElem? fun j => ?_)
  rw [List.getElem?_map, List.getElem?_map]
  by_cases hj : j < xs.length
  · rw [ev_get hj, ev_get (by omega : j < ys.length)]
    simp only [Option.map_some, Option.some.injEq]
    exact of_decide_eq_true (h j hj)
  · rw [List.getElem?_eq_none (by omega), List.getElem?_eq_none (by omega)]

/-- Is it a Preempted one? -/
def preB (e : Ev) : Bool := decide (e.kd = 2)
/-- The first k of xs go into one upcall, of m at most. -/
structure Cnt (m : Nat) (xs : List Ev) (k : Nat) : Prop where
  len : k ≤ xs.length
  most : k ≤ m
  pre : ∀ j, j + 1 < k → preB (ev xs j) = false
  stop : k = xs.length ∨ k = m ∨ (0 < k ∧ preB (ev xs (k - 1)) = true)
theorem Cnt.uniq {m : Nat} {xs : List Ev} {k l : Nat} (h : Cnt m xs k) (g : Cnt m xs l) (hk : 0 < xs.length → 0 < k) (hl : 0 < xs.length → 0 < l) : k = l := by
  have key : ∀ {a b : Nat}, Cnt m xs a → Cnt m xs b → (0 < xs.length → 0 < a) → ¬ a < b := fun {a b} ha hb h0 hlt => by
    have h1 := hb.len
    have h2 := hb.most
    rcases ha.stop with h | h | ⟨h3, h4⟩
    · omega
    · omega
    · have := hb.pre (a - 1) (by omega)
      rw [this] at h4
      cases h4
  have k1 := key h g hk
  have k2 := key g h hl
  omega

/-- What may be. -/
def kindB (k : Int) : Bool := decide (1 ≤ k) && decide (k ≤ 7)
def thrB (k : Int) : Bool := decide (2 ≤ k ∧ k ≤ 4)
def valB (k : Int) : Bool := decide (4 ≤ k ∧ k ≤ 5)
def inB (l m n : Int) : Bool := decide (l ≤ n) && decide (n ≤ m)
def actB (k n : Int) : Bool := if k = 5 then inB 0 0 n else inB 1 1099511627776 n
def thB (k n : Int) : Bool := if thrB k then inB 1 1099511627776 n else inB 0 0 n
def vaB (k n : Int) : Bool := if valB k then inB 0 1000 n else inB 0 0 n
def zC : List Int := [0, 0, 0, 0, 0, 0, 0, 0, 0, 0, 0]
def cxB (e : Ev) : Bool := if e.kd = 2 then inB 0 7 e.pg && (inB 0 64 e.pc && inB 0 8 e.dp) else decide (cxI e = zC)
def goodE (e : Ev) : Bool := kindB e.kd && (actB e.kd e.ac && (thB e.kd e.th && (vaB e.kd e.va && cxB e)))

/-- Its bytes. -/
def regL (e : Ev) : List UInt8 := intsF [e.rs 0, e.rs 1, e.rs 2, e.rs 3, e.rs 4, e.rs 5, e.rs 6, e.rs 7]
def numI (n : Int) : List UInt8 := numL n.toNat
def thL (e : Ev) : List UInt8 := if thrB e.kd then numI e.th else []
def vaL (e : Ev) : List UInt8 := if valB e.kd then numI e.va else []
def cxL (e : Ev) : List UInt8 := if e.kd = 2 then numI e.pg ++ (numI e.pc ++ (numI e.dp ++ regL e)) else []
def byt (e : Ev) : List UInt8 := UInt8.ofNat e.kd.toNat :: (numI e.ac ++ (thL e ++ (vaL e ++ cxL e)))
def bytE (e : Ev) : List UInt8 := if goodE e then byt e else []
def allE (xs : List Ev) : List UInt8 := if xs.length ≤ 1024 ∧ xs.all goodE = true then numL xs.length ++ xs.flatMap byt else []
end Go.Proofs.YteiidkojofaamaaDoor
