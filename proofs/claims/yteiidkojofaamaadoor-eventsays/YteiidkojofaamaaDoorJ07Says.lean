/- Texts of events, plain. -/
/- Good: the program's. -/
import Derived.Test.YteiidkojofaamaaDoorJ04Says
import Derived.Test.YteiidkojofaamaaDoorJ06Says
namespace Go.Proofs.YteiidkojofaamaaDoor
open Go

/-- A kind's name; nothing, if it is none. -/
def nameL (k : Int) : List UInt8 := if kindB k then nmK k.toNat else []
/-- A number, a blank ahead of it; nothing of 0. -/
def blnk (n : Int) : List UInt8 := if n = 0 then [] else 32 :: Lib.itoa n
def tns (e : Ev) : List Int := [e.ac, e.th, e.va]
def txtJ (e : Ev) (j : Nat) : List UInt8 := nameL e.kd ++ ((tns e).take j).flatMap blnk
def txtE (e : Ev) : List UInt8 := txtJ e 3
theorem txt_zero (e : Ev) : txtJ e 0 = nameL e.kd := by simp [txtJ]
theorem txt_succ {e : Ev} {j : Nat} {n : Int} (h : (tns e)[j]? = some n) : txtJ e (j + 1) = txtJ e j ++ blnk n := by
  unfold txtJ
  rw [List.take_add_one, h, List.flatMap_append, ← List.append_assoc]
  simp
theorem name_len (k : Int) : (nameL k).length ≤ 9 := by
  unfold nameL
  cases hk : kindB k with
  | false => simp
  | true =>
    obtain ⟨n, rfl, h1, h7⟩ := kind_nat hk
    simp only [if_true, Int.toNat_natCast]
    rcases (show n = 1 ∨ n = 2 ∨ n = 3 ∨ n = 4 ∨ n = 5 ∨ n = 6 ∨ n = 7 by omega) with rfl | rfl | rfl | rfl | rfl | rfl | rfl <;> decide
theorem blnk_len {n : Int} (h : -9223372036854775808 ≤ n ∧ n ≤ 9223372036854775807) : (blnk n).length ≤ 22 := by
  unfold blnk
  have := Lib.itoa_length_le n h.1 h.2
  split <;> simp
  omega
theorem tns_rg {e : Ev} (h : RgE e) {n : Int} (hn : n ∈ tns e) : -9223372036854775808 ≤ n ∧ n ≤ 9223372036854775807 := by
  refine h n ?_
  unfold tns at hn
  unfold evI
  simp at hn
  rcases hn with rfl | rfl | rfl <;> simp
theorem blnks_len {l : List Int} (h : ∀ n ∈ l, -9223372036854775808 ≤ n ∧ n ≤ 9223372036854775807) : (l.flatMap blnk).length ≤ 22 * l.length := by
  induction l with
  | nil => simp
  | cons a l ih =>
    have h1 := blnk_len (h a (by simp))
    have h2 := ih (fun n hn => h n (by simp [hn]))
    rw [List.flatMap_cons, List.length_append, List.length_cons]
    omega
theorem txt_len {e : Ev} (h : RgE e) (j : Nat) : (txtJ e j).length ≤ 100 := by
  have h1 := name_len e.kd
  have h2 := blnks_len (l := (tns e).take j) (fun n hn => tns_rg h (List.mem_of_mem_take hn))
  have h3 : ((tns e).take j).length ≤ 3 := by rw [List.length_take]; exact Nat.min_le_right _ _
  unfold txtJ
  rw [List.length_append]
  omega
/-- Is a number so great that it is not printed? -/
def farN (n : Int) : Bool := decide (n < -4611686018427387904) || decide (4611686018427387904 < n)
def farB (e : Ev) : Bool := (tns e).any farN
theorem far_no {e : Ev} (h : farB e = false) {n : Int} (hn : n ∈ tns e) : -4611686018427387904 ≤ n ∧ n ≤ 4611686018427387904 := by
  unfold farB at h
  have := List.any_eq_false.1 h n hn
  unfold farN at this
  simp at this
  omega
theorem sz_bytes (l : List UInt8) : (⟨l.toArray⟩ : ByteArray).size = l.length := by
  show l.toArray.size = _
  simp
end Go.Proofs.YteiidkojofaamaaDoor
namespace Go.Proofs.YteiidkojofaamaaDoor
open Go Go.RowKit

theorem zero11 : (Value.agg #[.int .i64 0, .int .i64 0, .int .i64 0, .int .i64 0, .int .i64 0, .int .i64 0, .int .i64 0, .int .i64 0, .int .i64 0, .int .i64 0, .int .i64 0]) = .agg (cxV z15) := rfl
set_option maxHeartbeats 2000000 in
set_option maxRecDepth 100000 in
theorem good_any (e : Ev) (w : World) (hT : Tab w) : Calls Tryd.prog 8 #[.agg (evA e)] w fun r w' => r = .returned (.bool (goodE e)) ∧ Below w.heap.size w w' := by
  cases hk : kindB e.kd with
  | false =>
    have HK := iskind_any e.kd
    rw [hk] at HK
    rw [good_kind hk]
    clear hk
    unfold evA
    go_enter Tryd.func8, Tryd.ntmps8
    go_wp2_with (go_at_call 28; (with_reducible refine (HK _).mono ?_); rintro e w' ⟨rfl, rfl⟩)
    go_ret
    exact ⟨rfl, by repeat (first | exact Below.refl _ _ | refine bel_al ?_ _)⟩
  | true =>
    have HK := iskind_any e.kd
    rw [hk] at HK
    obtain ⟨k, he, h1, h7⟩ := kind_nat hk
    rw [row_good h1 h7 he]
    have R := (hT.alloc (.cells (evA e) 26)).row k (by omega)
    have t0 : (w.alloc (.cells (evA e) 26)).cell? ⟨0, k * 8, none⟩ = some (.string ⟨(nmK k).toArray⟩) := R 0 _ rfl
    have t1 := R 1 _ rfl
    have t2 := R 2 _ rfl
    have t3 := R 3 _ rfl
    have t4 := R 4 _ rfl
    have t5 := R 5 _ rfl
    have t6 := R 6 _ rfl
    have t7 := R 7 _ rfl
    unfold rowB
    unfold evA at t0 t1 t2 t3 t4 t5 t6 t7 ⊢
    rw [he] at HK t0 t1 t2 t3 t4 t5 t6 t7 ⊢
    have HC := gctx_any e
    unfold cxV at HC
    have HE := eqCx e z15
    unfold cxV at HE
    generalize nmK k = nm at *
    generalize aLo k = a0 at *
    generalize aHi k = a1 at *
    generalize tLo k = u0 at *
    generalize tHi k = u1 at *
    generalize vHi k = v1 at *
    have H1 := holds_any a0 a1 e.ac
    have H2 := holds_any u0 u1 e.th
    have H3 := holds_any 0 v1 e.va
    generalize inB a0 a1 e.ac = x at H1 ⊢
    generalize inB u0 u1 e.th = y at H2 ⊢
    generalize inB 0 v1 e.va = z at H3 ⊢
    have hlt : (k : Int) < 8 := by omega
    have hge : (0 : Int) ≤ (k : Int) := by omega
    clear hk he R
    cases x with
    | false =>
      simp only [Bool.false_and]
      clear H2 H3 HC HE
      go_enter Tryd.func8, Tryd.ntmps8
      go_wp2_with (first | (go_at_call 28; (with_reducible refine (HK _).mono ?_); rintro e w' ⟨rfl, rfl⟩) | (go_at_call 29; first | ((with_reducible refine (H1 _).mono ?_); rintro e w' ⟨rfl, rfl⟩)))
      go_ret
      exact ⟨rfl, by repeat (first | exact Below.refl _ _ | refine bel_al ?_ _)⟩
    | true =>
      cases y with
      | false =>
        simp only [Bool.true_and, Bool.false_and]
        clear H3 HC HE
        go_enter Tryd.func8, Tryd.ntmps8
        go_wp2_with (first | (go_at_call 28; (with_reducible refine (HK _).mono ?_); rintro e w' ⟨rfl, rfl⟩) | (go_at_call 29; first | ((with_reducible refine (H1 _).mono ?_); rintro e w' ⟨rfl, rfl⟩) | ((with_reducible refine (H2 _).mono ?_); rintro e w' ⟨rfl, rfl⟩)))
        go_ret
        exact ⟨rfl, by repeat (first | exact Below.refl _ _ | refine bel_al ?_ _)⟩
      | true =>
        cases z with
        | false =>
          simp only [Bool.true_and, Bool.false_and]
          clear HC HE
          go_enter Tryd.func8, Tryd.ntmps8
          go_wp2_with (first | (go_at_call 28; (with_reducible refine (HK _).mono ?_); rintro e w' ⟨rfl, rfl⟩) | (go_at_call 29; first | ((with_reducible refine (H1 _).mono ?_); rintro e w' ⟨rfl, rfl⟩) | ((with_reducible refine (H2 _).mono ?_); rintro e w' ⟨rfl, rfl⟩) | ((with_reducible refine (H3 _).mono ?_); rintro e w' ⟨rfl, rfl⟩)))
          go_ret
          exact ⟨rfl, by repeat (first | exact Below.refl _ _ | refine bel_al ?_ _)⟩
        | true =>
          cases hc : cxK k with
          | true =>
            simp only [Bool.true_and, if_true]
            rw [hc] at t7
            clear HE hc
            go_enter Tryd.func8, Tryd.ntmps8
            go_wp2_with (first | (go_at_call 28; (with_reducible refine (HK _).mono ?_); rintro e w' ⟨rfl, rfl⟩) | (go_at_call 29; first | ((with_reducible refine (H1 _).mono ?_); rintro e w' ⟨rfl, rfl⟩) | ((with_reducible refine (H2 _).mono ?_); rintro e w' ⟨rfl, rfl⟩) | ((with_reducible refine (H3 _).mono ?_); rintro e w' ⟨rfl, rfl⟩)) | (go_at_call 30; (with_reducible refine (HC _).mono ?_); rintro e w' ⟨rfl, hbc⟩))
            go_ret
            exact ⟨rfl, below2 (by repeat (first | exact Below.refl _ _ | refine bel_al ?_ _)) (by simp; omega) hbc⟩
          | false =>
            simp only [Bool.true_and, if_false, Bool.false_eq_true]
            rw [hc] at t7
            rw [show cxI z15 = zC from rfl] at HE
            dsimp only [z15] at HE
            generalize decide (cxI e = zC) = q at HE ⊢
            clear HC hc
            go_enter Tryd.func8, Tryd.ntmps8
            go_wp2_with (first | (go_at_call 28; (with_reducible refine (HK _).mono ?_); rintro e w' ⟨rfl, rfl⟩) | (go_at_call 29; first | ((with_reducible refine (H1 _).mono ?_); rintro e w' ⟨rfl, rfl⟩) | ((with_reducible refine (H2 _).mono ?_); rintro e w' ⟨rfl, rfl⟩) | ((with_reducible refine (H3 _).mono ?_); rintro e w' ⟨rfl, rfl⟩)))
            go_ret
            exact ⟨rfl, by repeat (first | exact Below.refl _ _ | refine bel_al ?_ _)⟩
end Go.Proofs.YteiidkojofaamaaDoor
