/- Good and Whole: the program's, of any program. -/
/- Programs as texts, plain. -/
import Derived.Test.YtbcdjpafdmgbmaaGreatDoorJ05BackT
import Derived.BigQuiet
import Derived.Test.YtbcdjpafdmgbmaaGreatDoorJ02BackT
import Derived.Lib.ItoaNum
namespace Go.Proofs.YtbcdjpafdmgbmaaGreatDoor
open Go.RowKit

set_option maxHeartbeats 1000000 in
theorem good_any {ps : List Ins} {a : Option Addr} (c : Nat) (i : Int) {w : World} (hp : PV w a ps) (hT : Tab w) :
    Calls Tryz.prog 16 #[.slice a ps.length c, .int .i64 i] w fun e w' => e = .returned (.bool (goodAt ps i)) ∧ Below w.heap.size w w' := by
  by_cases h0 : i < 0
  · have e : goodAt ps i = false := by unfold goodAt; simp; omega
    rw [e]
    clear e
    generalize ps.length = n
    go_enter Tryz.func16, Tryz.ntmps16
    go_wp2_with fail
    refine bodyPost_ret (results_c1 rfl _ _ (w.heap.size + 1) (.bool false) rfl (by simp [go_sem]) (Tryz.isAgg4 _)) rfl ⟨rfl, ?_⟩
    exact ((Below.refl _ w).alloc (Nat.le_refl _) _).alloc (by simp) _
  · obtain ⟨k, rfl⟩ : ∃ k : Nat, i = (k : Int) := ⟨i.toNat, by omega⟩
    by_cases hk : k < ps.length
    · rw [goodAt_nat hk]
      cases ho : opB (ins ps k).1 with
      | true => exact callsIn_wide.1 (good_in ps a ps.length c k w rfl hp hk ho hT)
      | false =>
        have e : goodB ps.length (ins ps k) = false := by unfold goodB; rw [ho]; rfl
        rw [e]
        obtain ⟨b, o, rfl, c0, _, _, _⟩ := hp k hk
        have HO := isop_any (ins ps k).1
        rw [ho] at HO
        have hlt : (k : Int) < (ps.length : Int) := by omega
        have h1 : (0 : Int) ≤ (k : Int) := by omega
        have B1 : Below w.heap.size w ((w.alloc (.cells #[.slice (some ⟨b, o, none⟩) ps.length c] 23)).alloc (.cells #[.bool false] 4)) := ((Below.refl _ w).alloc (Nat.le_refl _) _).alloc (by simp) _
        have k0 := cell_on B1 c0
        clear e hp ho c0 B1 h0 hk
        generalize (ins ps k).1 = op at *
        generalize ps.length = n at *
        go_enter Tryz.func16, Tryz.ntmps16
        go_wp2_with (go_at_call 36; (with_reducible refine (HO _).mono ?_); rintro e w' ⟨rfl, rfl⟩)
        refine bodyPost_ret (results_c1 rfl _ _ (w.heap.size + 1) (.bool false) rfl (by simp [go_sem]) (Tryz.isAgg4 _)) rfl ⟨rfl, ?_⟩
        exact ((Below.refl _ w).alloc (Nat.le_refl _) _).alloc (by simp) _
    · have e : goodAt ps (k : Int) = false := by
        unfold goodAt
        have h1 : ¬ ((k : Int) < (ps.length : Int)) := by omega
        simp [h1]
      rw [e]
      have h1 : (0 : Int) ≤ (k : Int) := by omega
      have h2 : (ps.length : Int) ≤ (k : Int) := by omega
      clear e hp h0 hk
      generalize (k : Int) = z at *
      generalize ps.length = n at *
      go_enter Tryz.func16, Tryz.ntmps16
      go_wp2_with fail
      refine bodyPost_ret (results_c1 rfl _ _ (w.heap.size + 1) (.bool false) rfl (by simp [go_sem]) (Tryz.isAgg4 _)) rfl ⟨rfl, ?_⟩
      exact ((Below.refl _ w).alloc (Nat.le_refl _) _).alloc (by simp) _

theorem all_good {ps : List Ins} {i : Nat} (h : ∀ j, j < i → goodB ps.length (ins ps j) = true) (hg : goodB ps.length (ins ps i) = true) : ∀ j, j < i + 1 → goodB ps.length (ins ps j) = true := fun j hj => by
  by_cases e : j = i
  · rw [e]; exact hg
  · exact h j (by omega)
theorem whole_not {ps : List Ins} {i : Nat} (hi : i < ps.length) (h : goodB ps.length (ins ps i) = false) : wholeB ps = false := by
  cases hw : wholeB ps with
  | false => rfl
  | true =>
    have := (wholeB_iff.1 hw).2 i hi
    rw [h] at this
    cases this

set_option maxHeartbeats 1000000 in
theorem whole_any {ps : List Ins} {a : Option Addr} (c : Nat) {w : World} (hp : PV w a ps) (hT : Tab w) :
    Calls Tryz.prog 7 #[.slice a ps.length c] w fun e w' => e = .returned (.bool (wholeB ps)) ∧ Below w.heap.size w w' := by
  by_cases h64 : ps.length ≤ 64
  · have HG : ∀ (i : Nat) W, Below w.heap.size w W → Calls Tryz.prog 16 #[.slice a ps.length c, .int .i64 (i : Int)] W fun e w' => e = .returned (.bool (goodAt ps i)) ∧ Below W.heap.size W w' := fun i W hb => good_any c i (hp.below hb) (hT.on hb)
    obtain ⟨W, hW⟩ : ∃ W, wholeB ps = W := ⟨_, rfl⟩
    have HW : Hid (wholeB ps = W) := Hid.mk hW
    rw [hW]
    clear hW
    have h6 : (ps.length : Int) ≤ 64 := by omega
    go_enter Tryz.func7, Tryz.ntmps7
    go_wp2_with fail
    go_loopw [9, 3] (fun p _ wr => ∃ i : Nat, i ≤ ps.length ∧ p = .int .i64 i ∧ Hid (∀ j, j < i → goodB ps.length (ins ps j) = true) ∧ Below w.heap.size w wr) (fun p _ _ => 64 - (intOf p).toNat)
    case atStart => exact ⟨0, by omega, rfl, Hid.mk (fun j hj => by omega), Below.refl _ _⟩
    case round =>
      obtain ⟨i, hi, rfl, hall, hb⟩ := hrel
      by_cases hlt : i < ps.length
      · have HC := HG i wr hb
        rw [goodAt_nat hlt] at HC
        have hlt' : (i : Int) < (ps.length : Int) := by omega
        cases hg : goodB ps.length (ins ps i) with
        | true =>
          rw [hg] at HC
          have hall2 := Hid.mk (all_good hall.out hg)
          clear hg hall
          go_wp2_with (go_at_call 16; (with_reducible refine HC.mono ?_); rintro e w' ⟨rfl, hb1⟩)
          go_roundw
          case rel => exact ⟨i + 1, by omega, by simp, hall2, hb.trans (hb1.mono hb.size)⟩
          case measure =>
            simp [intOf]
            omega
        | false =>
          rw [hg] at HC
          have hw := whole_not hlt hg
          rw [HW.out] at hw
          subst hw
          clear hg hall
          go_wp2_with (go_at_call 16; (with_reducible refine HC.mono ?_); rintro e w' ⟨rfl, hb1⟩)
          go_ret
          exact ⟨rfl, hb.trans (hb1.mono hb.size)⟩
      · obtain rfl : i = ps.length := by omega
        have hw : wholeB ps = true := wholeB_iff.2 ⟨h64, hall.out⟩
        rw [HW.out] at hw
        subst hw
        clear hall
        go_wp2_with fail
        go_ret
        exact ⟨rfl, hb⟩
  · have hw : wholeB ps = false := by
      unfold wholeB
      simp [h64]
    rw [hw]
    have h6 : (64 : Int) < (ps.length : Int) := by omega
    go_enter Tryz.func7, Tryz.ntmps7
    go_wp2_with fail
    go_ret
    exact ⟨rfl, Below.refl _ _⟩

theorem neqI (W : World) {p q r s p2 q2 r2 s2 : Int} (h : p = p2 → q = q2 → r = r2 → s = s2 → False) : (binOp .neq 37 (.agg #[.int .i64 p, .int .i64 q, .int .i64 r, .int .i64 s]) (.agg #[.int .i64 p2, .int .i64 q2, .int .i64 r2, .int .i64 s2])).run Tryz.prog W = .ok (.bool true) W := by
  have u3 := Tryz.underlying3
  have a3 := Tryz.isAgg3
  have z3 := Tryz.sizeOf3
  have hS : Tryz.prog.underlying 37 = some (.struct (Tryz.prog.fieldsOf 37)) := by kernel_rfl
  have hp : Tryz.prog.stoodInHeld 37 = false := by kernel_rfl
  have key : (Op.equalIn 10000 37 (.agg #[.int .i64 p, .int .i64 q, .int .i64 r, .int .i64 s]) (.agg #[.int .i64 p2, .int .i64 q2, .int .i64 r2, .int .i64 s2])).run Tryz.prog W = .ok false W := by
    rw [show (10000 : Nat) = 9999 + 1 from rfl, run_equalIn_agg W 9999 37 _ _ hS hp]
    simp only [Program.fieldsOf, Tryz.underlying37]
    go_simp
    by_cases h1 : p = p2
    · by_cases h2 : q = q2
      · by_cases h3 : r = r2
        · by_cases h4 : s = s2
          · exact absurd (h h1 h2 h3 h4) id
          · simp [h1, h2, h3, h4]
        · simp [h1, h2, h3]
      · simp [h1, h2]
    · simp [h1]
  rw [run_neq_struct, key]
  rfl

section
variable {w : World} {xa ya : Option Addr} {xc yc : Nat} {xs ys : List Ins}
set_option maxHeartbeats 1000000 in
theorem equal_any (hx : PV w xa xs) (hy : PV w ya ys) (hn : xs.length ≤ 50000) :
    Calls Tryz.prog 27 #[.slice xa xs.length xc, .slice ya ys.length yc] w fun e w' => e = .returned (.bool (decide (xs = ys))) ∧ Below w.heap.size w w' := by
  by_cases hl : xs.length = ys.length
  · have hl1 : Hid (xs.length = ys.length) := hl
    have hbe : ((xs.length : Int) != (ys.length : Int)) = false := by simp; omega
    clear hl
    go_enter Tryz.func27, Tryz.ntmps27
    go_wp2_with fail
    go_loopw [13, 5] (fun v _ wr => ∃ j : Nat, j ≤ xs.length ∧ v = .int .i64 j ∧ Hid (∀ i, i < j → ins xs i = ins ys i) ∧ Below w.heap.size w wr) (fun v _ _ => 50000 - (intOf v).toNat)
    case atStart => exact ⟨0, Nat.zero_le _, rfl, Hid.mk (fun i hi => by omega), Below.refl _ _⟩
    case round =>
      obtain ⟨j, hj, rfl, hall, hb⟩ := hrel
      by_cases hlt : j < xs.length
      · have hlt2 : j < ys.length := by rw [← hl1.out]; exact hlt
        obtain ⟨b, o, rfl, c0, c1, c2, c3⟩ := hx.below hb j hlt
        obtain ⟨b2, o2, rfl, d0, d1, d2, d3⟩ := hy.below hb j hlt2
        have hlt' : (j : Int) < (xs.length : Int) := by omega
        have hlt2' : (j : Int) < (ys.length : Int) := by omega
        by_cases he : ins xs j = ins ys j
        · have hall2 : ∀ i, i < j + 1 → ins xs i = ins ys i := fun i hi => by
            by_cases h : i = j
            · rw [h]; exact he
            · exact hall.out i (by omega)
          rw [← he] at d0 d1 d2 d3
          clear he hall hbe
          have HALL : Hid (∀ i, i < j + 1 → ins xs i = ins ys i) := hall2
          clear hall2
          generalize (ins xs j).1 = p at *
          generalize (ins xs j).2.1 = q at *
          generalize (ins xs j).2.2.1 = r at *
          generalize (ins xs j).2.2.2 = s at *
          go_wp2_with fail
          go_quiet (fail)
          go_wp2_with fail
          go_roundw
          case rel => exact ⟨j + 1, by omega, by simp, HALL, below_drewN hb _⟩
          case measure =>
            simp [intOf]
            omega
        · have hne : Hid (decide (xs = ys) = false) := decide_eq_false (fun h => he (by rw [h]))
          have he2 : (ins xs j).1 = (ins ys j).1 → (ins xs j).2.1 = (ins ys j).2.1 → (ins xs j).2.2.1 = (ins ys j).2.2.1 → (ins xs j).2.2.2 = (ins ys j).2.2.2 → False := fun h1 h2 h3 h4 => he (Prod.ext h1 (Prod.ext h2 (Prod.ext h3 h4)))
          clear he hall hbe
          generalize (ins xs j).1 = p at *
          generalize (ins xs j).2.1 = q at *
          generalize (ins xs j).2.2.1 = r at *
          generalize (ins xs j).2.2.2 = s at *
          generalize (ins ys j).1 = p2 at *
          generalize (ins ys j).2.1 = q2 at *
          generalize (ins ys j).2.2.1 = r2 at *
          generalize (ins ys j).2.2.2 = s2 at *
          have hbin : ∀ W : World, (binOp .neq 37 (.agg #[.int .i64 p, .int .i64 q, .int .i64 r, .int .i64 s]) (.agg #[.int .i64 p2, .int .i64 q2, .int .i64 r2, .int .i64 s2])).run Tryz.prog W = .ok (.bool true) W := fun W => neqI W he2
          clear he2
          go_wp2_with fail
          go_quiet (fail)
          go_wp2_with fail
          go_ret
          exact ⟨by rw [hne.out]; rfl, below_drewN hb _⟩
      · obtain rfl : j = xs.length := by omega
        have hyes : Hid (decide (xs = ys) = true) := decide_eq_true (by
          apply List.ext_getElem hl1.out
          intro i h1 h2
          have e := hall.out i h1
          have e1 := ins_get h1
          have e2 := ins_get h2
          rw [List.getElem?_eq_getElem h1, Option.some.injEq] at e1
          rw [List.getElem?_eq_getElem h2, Option.some.injEq] at e2
          rw [e1, e2, e])
        clear hall hbe
        go_wp2_with fail
        go_ret
        exact ⟨by rw [hyes.out]; rfl, hb⟩
  · have hne : Hid (decide (xs = ys) = false) := decide_eq_false (fun h => hl (by rw [h]))
    have hbe : ((xs.length : Int) != (ys.length : Int)) = true := by simp; omega
    clear hl
    go_enter Tryz.func27, Tryz.ntmps27
    go_wp2_with fail
    go_ret
    exact ⟨by rw [hne.out]; rfl, Below.refl _ _⟩
end
section
variable {w : World} {xa ya : Option Addr} {xc yc : Nat} {xs ys : List Ins}
theorem same_any (hx : PV w xa xs) (hy : PV w ya ys) (hn : xs.length ≤ 50000) :
    Calls Tryz.prog 11 #[.slice xa xs.length xc, .slice ya ys.length yc] w fun e w' => e = .returned (.bool (decide (xs = ys))) ∧ Below w.heap.size w w' := by
  have H := equal_any (xc := xc) (yc := yc) hx hy hn
  go_enter Tryz.func11, Tryz.ntmps11
  go_wp2_with (go_at_call 27; (with_reducible refine H.mono ?_); rintro e w' ⟨rfl, hb⟩)
  go_ret
  exact ⟨rfl, hb⟩
end

end Go.Proofs.YtbcdjpafdmgbmaaGreatDoor
namespace Go.Proofs.YtbcdjpafdmgbmaaGreatDoor

/-- An instruction's line; a program's text. -/
def numsL (x : Ins) : List UInt8 := (usedL x).flatMap (fun v => 32 :: Lib.itoa v)
def printI (x : Ins) : List UInt8 := nmL x.1 ++ numsL x ++ [10]
def printL (p : List Ins) : List UInt8 := p.flatMap printI
/-- What is told of any program. -/
def printA (p : List Ins) : List UInt8 := if wholeB p then printL p else []

theorem nDigits_le : ∀ (k u : Nat), u < 10 ^ (k + 1) → Lib.nDigits u ≤ k + 1
  | 0, u, h => by rw [Lib.nDigits_small (by simpa using h)]; exact Nat.le_refl _
  | k + 1, u, h => by
    by_cases h1 : u < 10
    · rw [Lib.nDigits_small h1]; omega
    · rw [Lib.nDigits_big h1]
      have := nDigits_le k (u / 10) (by rw [Nat.pow_succ] at h; omega)
      omega
theorem itoa_len {v : Int} (h1 : -1099511627776 ≤ v) (h2 : v ≤ 1099511627776) : (Lib.itoa v).length ≤ 14 := by
  have h13 : (10 : Nat) ^ 13 = 10000000000000 := by decide
  unfold Lib.itoa
  split
  · rw [List.length_cons, Lib.decDigits_length]
    have := nDigits_le 12 v.natAbs (by rw [h13]; omega)
    omega
  · rw [Lib.decDigits_length]
    have := nDigits_le 12 v.toNat (by rw [h13]; omega)
    omega
theorem bd_small (c : Nat) {n : Int} (hn0 : 0 ≤ n) (hn : n ≤ 64) : -1099511627776 ≤ (bdL c n).1 ∧ (bdL c n).2 ≤ 1099511627776 := by
  unfold bdL
  repeat' split
  all_goals constructor <;> (simp only []; omega)
theorem may_small {c : Nat} {v n : Int} (hn0 : 0 ≤ n) (hn : n ≤ 64) (h : mayB c v n = true) : -1099511627776 ≤ v ∧ v ≤ 1099511627776 := by
  obtain ⟨h1, h2⟩ := bd_small c hn0 hn
  unfold mayB at h
  simp only [Bool.and_eq_true, decide_eq_true_eq] at h
  omega
theorem good_small {n : Nat} {x : Ins} (hn : n ≤ 64) (h : goodB n x = true) {k : Nat} (hk : k < 3) : -1099511627776 ≤ nk x k ∧ nk x k ≤ 1099511627776 := by
  unfold goodB at h
  simp only [Bool.and_eq_true] at h
  obtain ⟨_, h0, h1, h2⟩ := h
  match k, hk with
  | 0, _ => exact may_small (by omega) (by omega) h0
  | 1, _ => exact may_small (by omega) (by omega) h1
  | 2, _ => exact may_small (by omega) (by omega) h2
theorem used_small {n : Nat} {x : Ins} (hn : n ≤ 64) (h : goodB n x = true) {v : Int} (hv : v ∈ usedL x) : -1099511627776 ≤ v ∧ v ≤ 1099511627776 := by
  unfold usedL at hv
  obtain ⟨k, hk, rfl⟩ := List.mem_map.1 hv
  exact good_small hn h (usQ_mem hk).1
theorem nm_len : ∀ k : Fin 27, (nmT.getD k.1 []).length ≤ 6 := by decide
theorem nmL_len (op : Int) : (nmL op).length ≤ 6 := by
  cases h : opB op with
  | false => rw [nmL_out h]; simp
  | true =>
    obtain ⟨k, rfl, hk⟩ := opB_nat h
    rw [nmL_nat hk]
    exact nm_len ⟨k, hk⟩
theorem flat_le {l : List Int} (h : ∀ v ∈ l, (Lib.itoa v).length ≤ 14) : (l.flatMap (fun v => 32 :: Lib.itoa v)).length ≤ 15 * l.length := by
  induction l with
  | nil => simp
  | cons a l ih =>
    have h1 := h a (by simp)
    have h2 := ih (fun v hv => h v (by simp [hv]))
    simp only [List.flatMap_cons, List.length_append, List.length_cons] at h2 ⊢
    omega
theorem printI_len {n : Nat} {x : Ins} (hn : n ≤ 64) (h : goodB n x = true) : (printI x).length ≤ 52 := by
  have h1 := nmL_len x.1
  have h2 : (numsL x).length ≤ 15 * (usedL x).length := flat_le (fun v hv => by obtain ⟨a, b⟩ := used_small hn h hv; exact itoa_len a b)
  have h3 : (usedL x).length ≤ 3 := by unfold usedL; rw [List.length_map]; exact usQ_len _
  unfold printI
  simp only [List.length_append, List.length_cons, List.length_nil]
  omega
theorem printL_len {p : List Ins} {n : Nat} (hn : n ≤ 64) (h : ∀ x ∈ p, goodB n x = true) : (printL p).length ≤ 52 * p.length := by
  induction p with
  | nil => simp [printL]
  | cons a p ih =>
    have h1 := printI_len hn (h a (by simp))
    have h2 := ih (fun v hv => h v (by simp [hv]))
    unfold printL at h2 ⊢
    simp only [List.flatMap_cons, List.length_append, List.length_cons] at h2 ⊢
    omega
theorem whole_mem {p : List Ins} (h : wholeB p = true) : ∀ x ∈ p, goodB p.length x = true := by
  unfold wholeB at h
  simp only [Bool.and_eq_true, List.all_eq_true] at h
  exact h.2

end Go.Proofs.YtbcdjpafdmgbmaaGreatDoor
