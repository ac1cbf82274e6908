/- Texts, plain: numbers, operations, instructions, what a whole text says. -/
/- Scan, the program's: operations and numbers. -/
import Derived.Test.YtbcdjpafdmgbmaaGreatDoorJ23BackT
import Derived.Lib.AtoiAllCases
import Derived.Test.YtbcdjpafdmgbmaaGreatDoorJ04BackT
import Derived.Test.YtbcdjpafdmgbmaaGreatDoorJ11BackT
namespace Go.Proofs.YtbcdjpafdmgbmaaGreatDoor

/-- Numbers: 1 to 14 digits, with a - ahead or without. -/
def digB (c : UInt8) : Bool := decide (48 ≤ c.toNat) && decide (c.toNat ≤ 57)
def magF (acc : Nat) (l : List UInt8) : Nat := l.foldl (fun n c => 10 * n + (c.toNat - 48)) acc
def magB (l : List UInt8) : Bool := decide (1 ≤ l.length) && (decide (l.length ≤ 14) && l.all digB)
def negB (w : List UInt8) : Bool := w.headD 0 == 45
def magOf (w : List UInt8) : List UInt8 := if negB w then w.drop 1 else w
def numW (w : List UInt8) : Option Int := if magB (magOf w) then some (if negB w then -((magF 0 (magOf w) : Nat) : Int) else ((magF 0 (magOf w) : Nat) : Int)) else none
def numsW : List (List UInt8) → Option (List Int)
  | [] => some []
  | w :: r => match numW w, numsW r with
    | some v, some vs => some (v :: vs)
    | _, _ => none
theorem trim_is (w : List UInt8) : Lib.trimPrefix w [45] = magOf w := by
  cases w with
  | nil => rfl
  | cons c t =>
    by_cases h : c = 45
    · subst h
      rfl
    · have h1 : Lib.hasPrefix (c :: t) [45] = false := by
        unfold Lib.hasPrefix
        simp [List.isPrefixOf]
        exact fun e => h e.symm
      have h2 : negB (c :: t) = false := by
        unfold negB
        simpa using h
      unfold Lib.trimPrefix magOf
      simp only [h1, h2]
      rfl
theorem dig_iff {c : UInt8} : digB c = true ↔ 48 ≤ c.toNat ∧ c.toNat ≤ 57 := by simp [digB]
theorem magF_lt : ∀ (l : List UInt8) (acc k : Nat), acc < 10 ^ k → l.all digB = true → magF acc l < 10 ^ (k + l.length)
  | [], acc, k, h, _ => h
  | c :: l, acc, k, h, hd => by
    simp only [List.all_cons, Bool.and_eq_true] at hd
    have hc := dig_iff.1 hd.1
    have h2 : 10 * acc + (c.toNat - 48) < 10 ^ (k + 1) := by rw [Nat.pow_succ]; omega
    have := magF_lt l (10 * acc + (c.toNat - 48)) (k + 1) h2 hd.2
    rw [List.length_cons, show k + (l.length + 1) = k + 1 + l.length by omega]
    exact this
theorem parse_mag : ∀ (l : List UInt8) (acc k : Nat), acc < 10 ^ k → k + l.length ≤ 18 → l.all digB = true → Lib.parseUint10 acc l = .ok (magF acc l)
  | [], acc, k, h, _, _ => rfl
  | c :: l, acc, k, h, hk, hd => by
    simp only [List.all_cons, Bool.and_eq_true] at hd
    have hc := dig_iff.1 hd.1
    have h2 : 10 * acc + (c.toNat - 48) < 10 ^ (k + 1) := by rw [Nat.pow_succ]; omega
    rw [List.length_cons] at hk
    have hk17 : (10 : Nat) ^ k ≤ 10 ^ 17 := Nat.pow_le_pow_right (by omega) (by omega)
    have h17 : (10 : Nat) ^ 17 = 100000000000000000 := by decide
    have e : acc * 10 + (c.toNat - 48) = 10 * acc + (c.toNat - 48) := by omega
    simp only [Lib.parseUint10]
    rw [if_pos hc, if_neg (by omega), if_neg (by omega), e]
    exact parse_mag l _ (k + 1) h2 (by omega) hd.2
theorem mag_parts {l : List UInt8} (h : magB l = true) : 1 ≤ l.length ∧ l.length ≤ 14 ∧ l.all digB = true := by
  unfold magB at h
  simp only [Bool.and_eq_true, decide_eq_true_eq] at h
  exact h
theorem mag_small {l : List UInt8} (h : magB l = true) : magF 0 l < 100000000000000 := by
  obtain ⟨_, h2, h3⟩ := mag_parts h
  have h4 := magF_lt l 0 0 (by omega) h3
  have h5 : (10 : Nat) ^ (0 + l.length) ≤ 10 ^ 14 := Nat.pow_le_pow_right (by omega) (by omega)
  have : (10 : Nat) ^ 14 = 100000000000000 := by decide
  omega
theorem numW_small {w : List UInt8} {v : Int} (h : numW w = some v) : -100000000000000 ≤ v ∧ v ≤ 100000000000000 := by
  unfold numW at h
  split at h
  · rename_i hm
    have := mag_small hm
    cases h
    split <;> omega
  · cases h
theorem parseMag_is {l : List UInt8} (h : magB l = true) : Lib.parseMag l = .ok (magF 0 l) := by
  obtain ⟨h1, h2, h3⟩ := mag_parts h
  unfold Lib.parseMag
  rw [if_neg (by intro e; subst e; simp at h1)]
  exact parse_mag l 0 0 (by omega) (by omega) h3
theorem atoi_is {w : List UInt8} {v : Int} (h : numW w = some v) : Lib.atoiAll w = .ok v := by
  unfold numW at h
  split at h
  · rename_i hm
    have hs := mag_small hm
    have hp := parseMag_is hm
    cases h
    unfold magOf at hm hs hp ⊢
    cases w with
    | nil => simp [negB, magB] at hm
    | cons c t =>
      by_cases hc : c = 45
      · subst hc
        have e : negB (45 :: t) = true := rfl
        rw [e] at hm hs hp ⊢
        simp only [if_true, List.drop_succ_cons, List.drop_zero] at hm hs hp ⊢
        rw [Lib.atoiAll_minus, hp]
        simp only [Lib.signed]
        rw [if_neg (by omega)]
      · have e : negB (c :: t) = false := by
          unfold negB
          simpa using hc
        rw [e] at hm hs hp ⊢
        simp only [Bool.false_eq_true, if_false] at hm hs hp ⊢
        obtain ⟨_, _, h3⟩ := mag_parts hm
        simp only [List.all_cons, Bool.and_eq_true] at h3
        have hd := dig_iff.1 h3.1
        rw [Lib.atoiAll_plain c t (by omega) (by omega), hp]
        simp only [Lib.signless]
        rw [if_neg (by omega)]
  · cases h

/-- Which operation has that name. -/
def opW (w : List UInt8) : Option Nat := (List.range 27).find? (fun k => decide (nmT.getD k [] = w))
theorem nm_inj : ∀ i j : Fin 27, nmT.getD i.1 [] = nmT.getD j.1 [] → i = j := by decide
theorem opW_some {w : List UInt8} {k : Nat} (hk : k < 27) (h : nmT.getD k [] = w) : opW w = some k := by
  unfold opW
  rw [List.find?_eq_some_iff_getElem]
  refine ⟨by simpa using h, k, by simpa using hk, by simp, fun j hj => ?_⟩
  simp only [List.getElem_range, decide_eq_false_iff_not, Bool.not_eq_eq_eq_not, Bool.not_true]
  intro e
  have := nm_inj ⟨j, by omega⟩ ⟨k, hk⟩ (by simp only; rw [e, h])
  have := congrArg Fin.val this
  simp at this
  omega
theorem opW_none {w : List UInt8} (h : ∀ k, k < 27 → nmT.getD k [] ≠ w) : opW w = none := by
  unfold opW
  rw [List.find?_eq_none]
  intro k hk
  simpa using h k (by simpa using hk)
/-- The instruction that words say. -/
def insW : List (List UInt8) → Option Ins
  | [] => none
  | w :: r => match opW w with
    | none => none
    | some op => match numsW r with
      | none => none
      | some vs => if vs.length = (usQ (op : Int)).length then some (setQ (usQ (op : Int)) vs ((op : Int), 0, 0, 0)) else none
theorem numsW_len : ∀ {r : List (List UInt8)} {vs : List Int}, numsW r = some vs → vs.length = r.length
  | [], vs, h => by cases h; rfl
  | w :: r, vs, h => by
    unfold numsW at h
    split at h
    · rename_i v vs' h1 h2
      cases h
      simp [numsW_len h2]
    · cases h
theorem numsW_snoc : ∀ (r : List (List UInt8)) (w : List UInt8), numsW (r ++ [w]) = match numsW r, numW w with
    | some vs, some v => some (vs ++ [v])
    | _, _ => none
  | [], w => by
    simp only [List.nil_append, numsW]
    cases numW w <;> rfl
  | x :: r, w => by
    rw [List.cons_append, numsW, numsW_snoc r w, numsW]
    cases numW x <;> cases numsW r <;> cases numW w <;> rfl
theorem numsW_stop {r : List (List UInt8)} {j : Nat} {w : List UInt8} (h : r[j]? = some w) (hw : numW w = none) : numsW r = none := by
  induction r generalizing j with
  | nil => simp at h
  | cons x r ih =>
    unfold numsW
    cases j with
    | zero =>
      simp at h
      subst h
      rw [hw]
    | succ j =>
      rw [ih (by simpa using h)]
      cases numW x <;> rfl

/-- What a text says. -/
def badE (es : List (Nat × List (List UInt8))) : Option Nat := (es.find? (fun e => (insW e.2).isNone)).map (·.1)
def progE (es : List (Nat × List (List UInt8))) : List Ins := es.filterMap (fun e => insW e.2)
def scanV (s : List UInt8) : List Ins × Nat × Nat :=
  if 4096 < s.length then ([], 0, 12)
  else match badE (ents s) with
    | some n => ([], n, 11)
    | none => match (List.range (progE (ents s)).length).find? (fun (i : Nat) => !goodAt (progE (ents s)) (i : Int)) with
      | some i => ([], ((ents s).map (·.1)).getD i 0, 10)
      | none => if 64 < (progE (ents s)).length then ([], 0, 12) else (progE (ents s), 0, 0)

end Go.Proofs.YtbcdjpafdmgbmaaGreatDoor
namespace Go.Proofs.YtbcdjpafdmgbmaaGreatDoor
open Go.RowKit

theorem strB_inj {a b : List UInt8} (h : strB a = strB b) : a = b := by
  have := congrArg (fun s : ByteArray => s.data.toList) h
  simpa [strB] using this
theorem strB_list (a : List UInt8) : (strB a).toList = a := by
  rw [ByteArray.toList_eq]
  simp [strB]
theorem strB_ne {a b : List UInt8} (h : a ≠ b) : ((strB a).toList == (strB b).toList) = false := by
  rw [strB_list, strB_list]
  simpa using h
theorem strB_data (l : List UInt8) : (strB l).data.toList = l := by simp [strB]

set_option maxHeartbeats 1000000 in
theorem operation_any (l : List UInt8) (w : World) (hT : Tab w) :
    Calls Tryz.prog 47 #[.string (strB l)] w fun e w' => e = .returned (.tuple #[.int .i64 (((opW l).getD 0 : Nat) : Int), .bool (opW l).isSome]) ∧ w' = w := by
  obtain ⟨R, hR⟩ : ∃ R, opW l = R := ⟨_, rfl⟩
  have HR := Hid.mk hR
  rw [hR]
  clear hR
  go_enter Tryz.func47, Tryz.ntmps47
  go_wp2_with fail
  go_loopw [5, 4, 6, 7, 8, 9, 10, 11, 12, 13, 14, 15] (fun p _ _ _ _ _ _ _ _ _ _ _ wr => ∃ i : Nat, i ≤ 27 ∧ p = .int .i64 i ∧ Hid (∀ j, j < i → nmT.getD j [] ≠ l) ∧ wr = w) (fun p _ _ _ _ _ _ _ _ _ _ _ _ => 27 - (intOf p).toNat)
  case atStart => exact ⟨0, by omega, rfl, Hid.mk (fun j hj => by omega), rfl⟩
  case round =>
    obtain ⟨i, hi, rfl, hall, rfl⟩ := hrel
    by_cases hlt : i < 27
    · have hc := hT.nm i hlt
      have hl2 : (i : Int) < 27 := by omega
      have hl0 : (0 : Int) ≤ (i : Int) := by omega
      by_cases he : nmT.getD i [] = l
      · have hr := opW_some hlt he
        rw [HR.out] at hr
        subst hr
        change wr.cell? _ = some (.string (strB (nmT.getD i []))) at hc
        rw [he] at hc
        clear he hall hT
        go_wp2_with fail
        go_ret2
        exact ⟨rfl, rfl⟩
      · have hne := strB_ne he
        change wr.cell? _ = some (.string (strB (nmT.getD i []))) at hc
        have hall2 := Hid.mk (show ∀ j, j < i + 1 → nmT.getD j [] ≠ l from fun j hj => by
          by_cases e : j = i
          · rw [e]; exact he
          · exact hall.out j (by omega))
        clear he hall
        generalize strB (nmT.getD i []) = N at *
        go_wp2_with fail
        go_roundw
        case rel => exact ⟨i + 1, by omega, by simp, hall2, trivial⟩
        case measure =>
          simp [intOf]
          omega
    · obtain rfl : i = 27 := by omega
      have hr := opW_none (fun k hk => hall.out k hk)
      rw [HR.out] at hr
      subst hr
      clear hall
      go_wp2_with fail
      go_ret2
      exact ⟨rfl, rfl⟩

theorem numW_some (l : List UInt8) : (numW l).isSome = magB (magOf l) := by
  unfold numW
  cases magB (magOf l) <;> rfl

theorem all_take {M : List UInt8} {i : Nat} {b : UInt8} (h : (M.take i).all digB = true) (hb : M[i]? = some b) (hd : digB b = true) : (M.take (i + 1)).all digB = true := by
  rw [List.take_add_one, hb, List.all_append, h]
  simp [hd]
theorem all_bad {M : List UInt8} {i : Nat} {b : UInt8} (hb : M[i]? = some b) (hd : digB b = false) : M.all digB = false := by
  cases h : M.all digB with
  | false => rfl
  | true =>
    have := List.all_eq_true.1 h b (List.mem_of_getElem? hb)
    rw [hd] at this
    cases this
theorem magB_all {M : List UInt8} (h : M.all digB = true) : magB M = (decide (1 ≤ M.length) && decide (M.length ≤ 14)) := by
  unfold magB
  rw [h]
  simp
theorem magB_bad {M : List UInt8} (h : M.all digB = false) : magB M = false := by
  unfold magB
  rw [h]
  simp

set_option maxRecDepth 100000 in
set_option maxHeartbeats 2000000 in
theorem isnumber_any (l : List UInt8) (hl : l.length ≤ 100000) (w : World) :
    Calls Tryz.prog 48 #[.string (strB l)] w fun e w' => e = .returned (.bool (numW l).isSome) ∧ Below w.heap.size w w' := by
  rw [numW_some]
  have HT := Tryz.strings_TrimPrefix (strB l) ⟨#[45]⟩ w
  rw [strB_data, show (⟨#[45]⟩ : ByteArray).data.toList = [45] from rfl, trim_is] at HT
  change Calls Tryz.prog 63 #[.string (strB l), .string ⟨#[45]⟩] w fun e w' => e = .returned (.string (strB (magOf l))) ∧ w' = w at HT
  have hm : (magOf l).length ≤ 100000 := by
    unfold magOf
    split
    · rw [List.length_drop]; omega
    · exact hl
  generalize magOf l = M at *
  have hcv := Lib.run_convert_string_bytes (P := Tryz.prog) w 9 24 5 (strB M) Tryz.underlying9 Tryz.underlying24 Tryz.underlying5
  have hcell := fun j hj => Lib.bytesWorld_cell w 5 (strB M) j hj
  have hbel : Below w.heap.size w (Lib.bytesWorld w 5 (strB M)) := Lib.bytesWorld_below w 5 (strB M)
  rw [strB_data, strB_size] at hcell
  rw [strB_size] at hcv
  generalize Lib.bytesWorld w 5 (strB M) = W1 at *
  generalize grownCap w M.length 0 5 = cp at *
  have hsz := strB_size M
  obtain ⟨m, hmm⟩ : ∃ m, M.length = m := ⟨_, rfl⟩
  rw [hmm] at hm hcell hcv hsz
  have Hm := Hid.mk hmm
  have HC := Hid.mk hcell
  clear hmm hcell
  obtain ⟨A, hA⟩ : ∃ A, magB M = A := ⟨_, rfl⟩
  have HA := Hid.mk hA
  rw [hA]
  clear hA
  generalize w.heap.size = g at *
  go_enter Tryz.func48, Tryz.ntmps48
  go_wp2_with (go_at_call 63; (with_reducible refine HT.mono ?_); rintro e w' ⟨rfl, rfl⟩)
  go_loopw [10, 4, 11, 12, 13, 14, 15, 16, 17, 18, 19, 20] (fun p _ _ _ _ _ _ _ _ _ _ _ wr => ∃ i : Nat, i ≤ m ∧ p = .int .i64 i ∧ Hid ((M.take i).all digB = true) ∧ wr = W1) (fun p _ _ _ _ _ _ _ _ _ _ _ _ => m - (intOf p).toNat)
  case atStart => exact ⟨0, by omega, rfl, Hid.mk (by simp), rfl⟩
  case round =>
    obtain ⟨i, hi, rfl, hall, rfl⟩ := hrel
    by_cases hlt : i < m
    · obtain ⟨b, hb⟩ : ∃ b, M[i]? = some b := ⟨_, List.getElem?_eq_getElem (by rw [Hm.out]; exact hlt)⟩
      have hc := HC.out i hlt
      rw [List.getD_eq_getElem?_getD, hb, Option.getD_some] at hc
      have hl2 : (i : Int) < (m : Int) := by omega
      have hl0 : (0 : Int) ≤ (i : Int) := by omega
      cases hd : digB b with
      | true =>
        have hd2 := dig_iff.1 hd
        have hall2 := Hid.mk (all_take hall.out hb hd)
        have h48 : ¬ ((b.toNat : Nat) : Int) < 48 := by omega
        have h57 : ¬ (57 : Int) < ((b.toNat : Nat) : Int) := by omega
        clear hd hd2 hall hb
        generalize ((b.toNat : Nat) : Int) = z at *
        go_wp2_with fail
        go_roundw
        case rel => exact ⟨i + 1, by omega, by simp, hall2, trivial⟩
        case measure =>
          simp [intOf]
          omega
      | false =>
        have hr := magB_bad (all_bad hb hd)
        rw [HA.out] at hr
        subst hr
        have hd2 : ¬ (48 ≤ b.toNat ∧ b.toNat ≤ 57) := fun h => by rw [dig_iff.2 h] at hd; cases hd
        by_cases h48 : ((b.toNat : Nat) : Int) < 48
        · clear hd hd2 hall hb
          generalize ((b.toNat : Nat) : Int) = z at *
          go_wp2_with fail
          go_ret
          exact ⟨rfl, hbel⟩
        · have h57 : (57 : Int) < ((b.toNat : Nat) : Int) := by omega
          clear hd hd2 hall hb
          generalize ((b.toNat : Nat) : Int) = z at *
          go_wp2_with fail
          go_ret
          exact ⟨rfl, hbel⟩
    · obtain rfl : i = m := by omega
      have ha : M.all digB = true := by
        have := hall.out
        rwa [List.take_of_length_le (by rw [Hm.out]; exact Nat.le_refl _)] at this
      have hr := magB_all ha
      rw [HA.out, Hm.out] at hr
      have Hr := Hid.mk hr
      clear hall ha hr
      by_cases h1 : (1 : Int) ≤ (i : Int)
      · have d1 : decide (1 ≤ i) = true := by simp; omega
        by_cases h14 : (i : Int) ≤ 14
        · have d2 : decide (i ≤ 14) = true := by simp; omega
          go_wp2_with fail
          go_ret
          exact ⟨by rw [Hr.out, d1, d2]; rfl, hbel⟩
        · have d2 : decide (i ≤ 14) = false := by simp; omega
          go_wp2_with fail
          go_ret
          exact ⟨by rw [Hr.out, d1, d2]; rfl, hbel⟩
      · have d1 : decide (1 ≤ i) = false := by simp; omega
        go_wp2_with fail
        go_ret
        exact ⟨by rw [Hr.out, d1]; rfl, hbel⟩

end Go.Proofs.YtbcdjpafdmgbmaaGreatDoor
