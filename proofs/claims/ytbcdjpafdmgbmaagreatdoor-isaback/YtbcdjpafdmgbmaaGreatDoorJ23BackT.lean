/- The reference's Print. -/
/- Texts, plain: words, lines, numbers, instructions; what a text says. -/
import Derived.Test.YtbcdjpafdmgbmaaGreatDoorJ21BackT
import Derived.Test.YtbcdjpafdmgbmaaGreatDoorJ20BackT
import Derived.Test.YtbcdjpafdmgbmaaGreatDoorJ22BackT
import Derived.Lib.FieldsP
import Derived.Lib.IndexMore
import Derived.Laws.RangeAny
namespace Go.Proofs.YtbcdjpafdmgbmaaGreatDoor
open Go.RowKit Go.Shelf

def strB (l : List UInt8) : ByteArray := ⟨l.toArray⟩
theorem strB_size (l : List UInt8) : (strB l).size = l.length := by
  show l.toArray.size = l.length
  simp
theorem strB_app (a b : List UInt8) : strB a ++ strB b = strB (a ++ b) := cat_bytes a b
theorem printL_take {ps : List Ins} {i : Nat} {x : Ins} (h : ps[i]? = some x) : printL (ps.take (i + 1)) = printL (ps.take i) ++ printI x := by
  unfold printL
  rw [List.take_add_one, h, List.flatMap_append]
  simp
/-- Numbers with blanks ahead. -/
def blnk (us : List Int) : List UInt8 := us.flatMap (fun v => 32 :: Lib.itoa v)
theorem blnk_take {us : List Int} {k : Nat} {u : Int} (h : us[k]? = some u) : blnk (us.take (k + 1)) = blnk (us.take k) ++ (32 :: Lib.itoa u) := by
  unfold blnk
  rw [List.take_add_one, h, List.flatMap_append]
  simp

end Go.Proofs.YtbcdjpafdmgbmaaGreatDoor
namespace Go.Proofs.YtbcdjpafdmgbmaaGreatDoor

/-- Words between blanks. -/
def wordsG : List UInt8 → List UInt8 → List (List UInt8)
  | cur, [] => if cur = [] then [] else [cur]
  | cur, c :: t => if c = 32 then (if cur = [] then wordsG [] t else cur :: wordsG [] t) else wordsG (cur ++ [c]) t
def wordsB (l : List UInt8) : List (List UInt8) := wordsG [] l
/-- Lines. -/
def linesG : List UInt8 → List UInt8 → List (List UInt8)
  | cur, [] => [cur]
  | cur, c :: t => if c = 10 then cur :: linesG [] t else linesG (cur ++ [c]) t
/-- Does a line say something? -/
def saysB (l : List UInt8) : Bool := !(wordsB l).isEmpty && !(l.headD 0 == 35)
/-- What lines say, each with its number. -/
def entsN : Nat → List (List UInt8) → List (Nat × List (List UInt8))
  | _, [] => []
  | n, l :: ls => if saysB l then (n, wordsB l) :: entsN (n + 1) ls else entsN (n + 1) ls
def ents (s : List UInt8) : List (Nat × List (List UInt8)) := entsN 1 (linesG [] s)

theorem wordsG_many {h : List UInt8} (hh : ∀ c ∈ h, c ≠ 32) (cur t : List UInt8) : wordsG cur (h ++ t) = wordsG (cur ++ h) t := by
  induction h generalizing cur with
  | nil => simp
  | cons c h ih =>
    have hc := hh c List.mem_cons_self
    rw [List.cons_append, wordsG, if_neg hc, ih (fun x hx => hh x (List.mem_cons_of_mem _ hx))]
    simp
theorem entsN_nil (n : Nat) : entsN n (linesG [] []) = [] := rfl

/-- A cut at a line's end. -/
theorem index_cons (b : UInt8) (l : List UInt8) : Lib.index (b :: l) [10] = if b = 10 then 0 else if Lib.index l [10] = -1 then -1 else Lib.index l [10] + 1 := by
  by_cases h : b = 10
  · subst h
    simp [Lib.index, List.isPrefixOf]
  · have h2 : ([10] : List UInt8).isPrefixOf (b :: l) = false := by
      simp [List.isPrefixOf]
      exact fun e => h e.symm
    rw [if_neg h]
    simp [Lib.index, h2]
theorem lines_cut : ∀ (s cur : List UInt8), linesG cur s = (cur ++ (Lib.cut s [10]).1) :: (if (Lib.cut s [10]).2.2 then linesG [] (Lib.cut s [10]).2.1 else [])
  | [], cur => by
    have : Lib.cut [] [10] = ([], [], false) := by decide
    rw [this]
    simp [linesG]
  | b :: l, cur => by
    have ih := lines_cut l (cur ++ [b])
    have hge := Lib.index_ge l [10]
    unfold Lib.cut at ih ⊢
    rw [index_cons]
    by_cases h : b = 10
    · subst h
      simp [linesG]
    · rw [linesG, if_neg h, if_neg h]
      by_cases h1 : Lib.index l [10] = -1
      · rw [if_neg (by omega)] at ih
        rw [if_pos h1, if_neg (by omega), ih]
        simp
      · rw [if_pos (by omega)] at ih
        rw [if_neg h1, if_pos (by omega), ih]
        have e1 : (Lib.index l [10] + 1).toNat = (Lib.index l [10]).toNat + 1 := by omega
        rw [e1]
        simp
theorem cut_less (s : List UInt8) (h : s ≠ []) : (Lib.cut s [10]).2.1.length < s.length := by
  unfold Lib.cut
  have hl : 0 < s.length := List.length_pos_iff.2 h
  split
  · simp only [List.length_drop, List.length_cons, List.length_nil]
    omega
  · simpa using hl
theorem cut_last {s : List UInt8} (h : (Lib.cut s [10]).2.2 = false) : (Lib.cut s [10]).2.1 = [] := by
  unfold Lib.cut at h ⊢
  split
  · rename_i h0
    rw [if_pos h0] at h
    cases h
  · rfl
/-- What is left to say, from line n on. -/
theorem ents_step (n : Nat) (s : List UInt8) : entsN n (linesG [] s) = (if saysB (Lib.cut s [10]).1 then [(n, wordsB (Lib.cut s [10]).1)] else []) ++ entsN (n + 1) (linesG [] (Lib.cut s [10]).2.1) := by
  rw [lines_cut s []]
  cases hb : (Lib.cut s [10]).2.2 with
  | true =>
    simp only [if_true, List.nil_append, entsN]
    split <;> rfl
  | false =>
    rw [cut_last hb]
    simp only [Bool.false_eq_true, if_false, List.nil_append, entsN, entsN_nil, List.append_nil]

/-- Runes and bytes: a blank is one byte. -/
def blankP (r : Nat) : Bool := r == 32
theorem get_toNat (s : ByteArray) (i : Nat) (h : i < s.size) : s.get! i = s.data.toList[i]'(by simpa using h) := by
  show s.get! i = _
  simp [ByteArray.get!, h]
theorem decode_in (s : ByteArray) (pos : Nat) (h : pos < s.size) (ha : 128 ≤ (s.get! pos).toNat) : pos + (Utf8.decode s pos).2 ≤ s.size ∧ ∀ j, j < (Utf8.decode s pos).2 → 128 ≤ (s.get! (pos + j)).toNat := by
  have hn : ¬ (s.get! (pos + 0)).toNat < 128 := by simpa using ha
  simp only [Utf8.decode, hn, if_false]
  repeat' split
  all_goals simp_all
  all_goals first
    | omega
    | (refine ⟨by omega, fun j hj => ?_⟩
       rcases (show j = 0 ∨ j = 1 ∨ j = 2 ∨ j = 3 by omega) with rfl | rfl | rfl | rfl
       all_goals first | (simp; omega) | omega)

/-- The word that is under way. -/
def curO (L : List UInt8) (pos : Nat) : Option Nat → List UInt8
  | none => []
  | some a => (L.drop a).take (pos - a)
theorem ext_str (s : ByteArray) (a b : Nat) : s.extract a b = strB ((s.data.toList.drop a).take (b - a)) := by
  apply ByteArray.ext
  rw [ByteArray.data_extract]
  apply Array.toList_inj.1
  rw [Array.toList_extract]
  rfl
theorem cur_more {L : List UInt8} {pos k : Nat} {st : Option Nat} (hst : ∀ a, st = some a → a < pos) : curO L (pos + k) (some (st.getD pos)) = curO L pos st ++ (L.drop pos).take k := by
  cases st with
  | none =>
    show (L.drop pos).take (pos + k - pos) = _
    rw [Nat.add_sub_cancel_left]
    rfl
  | some a =>
    have ha := hst a rfl
    show (L.drop a).take (pos + k - a) = (L.drop a).take (pos - a) ++ (L.drop pos).take k
    rw [show pos + k - a = (pos - a) + k by omega, List.take_add, List.drop_drop, show a + (pos - a) = pos by omega]
theorem spans_words (s : ByteArray) : ∀ (f pos : Nat) (st : Option Nat) (acc : List (Nat × Nat)), s.size - pos ≤ f → pos ≤ s.size → (∀ a, st = some a → a < pos) →
    (Lib.closeSpans s (Lib.spansFromP blankP s f pos st acc)).map (fun x => s.extract x.1 x.2) = acc.map (fun x => s.extract x.1 x.2) ++ (wordsG (curO s.data.toList pos st) (s.data.toList.drop pos)).map strB := by
  have hend : ∀ (f pos : Nat) (st : Option Nat) (acc : List (Nat × Nat)), pos = s.size → (∀ a, st = some a → a < pos) →
      (Lib.closeSpans s (Lib.spansFromP blankP s f pos st acc)).map (fun x => s.extract x.1 x.2) = acc.map (fun x => s.extract x.1 x.2) ++ (wordsG (curO s.data.toList pos st) (s.data.toList.drop pos)).map strB := by
    intro f pos st acc hp hst
    rw [Lib.spansFromP_end _ _ _ _ _ _ (by omega), List.drop_eq_nil_of_le (by simp; exact Nat.le_of_eq hp.symm)]
    cases st with
    | none => simp [Lib.closeSpans, wordsG, curO]
    | some a =>
      have ha := hst a rfl
      have hne : curO s.data.toList pos (some a) ≠ [] := by
        intro e
        have := congrArg List.length e
        simp [curO] at this
        omega
      rw [wordsG, if_neg hne]
      simp [Lib.closeSpans, ext_str, curO, hp]
  intro f
  induction f with
  | zero =>
    intro pos st acc hf hp hst
    exact hend 0 pos st acc (by omega) hst
  | succ f ih =>
    intro pos st acc hf hp hst
    by_cases hlt : pos < s.size
    · have hlL : pos < s.data.toList.length := by simpa using hlt
      have hd := List.drop_eq_getElem_cons hlL
      have hg := get_toNat s pos hlt
      by_cases hc : s.get! pos = 32
      · have hdec : Utf8.decode s pos = (32, 1) := by
          have : (s[pos]'hlt).toNat < 128 := by
            have h2 : s[pos]'hlt = s.get! pos := by rw [hg]; simp; rfl
            rw [h2, hc]
            decide
          rw [Go.decode_ascii s pos hlt this]
          have h2 : s[pos]'hlt = s.get! pos := by rw [hg]; simp; rfl
          rw [h2, hc]
          rfl
        have hc2 : s.data.toList[pos] = 32 := by rw [← hg]; exact hc
        rw [hd, hc2]
        unfold Lib.spansFromP
        rw [if_pos hlt, hdec]
        have hb : blankP 32 = true := rfl
        simp only [hb, if_true]
        cases st with
        | none =>
          rw [ih (pos + 1) none acc (by omega) (by omega) (fun a h => by cases h)]
          simp [wordsG, curO]
        | some a =>
          have ha := hst a rfl
          have hne : curO s.data.toList pos (some a) ≠ [] := by
            intro e
            have := congrArg List.length e
            simp [curO] at this
            omega
          simp only
          rw [ih (pos + 1) none _ (by omega) (by omega) (fun a h => by cases h), wordsG, if_pos rfl, if_neg hne]
          simp [ext_str, curO]
      · obtain ⟨k, hk1, hk2, hk3, hr⟩ : ∃ k, (Utf8.decode s pos).2 = k ∧ 1 ≤ k ∧ pos + k ≤ s.size ∧ blankP (Utf8.decode s pos).1 = false ∧ ∀ j, j < k → s.get! (pos + j) ≠ 32 := by
          by_cases hh : 128 ≤ (s.get! pos).toNat
          · obtain ⟨q1, q2⟩ := decode_in s pos hlt hh
            have h2 : s[pos]'hlt = s.get! pos := by rw [hg]; simp; rfl
            obtain ⟨q3, q4⟩ := Go.decode_high s pos hlt (by rw [h2]; exact hh)
            refine ⟨_, rfl, q4, q1, by simp [blankP]; omega, fun j hj e => ?_⟩
            have := q2 j hj
            rw [e] at this
            revert this
            decide
          · have h2 : s[pos]'hlt = s.get! pos := by rw [hg]; simp; rfl
            have hdec := Go.decode_ascii s pos hlt (by rw [h2]; omega)
            refine ⟨1, by rw [hdec], Nat.le_refl _, by omega, ?_, fun j hj => ?_⟩
            · rw [hdec, h2]
              simp [blankP]
              intro e
              exact hc (UInt8.toNat_inj.1 (by rw [e]; rfl))
            · obtain rfl : j = 0 := by omega
              simpa using hc
        obtain ⟨hr1, hr2⟩ := hr
        have hstep : Lib.spansFromP blankP s (f + 1) pos st acc = Lib.spansFromP blankP s f (pos + k) (some (st.getD pos)) acc := by
          conv => lhs; unfold Lib.spansFromP
          rw [if_pos hlt, hk1]
          simp only [hr1, Bool.false_eq_true, if_false]
          cases st <;> rfl
        rw [hstep, ih (pos + k) _ acc (by omega) hk3 (fun a h => by
          cases st with
          | none => simp at h; omega
          | some b => simp at h; have := hst b rfl; omega), cur_more hst]
        congr 2
        have e : s.data.toList.drop pos = (s.data.toList.drop pos).take k ++ s.data.toList.drop (pos + k) := by
          rw [← List.drop_drop, List.take_append_drop]
        conv => rhs; rw [e]
        rw [wordsG_many]
        intro c hcm
        obtain ⟨j, hj⟩ := List.getElem?_of_mem hcm
        have hjl := (List.getElem?_eq_some_iff.1 hj).1
        rw [List.length_take] at hjl
        rw [List.getElem?_take_of_lt (by omega), List.getElem?_drop] at hj
        have := hr2 j (by omega)
        rw [get_toNat s (pos + j) (by omega)] at this
        intro e
        apply this
        have := (List.getElem?_eq_some_iff.1 hj).2
        rw [this, e]
    · exact hend (f + 1) pos st acc (by omega) hst
theorem fields_words (s : ByteArray) : Lib.goFieldsP blankP s = (wordsB s.data.toList).map strB := by
  unfold Lib.goFieldsP Lib.spansOfP
  rw [spans_words s s.size 0 none [] (by omega) (by omega) (fun a h => by cases h)]
  rfl

end Go.Proofs.YtbcdjpafdmgbmaaGreatDoor
