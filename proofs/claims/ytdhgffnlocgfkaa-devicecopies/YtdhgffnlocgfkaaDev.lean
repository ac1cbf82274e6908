/- Requests and what a device does with them, without memory. -/
import Derived.Test.YtdhgffnlocgfkaaChecked
namespace Go.Proofs.Ytdhgffnlocgfkaa

/-- A request: its id, space, thread, kind and size. -/
abbrev Rq := Int × Int × Int × Int × Int
def I64 (x : Int) : Prop := -9223372036854775808 ≤ x ∧ x ≤ 9223372036854775807
def OkR (r : Rq) : Prop := I64 r.1 ∧ I64 r.2.1 ∧ I64 r.2.2.1 ∧ I64 r.2.2.2.1 ∧ I64 r.2.2.2.2
/-- May it be asked? -/
def goodB (r : Rq) : Bool := decide (0 ≤ r.2.1 ∧ 0 ≤ r.2.2.1 ∧ (r.2.2.2.1 = 1 ∨ r.2.2.2.1 = 2) ∧ 0 ≤ r.2.2.2.2 ∧ r.2.2.2.2 ≤ 1000)
theorem goodB_iff {r : Rq} : goodB r = true ↔ 0 ≤ r.2.1 ∧ 0 ≤ r.2.2.1 ∧ (r.2.2.2.1 = 1 ∨ r.2.2.2.1 = 2) ∧ 0 ≤ r.2.2.2.2 ∧ r.2.2.2.2 ≤ 1000 := by simp [goodB]
/-- What a thread gets. -/
def resV (r : Rq) : Int := if r.2.2.2.1 = 2 then r.2.2.2.2 else Int.tmod (Int.tmod r.1 1000 * 31 + r.2.2.2.2 * 7) 1000
/-- What stands is good, and has ids that were given. -/
def OkS (la : Nat) (xs : List Rq) : Prop := ∀ r ∈ xs, goodB r = true ∧ 1 ≤ r.1 ∧ r.1 ≤ (la : Int)
theorem OkS.nil (la : Nat) : OkS la [] := fun r hr => by cases hr

/-- What Start tells and leaves. -/
def staE (N : Nat) (xs : List Rq) (r : Rq) : Int := if goodB r = true then (if xs.length < N then 0 else 3) else 2
def staI (N la : Nat) (xs : List Rq) (r : Rq) : Int := if staE N xs r = 0 then (la : Int) + 1 else 0
def staL (N la : Nat) (xs : List Rq) (r : Rq) : Nat := if staE N xs r = 0 then la + 1 else la
def staX (N la : Nat) (xs : List Rq) (r : Rq) : List Rq := if staE N xs r = 0 then xs ++ [((la : Int) + 1, r.2)] else xs
theorem OkS.more {la : Nat} {xs : List Rq} (h : OkS la xs) : OkS (la + 1) xs := fun r hr => by
  obtain ⟨h1, h2, h3⟩ := h r hr
  exact ⟨h1, h2, by omega⟩
theorem goodB_id (r : Rq) (i : Int) : goodB (i, r.2) = goodB r := rfl
theorem sta_cases (N : Nat) (xs : List Rq) (r : Rq) : (staE N xs r = 2 ∧ goodB r = false) ∨ (staE N xs r = 3 ∧ goodB r = true ∧ ¬ xs.length < N) ∨ (staE N xs r = 0 ∧ goodB r = true ∧ xs.length < N) := by
  unfold staE
  cases h : goodB r with
  | false => simp
  | true =>
    by_cases hl : xs.length < N
    · simp [hl]
    · simp [hl]
theorem OkS.sta {N la : Nat} {xs : List Rq} (h : OkS la xs) (r : Rq) : OkS (staL N la xs r) (staX N la xs r) := by
  rcases sta_cases N xs r with ⟨e, _⟩ | ⟨e, _⟩ | ⟨e, hg, _⟩
  · simp [staL, staX, e]; exact h
  · simp [staL, staX, e]; exact h
  · simp only [staL, staX, e, if_true]
    intro q hq
    rcases List.mem_append.1 hq with hq | hq
    · exact h.more q hq
    · simp at hq
      subst hq
      exact ⟨by rw [goodB_id]; exact hg, by simp; omega, by simp⟩
theorem sta_len {N la : Nat} {xs : List Rq} (h : xs.length ≤ N) (r : Rq) : (staX N la xs r).length ≤ N := by
  rcases sta_cases N xs r with ⟨e, _⟩ | ⟨e, _⟩ | ⟨e, hg, hl⟩
  · simp [staX, e]; exact h
  · simp [staX, e]; exact h
  · simp [staX, e]; omega

/-- The place that Finish takes. -/
def plc (xs : List Rq) (k : Int) : Nat := if 0 < k then (Int.tmod k xs.length).toNat else 0
theorem plc_lt {xs : List Rq} (k : Int) (h : xs ≠ []) : plc xs k < xs.length := by
  have hp : 0 < xs.length := List.length_pos_iff.2 h
  unfold plc
  split
  · rename_i hk
    have h1 := Int.tmod_lt_of_pos k (b := (xs.length : Int)) (by omega)
    have h2 := Int.tmod_nonneg (a := k) (xs.length : Int) (by omega)
    omega
  · exact hp
theorem plc_pos {xs : List Rq} {k : Int} (hk : 0 < k) : ((plc xs k : Nat) : Int) = Int.tmod k xs.length := by
  unfold plc
  rw [if_pos hk]
  have h2 := Int.tmod_nonneg (a := k) (xs.length : Int) (by omega)
  omega
theorem plc_neg {xs : List Rq} {k : Int} (hk : ¬ 0 < k) : plc xs k = 0 := by unfold plc; rw [if_neg hk]
def z5 : Rq := (0, 0, 0, 0, 0)
def finE (xs : List Rq) : Int := if xs = [] then 4 else 0
def finR (xs : List Rq) (k : Int) : Rq := xs.getD (plc xs k) z5
def finV (xs : List Rq) (k : Int) : Int := if xs = [] then 0 else resV (finR xs k)
def finD (dn : Nat) (xs : List Rq) : Nat := if xs = [] then dn else dn + 1
def finX (xs : List Rq) (k : Int) : List Rq := xs.eraseIdx (plc xs k)
theorem OkS.sub {la : Nat} {xs ys : List Rq} (h : OkS la xs) (hs : ∀ r ∈ ys, r ∈ xs) : OkS la ys := fun r hr => h r (hs r hr)
theorem OkS.fin {la : Nat} {xs : List Rq} (h : OkS la xs) (k : Int) : OkS la (finX xs k) := h.sub (fun _ hr => List.mem_of_mem_eraseIdx hr)
theorem fin_len {N : Nat} {xs : List Rq} (h : xs.length ≤ N) (k : Int) : (finX xs k).length ≤ N := Nat.le_trans (List.length_eraseIdx_le _ _) h
theorem finR_get {xs : List Rq} (k : Int) (h : xs ≠ []) : xs[plc xs k]? = some (finR xs k) := by
  unfold finR
  rw [List.getD_eq_getElem?_getD, List.getElem?_eq_getElem (plc_lt k h), Option.getD_some]
theorem finR_mem {xs : List Rq} (k : Int) (h : xs ≠ []) : finR xs k ∈ xs := List.mem_of_getElem? (finR_get k h)

/-- What Cancel leaves. -/
def canX (xs : List Rq) (s : Int) : List Rq := xs.filter (fun r => !decide (r.2.1 = s))
def canN (xs : List Rq) (s : Int) : Int := (xs.length : Int) - ((canX xs s).length : Int)
theorem OkS.can {la : Nat} {xs : List Rq} (h : OkS la xs) (s : Int) : OkS la (canX xs s) := h.sub (fun _ hr => (List.mem_filter.1 hr).1)
theorem can_len {N : Nat} {xs : List Rq} (h : xs.length ≤ N) (s : Int) : (canX xs s).length ≤ N := Nat.le_trans (List.length_filter_le _ _) h

/-- A place of a list, and what lies on both sides. -/
theorem mid_of {α : Type} {xs : List α} {i : Nat} {p : α} (h : xs[i]? = some p) : ∃ u v, xs = u ++ p :: v ∧ u.length = i ∧ ∀ r, xs.set i r = u ++ r :: v := by
  obtain ⟨hi, e⟩ := List.getElem?_eq_some_iff.1 h
  refine ⟨xs.take i, xs.drop (i + 1), ?_, by rw [List.length_take]; omega, fun r => ?_⟩
  · rw [← e, ← List.drop_eq_getElem_cons hi, List.take_append_drop]
  · rw [List.set_eq_take_append_cons_drop, if_pos hi]

/-- The result of a good request is 0 to 1000. -/
theorem resV_bd {la : Nat} {r : Rq} (h : goodB r = true ∧ 1 ≤ r.1 ∧ r.1 ≤ (la : Int)) : 0 ≤ resV r ∧ resV r ≤ 1000 := by
  obtain ⟨h1, h2, h3⟩ := h
  rw [goodB_iff] at h1
  unfold resV
  split
  · omega
  · have a := Int.tmod_nonneg (a := r.1) 1000 (by omega)
    have b : 0 ≤ Int.tmod r.1 1000 * 31 + r.2.2.2.2 * 7 := by omega
    have c := Int.tmod_nonneg (a := Int.tmod r.1 1000 * 31 + r.2.2.2.2 * 7) 1000 b
    have d := Int.tmod_lt_of_pos (Int.tmod r.1 1000 * 31 + r.2.2.2.2 * 7) (b := 1000) (by omega)
    omega
end Go.Proofs.Ytdhgffnlocgfkaa
