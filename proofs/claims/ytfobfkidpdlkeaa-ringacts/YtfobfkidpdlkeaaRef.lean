/- The reference's queue in memory; contracts of its New, At, Find, Push, Front. -/
import Derived.Test.YtfobfkidpdlkeaaLall
namespace Go.Proofs.Ytfobfkidpdlkeaa
open Go.RowKit

/-- A row of the call's own from block lo on; or none of any room. -/
def RowR (w : World) (lo : Nat) (v : Value) (q : List Int) : Prop := RowI w lo v q ∨ (q = [] ∧ ∃ a, v = .slice a 0 0)
/-- The reference's queue at M, for n numbers, has just q; they lie from block lo on. -/
def RF (w : World) (lo M n : Nat) (q : List Int) : Prop := ∃ v, w.heap[M]? = some (.cells #[.int .i64 n, v] 34 (0, 0)) ∧ RowR w lo v q ∧ q.length ≤ n ∧ n ≤ 4096

section
variable {w w' : World} {lo M n : Nat} {q : List Int}
theorem RowI.but {S : List Nat} {base : Nat} {v : Value} (h : RowI w base v q) (hb : But S w w') (hS : ∀ x ∈ S, x < base) : RowI w' base v q := by
  refine ⟨h.1, ?_⟩
  rcases h.2 with h | ⟨g, cap, cur, h1, h2, h3, h4⟩
  · exact .inl h
  · exact .inr ⟨g, cap, cur, h1, h2, (hb.block g (Array.getElem?_eq_some_iff.1 h3).1 (fun e => by have := hS g e; omega)).trans h3, h4⟩
theorem RowR.but {S : List Nat} {v : Value} (h : RowR w lo v q) (hb : But S w w') (hS : ∀ x ∈ S, x < lo) : RowR w' lo v q := h.imp (fun h => h.but hb hS) id
theorem RF.but {S : List Nat} (h : RF w lo M n q) (hb : But S w w') (hS : ∀ x ∈ S, x < lo ∧ x ≠ M) : RF w' lo M n q := by
  obtain ⟨v, h1, h2, h3⟩ := h
  exact ⟨v, (hb.block M (Array.getElem?_eq_some_iff.1 h1).1 (fun e => (hS M e).2 rfl)).trans h1, h2.but hb (fun x hx => (hS x hx).1), h3⟩
theorem RowI.below {base : Nat} {v : Value} (h : RowI w base v q) (hb : Below w.heap.size w w') : RowI w' base v q := h.but (S := []) (.of_below hb) (by simp)
theorem RF.below (h : RF w lo M n q) (hb : Below w.heap.size w w') : RF w' lo M n q := h.but (S := []) (.of_below hb) (by simp)
theorem RF.lt (h : RF w lo M n q) : M < w.heap.size := by
  obtain ⟨v, h1, _⟩ := h
  exact (Array.getElem?_eq_some_iff.1 h1).1
theorem RowI.shape {base : Nat} {v : Value} (h : RowI w base v q) : ∃ a c, v = .slice a q.length c ∧ q.length ≤ c ∧ c ≤ maxLen ∧ (a = none → c = 0) ∧ ∀ j x, q[j]? = some x → ∃ g, a = some ⟨g, 0, none⟩ ∧ w.cell? ⟨g, j, none⟩ = some (.int .i64 x) := by
  have h' := h
  rcases h.2 with ⟨rfl, h0⟩ | ⟨g, cap, cur, rfl, hg, hb, hc, hm, _⟩
  · exact ⟨none, 0, by rw [h0], by omega, by unfold maxLen; omega, fun _ => rfl, fun j x hx => by have := (List.getElem?_eq_some_iff.1 hx).1; omega⟩
  · refine ⟨_, cap, rfl, hc, hm, (fun e => (by cases e)), fun j x hx => ⟨g, rfl, ?_⟩⟩
    have hj := (List.getElem?_eq_some_iff.1 hx).1
    have := World.ownsRow.cellAt h' j (by omega)
    rw [this, List.getElem?_map, hx]
    rfl
theorem RowR.shape {v : Value} (h : RowR w lo v q) : ∃ a c, v = .slice a q.length c ∧ q.length ≤ c ∧ c ≤ maxLen ∧ (a = none → c = 0) ∧ ∀ j x, q[j]? = some x → ∃ g, a = some ⟨g, 0, none⟩ ∧ w.cell? ⟨g, j, none⟩ = some (.int .i64 x) := by
  rcases h with h | ⟨rfl, a, rfl⟩
  · exact h.shape
  · exact ⟨a, 0, rfl, Nat.le_refl _, Nat.zero_le _, fun _ => rfl, fun j x hx => by simp at hx⟩
end

theorem rnew_none (m : Int) (hm : m < 1 ∨ 4096 < m) (w : World) :
    Calls Try.prog 9 #[.int .i64 m] w fun e w' => e = .returned (.pointer none) ∧ w' = w := by
  by_cases h : m < 1
  · go_enter Try.func9, Try.ntmps9
    go_wp2_with fail
    go_ret
    exact ⟨rfl, rfl⟩
  · have h2 : 4096 < m := by omega
    go_enter Try.func9, Try.ntmps9
    go_wp2_with fail
    go_ret
    exact ⟨rfl, rfl⟩

theorem rnew_some (n : Nat) (h1 : 1 ≤ n) (h2 : n ≤ 4096) (w : World) :
    Calls Try.prog 9 #[.int .i64 n] w fun e w' => e = .returned (.pointer (some ⟨w.heap.size, 0, none⟩)) ∧ RF w' w.heap.size w.heap.size n [] ∧ Below w.heap.size w w' := by
  go_enter Try.func9, Try.ntmps9
  go_wp2_with fail
  go_ret
  refine ⟨by simp, ⟨.slice none 0 0, ?_, .inl (World.ownsRow_nil _ _ _ _), by simp, h2⟩, (Below.refl _ w).alloc (Nat.le_refl _) _⟩
  exact heap_alloc_new w _

section
variable {w : World} {lo M n : Nat} {q : List Int}

theorem rat_any (h : RF w lo M n q) (i : Int) :
    Calls Try.prog 15 #[.pointer (some ⟨M, 0, none⟩), .int .i64 i] w fun e w' => e = .returned (.tuple #[.int .i64 (atQ q i), .bool (isQ q i)]) ∧ w' = w := by
  obtain ⟨v, h1, h2, h3, h4⟩ := h
  obtain ⟨a, c, rfl, hc, hm, hn, hx⟩ := h2.shape
  have c1 : w.cell? ⟨M, 1, none⟩ = some (.slice a q.length c) := by simp [World.cell?, h1]
  clear h1 h2
  by_cases hi : 0 ≤ i ∧ i < (q.length : Int)
  · obtain ⟨j, rfl⟩ := Int.eq_ofNat_of_zero_le hi.1
    have hj : j < q.length := by omega
    have e1 : atQ q (j : Int) = q[j] := by
      unfold atQ
      rw [if_neg (by omega)]
      simp [hj]
    have e2 : isQ q (j : Int) = true := by unfold isQ; simp; omega
    rw [e1, e2]
    obtain ⟨g, rfl, cx⟩ := hx j q[j] (by simp)
    generalize q[j] = x at cx
    have h5 : (j : Int) < (q.length : Int) := by omega
    clear e1 e2 hx
    go_enter Try.func15, Try.ntmps15
    go_wp2_with fail
    go_ret2
    exact ⟨rfl, rfl⟩
  · have e1 : atQ q i = 0 := by
      unfold atQ
      split
      · rfl
      · simp [List.getD, List.getElem?_eq_none (show q.length ≤ i.toNat by omega)]
    have e2 : isQ q i = false := by unfold isQ; simp; omega
    rw [e1, e2]
    by_cases h0 : i < 0
    · go_enter Try.func15, Try.ntmps15
      go_wp2_with fail
      go_ret2
      exact ⟨rfl, rfl⟩
    · have h5 : (q.length : Int) ≤ i := by omega
      clear hi hx e1 e2
      go_enter Try.func15, Try.ntmps15
      go_wp2_with fail
      go_ret2
      exact ⟨rfl, rfl⟩

/-- The first place of a number, from place k on; -1 of none. -/
def findI : List Int → Int → Int → Int
  | [], _, _ => -1
  | y :: t, x, k => if y = x then k else findI t x (k + 1)

theorem find_step {q : List Int} {j : Nat} (hj : j < q.length) (x : Int) : findI (q.drop j) x j = if q[j] = x then (j : Int) else findI (q.drop (j + 1)) x ((j + 1 : Nat) : Int) := by
  rw [List.drop_eq_getElem_cons hj, findI]
  simp

set_option maxHeartbeats 1000000 in
theorem rfind_any (h : RF w lo M n q) (x : Int) :
    Calls Try.prog 18 #[.pointer (some ⟨M, 0, none⟩), .int .i64 x] w fun e w' => e = .returned (.int .i64 (findI q x 0)) ∧ w' = w := by
  obtain ⟨v, h1, h2, h3, h4⟩ := h
  obtain ⟨a, c, rfl, hc, hm, hn, hx⟩ := h2.shape
  have c1 : w.cell? ⟨M, 1, none⟩ = some (.slice a q.length c) := by simp [World.cell?, h1]
  clear h1 h2
  go_enter Try.func18, Try.ntmps18
  go_wp2_with fail
  go_loopw [12] (fun v wr => ∃ j : Nat, j ≤ q.length ∧ v = .int .i64 j ∧ wr = w ∧ Hid (findI q x 0 = findI (q.drop j) x j)) (fun v _ => 4096 - (intOf v).toNat)
  case atStart => exact ⟨0, by omega, rfl, rfl, rfl⟩
  case round =>
    obtain ⟨j, hj, rfl, hw, hf⟩ := hrel
    subst wr
    by_cases hlt : j < q.length
    · obtain ⟨g, rfl, cx⟩ := hx j q[j] (by simp)
      have hs := find_step hlt x
      rw [← hf.out] at hs
      clear hf
      have h5 : (j : Int) < (q.length : Int) := by omega
      generalize q[j] = y at cx hs
      by_cases hyx : x = y
      · subst hyx
        rw [if_pos rfl] at hs
        have HS : Hid (findI q x 0 = (j : Int)) := hs
        clear hs hx
        go_wp2_with fail
        go_ret
        exact ⟨by rw [HS.out]; rfl, rfl⟩
      · rw [if_neg (Ne.symm hyx)] at hs
        have HS : Hid (findI q x 0 = findI (q.drop (j + 1)) x ((j + 1 : Nat) : Int)) := hs
        clear hs
        have hyx' : (x == y) = false := by simpa using hyx
        go_wp2_with fail
        go_roundw
        case rel => exact ⟨j + 1, by omega, by simp, trivial, HS⟩
        case measure =>
          simp [intOf]
          omega
    · obtain rfl : j = q.length := by omega
      have e := hf.out
      rw [List.drop_length, findI] at e
      have HS : Hid (findI q x 0 = -1) := e
      clear e hf hx
      go_wp2_with fail
      go_ret
      exact ⟨by rw [HS.out]; rfl, rfl⟩
end

end Go.Proofs.Ytfobfkidpdlkeaa
