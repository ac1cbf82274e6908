/- The table in memory; names, shapes, bounds: the program's and the reference's. -/
import Derived.Test.YtllnpkijojpccaaDoorIns
namespace Go.Proofs.YtllnpkijojpccaaDoor
open Go.RowKit

/-- The table lies in memory. -/
structure Tab (w : World) : Prop where
  lt : 0 < w.heap.size
  nm : ∀ k, k < 27 → w.cell? ⟨0, k * 2, none⟩ = some (.string ⟨(nmT.getD k []).toArray⟩)
  sh : ∀ k, k < 27 → w.cell? ⟨0, k * 2 + 1, none⟩ = some (.string ⟨(shT.getD k []).toArray⟩)
theorem Tab.put {w w' : World} (h : Tab w) (e : w'.heap[0]? = w.heap[0]?) : Tab w' := by
  have e' : ∀ o, w'.cell? ⟨0, o, none⟩ = w.cell? ⟨0, o, none⟩ := fun o => World.cell?_of_block e
  refine ⟨?_, fun k hk => (e' _).trans (h.nm k hk), fun k hk => (e' _).trans (h.sh k hk)⟩
  have hl := h.lt
  apply Nat.lt_of_not_le
  intro hle
  rw [Array.getElem?_eq_none hle, Array.getElem?_eq_getElem hl] at e
  cases e
theorem Tab.below {w w' : World} {n : Nat} (h : Tab w) (hb : Below n w w') (hn : 0 < n) : Tab w' := h.put (hb.block 0 hn)
theorem Tab.on {w w' : World} (h : Tab w) (hb : Below w.heap.size w w') : Tab w' := h.below hb h.lt
theorem Tab.but {S : List Nat} {w w' : World} (h : Tab w) (hb : But S w w') (hS : 0 ∉ S) : Tab w' := h.put (hb.block 0 h.lt hS)

def bstr (l : List UInt8) : Value := .string ⟨l.toArray⟩

theorem isop_any (op : Int) (w : World) : Calls Tryd.prog 39 #[.int .i64 op] w fun e w' => e = .returned (.bool (opB op)) ∧ w' = w := by
  unfold opB
  by_cases h1 : 0 ≤ op
  · by_cases h2 : op ≤ 26
    · simp only [h1, h2, decide_true, Bool.and_self]
      go_enter Tryd.func39, Tryd.ntmps39
      go_wp2_with fail
      go_ret
      exact ⟨rfl, rfl⟩
    · simp only [h1, h2, decide_true, decide_false, Bool.and_false]
      go_enter Tryd.func39, Tryd.ntmps39
      go_wp2_with fail
      go_ret
      exact ⟨rfl, rfl⟩
  · simp only [h1, decide_false, Bool.false_and]
    go_enter Tryd.func39, Tryd.ntmps39
    go_wp2_with fail
    go_ret
    exact ⟨rfl, rfl⟩

/-- Is it a call? -/
def callB (op : Int) : Bool := decide (11 ≤ op) && decide (op ≤ 26)
section
variable (op : Int) (w : World)
theorem call_any : Calls Tryd.prog 24 #[.int .i64 op] w fun e w' => e = .returned (.bool (callB op)) ∧ w' = w := by
  unfold callB
  by_cases h1 : 11 ≤ op
  · by_cases h2 : op ≤ 26
    · simp only [h1, h2, decide_true, Bool.and_self]
      go_enter Tryd.func24, Tryd.ntmps24
      go_wp2_with fail
      go_ret
      exact ⟨rfl, rfl⟩
    · simp only [h1, h2, decide_true, decide_false, Bool.and_false]
      go_enter Tryd.func24, Tryd.ntmps24
      go_wp2_with fail
      go_ret
      exact ⟨rfl, rfl⟩
  · simp only [h1, decide_false, Bool.false_and]
    go_enter Tryd.func24, Tryd.ntmps24
    go_wp2_with fail
    go_ret
    exact ⟨rfl, rfl⟩
end

theorem shape_any (op : Int) (w : World) (hT : Tab w) : Calls Tryd.prog 43 #[.int .i64 op] w fun e w' => e = .returned (.string ⟨(shL op).toArray⟩) ∧ w' = w := by
  have H := isop_any op w
  cases ho : opB op with
  | true =>
    obtain ⟨k, rfl, hk⟩ := opB_nat ho
    have hc := hT.sh k hk
    rw [ho] at H
    rw [shL_nat hk]
    have k0 : (0 : Int) ≤ (k : Int) := by omega
    have k1 : (k : Int) < 27 := by omega
    clear hT ho
    go_enter Tryd.func43, Tryd.ntmps43
    go_wp2_with (go_at_call 39; (with_reducible refine H.mono ?_); rintro e w' ⟨rfl, rfl⟩)
    go_ret
    exact ⟨rfl, rfl⟩
  | false =>
    rw [ho] at H
    rw [shL_out ho]
    go_enter Tryd.func43, Tryd.ntmps43
    go_wp2_with (go_at_call 39; (with_reducible refine H.mono ?_); rintro e w' ⟨rfl, rfl⟩)
    go_ret
    exact ⟨rfl, rfl⟩

/-- What lies with letters that are none of the eight. -/
structure NoL (c : Nat) : Prop where
  h1 : c ≠ 114
  h2 : c ≠ 118
  h3 : c ≠ 116
  h4 : c ≠ 112
  h5 : c ≠ 107
  h6 : c ≠ 111
  h7 : c ≠ 110
  h8 : c ≠ 115
theorem letter (c : Nat) : c = 114 ∨ c = 118 ∨ c = 116 ∨ c = 112 ∨ c = 107 ∨ c = 111 ∨ c = 110 ∨ c = 115 ∨ NoL c := by
  by_cases h1 : c = 114
  · exact .inl h1
  by_cases h2 : c = 118
  · exact .inr (.inl h2)
  by_cases h3 : c = 116
  · exact .inr (.inr (.inl h3))
  by_cases h4 : c = 112
  · exact .inr (.inr (.inr (.inl h4)))
  by_cases h5 : c = 107
  · exact .inr (.inr (.inr (.inr (.inl h5))))
  by_cases h6 : c = 111
  · exact .inr (.inr (.inr (.inr (.inr (.inl h6)))))
  by_cases h7 : c = 110
  · exact .inr (.inr (.inr (.inr (.inr (.inr (.inl h7))))))
  by_cases h8 : c = 115
  · exact .inr (.inr (.inr (.inr (.inr (.inr (.inr (.inl h8)))))))
  exact .inr (.inr (.inr (.inr (.inr (.inr (.inr (.inr ⟨h1, h2, h3, h4, h5, h6, h7, h8⟩)))))))
theorem bdL_no {c : Nat} (h : NoL c) (n : Int) : bdL c n = (0, 0) := by
  unfold bdL
  rw [if_neg h.h1, if_neg h.h2, if_neg h.h3, if_neg h.h4, if_neg h.h5, if_neg h.h6, if_neg h.h7, if_neg h.h8]
theorem NoL.int {c : Nat} {z : Int} (h : NoL c) (e : (c : Int) = z) : z ≠ 114 ∧ z ≠ 118 ∧ z ≠ 116 ∧ z ≠ 112 ∧ z ≠ 107 ∧ z ≠ 111 ∧ z ≠ 110 ∧ z ≠ 115 := by
  have := h.h1; have := h.h2; have := h.h3; have := h.h4; have := h.h5; have := h.h6; have := h.h7; have := h.h8
  omega

set_option maxHeartbeats 1000000 in
theorem bounds_any (c : Nat) (n : Int) (w : World) : Calls Tryd.prog 41 #[.int .u8 (c : Int), .int .i64 n] w fun e w' => e = .returned (.tuple #[.int .i64 (bdL c n).1, .int .i64 (bdL c n).2]) ∧ w' = w := by
  rcases letter c with rfl | rfl | rfl | rfl | rfl | rfl | rfl | rfl | h
  iterate 8
    · simp only [bdL, if_true, Nat.reduceEqDiff, if_false]
      go_enter Tryd.func41, Tryd.ntmps41
      go_wp2_with fail
      go_ret2
      exact ⟨rfl, rfl⟩
  · rw [bdL_no h]
    obtain ⟨z, hz⟩ : ∃ z : Int, (c : Int) = z := ⟨_, rfl⟩
    obtain ⟨h1, h2, h3, h4, h5, h6, h7, h8⟩ := h.int hz
    rw [hz]
    clear hz h
    go_enter Tryd.func41, Tryd.ntmps41
    go_wp2_with fail
    go_ret2
    exact ⟨rfl, rfl⟩

end Go.Proofs.YtllnpkijojpccaaDoor
