/- Waiters, whatever is known. -/
import Derived.Test.YtmbpmcgppnanpaaJlA
namespace Go.Proofs.Ytmbpmcgppnanpaa.Jl
open Go Go.RowKit Go.Shelf Go.Proofs.Ytmbpmcgppnanpaa.Bs Go.Proofs.Ytmbpmcgppnanpaa.Jn
open Go.Proofs.Ytmbpmcgppnanpaa.Ids (right indexI ageI idI index_any)
open Go.Proofs.Ytmbpmcgppnanpaa.Lk (LQ Pl)
variable {w w' : World} {B t j n : Nat} {P : Pl} {σ : St} {ls : List (List Nat)} {wt : List Int}
section
set_option maxRecDepth 100000
set_option maxHeartbeats 1000000
theorem waiters_any (h : PM w B t j P n σ ls wt) (l : Li n σ ls wt) (H : Ok n σ) (id : Int) (hi : Iv id) :
    Calls Try.prog 19 #[.pointer (some ⟨B, 0, none⟩), .int .i64 id] w fun e w' => ∃ v, e = .returned v ∧ RowI w' w.heap.size v (waitL σ id) ∧ Below w.heap.size w w' := by
  by_cases hs : stI σ id = 1
  · exact (callsIn_wide (n := 5)).1 (waiters_in h l H id hi hs)
  have hL : waitL σ id = [] := by unfold waitL; rw [if_neg hs]
  rw [hL]
  have b0 : But [] w (w.alloc (.cells #[.pointer (some ⟨B, 0, none⟩)] 24)) := (But.refl [] w).alloc _
  have HO := of_any (h.keep b0) H id hi
  have HG := fun W => going_any id W
  obtain ⟨a, b, c, e, -, en, -, -⟩ := of_parts H id
  rw [e] at HO
  have NE := fun W => neK W a b c id 1 0
  rw [en, decide_eq_false hs, Bool.not_false] at NE
  unfold agK at HO HG NE
  clear hs hL e en
  refine (callsIn_wide (n := 5)).1 ?_
  refine callsIn_of_wp_marks Try.func19 rfl trivial ?_ rfl
  simp only [Try.ntmps19, List.size_toArray, List.length_cons, List.length_nil, Nat.reduceAdd, Nat.reduceSub, Array.replicate_succ, Array.replicate_zero, List.push_toArray, List.append_toArray, List.nil_append, List.cons_append]
  refine wpIn_wide.2 ?_
  go_wp2_with (first
    | (go_at_call 35; (with_reducible refine HO.mono ?_); rintro e w1 ⟨rfl, b1⟩)
    | (go_at_call 33; (with_reducible refine (HG _).mono ?_); rintro e w2 ⟨rfl, b2⟩))
  refine ⟨.slice none 0 0, by simp [results, Try.f19, go_sem], _, rfl, ⟨by simp, .inl ⟨rfl, rfl⟩⟩, b0.to_below.trans ((b1.trans (b2.mono b1.size)).mono b0.size)⟩
end
end Go.Proofs.Ytmbpmcgppnanpaa.Jl
