/- New. -/
import Derived.Test.YtdmnobkbgmomdaaSmU
import Derived.Test.YtdmnobkbgmomdaaSmZ
import Derived.Test.YtdmnobkbgmomdaaLkNew
namespace Go.Proofs.Ytdmnobkbgmomdaa.Sm
open Go Go.RowKit Go.Proofs.Ytdmnobkbgmomdaa.Bs Go.Proofs.Ytdmnobkbgmomdaa.Se
open Go.Proofs.Ytdmnobkbgmomdaa.Lk (LQ Pl iv ints new_some)

theorem lnew_nil (a t : Int) (w : World) (hm : a < 1 ∨ 64 < a ∨ t < 1 ∨ 1024 < t) : Calls Try.prog 6 #[.int .i64 a, .int .i64 t] w fun e w' => e = .returned (.pointer none) ∧ Below w.heap.size w w' := by
  by_cases h1 : a < 1
  · go_enter Try.func6, Try.ntmps6
    go_wp2_with fail
    go_ret
    exact ⟨rfl, Below.refl _ _⟩
  by_cases h2 : 64 < a
  · go_enter Try.func6, Try.ntmps6
    go_wp2_with fail
    go_ret
    exact ⟨rfl, Below.refl _ _⟩
  by_cases h3 : t < 1
  · go_enter Try.func6, Try.ntmps6
    go_wp2_with fail
    go_ret
    exact ⟨rfl, Below.refl _ _⟩
  have h4 : 1024 < t := by omega
  go_enter Try.func6, Try.ntmps6
  go_wp2_with fail
  go_ret
  exact ⟨rfl, Below.refl _ _⟩
set_option maxHeartbeats 4000000 in
theorem lnew_some (n T : Nat) (w : World) (h1 : 1 ≤ n) (h2 : n ≤ 64) (h3 : 1 ≤ T) (h4 : T ≤ 1024) : Calls Try.prog 6 #[.int .i64 n, .int .i64 T] w fun e w' => ∃ B P, e = .returned (.pointer (some ⟨B, 0, none⟩)) ∧ PM w' B P n T (new n T) ∧ Below w.heap.size w w' ∧ ∀ x ∈ bl B P, w.heap.size ≤ x := by
  have a1 : (1 : Int) ≤ (n : Int) := by omega
  have a2 : (n : Int) ≤ 64 := by omega
  have a3 : (1 : Int) ≤ (T : Int) := by omega
  have a4 : (T : Int) ≤ 1024 := by omega
  have hz0 := zc_zero
  have hz1 := zc_size
  have hz2 := zc_ne
  have CN := fun X => new_some T n h3 (by omega) (by omega) (by omega) X
  go_enter Try.func6, Try.ntmps6
  go_wp2_with (first
    | (go_at_call 15; (with_reducible refine (CN _).mono ?_); rintro e w3 ⟨P, rfl, q3, l3, b3⟩))
  go_ret
  have hz : Row (w3.alloc (.cells (.int .i64 n :: .int .i64 T :: (List.replicate 64 (Value.int .i64 0) ++ [Value.pointer (some ⟨P.B, 0, none⟩)]) : List Value).toArray 43)) w3.heap.size 43 (cs (new n T) n T P) := by
    refine ⟨_, by show (w3.heap.push _)[w3.heap.size]? = _; rw [Array.getElem?_push_size], fun j v hv => ?_⟩
    rw [List.getElem?_toArray, ← hv]
    congr 1
    unfold cs vs new
    congr 2
    congr 1
    rw [← List.map_replicate (f := Value.int .i64) (a := (0 : Int)) (n := 64)]
    congr 1
    rw [List.replicate_append_replicate]
    congr 1
    omega
  have bx : Below w3.heap.size w3 (w3.alloc (.cells (.int .i64 n :: .int .i64 T :: (List.replicate 64 (Value.int .i64 0) ++ [Value.pointer (some ⟨P.B, 0, none⟩)]) : List Value).toArray 43)) := (Below.refl _ w3).alloc (Nat.le_refl _) _
  refine ⟨w3.heap.size, P, rfl, ⟨hz, q3.below bx, fun hm => by have := q3.lt5 hm; omega, by simp [new], rfl, h2⟩, b3.trans (bx.mono b3.size), fun x hx => ?_⟩
  rcases List.mem_cons.1 hx with rfl | hx
  · exact b3.size
  · exact l3 x hx
end Go.Proofs.Ytdmnobkbgmomdaa.Sm
