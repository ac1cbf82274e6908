/- mask's Of; and that the document's examples are as it says. -/
import Derived.Test.YtgoedlgilgnphaaDoorText
namespace Go.Proofs.YtgoedlgilgnphaaDoor
open Go.RowKit Go.Shelf

/-- The set of a list of numbers. -/
def ofN (xs : List Int) : Nat := xs.foldl (fun m i => m ||| bitN i) 0

theorem ofN_lt (xs : List Int) : ofN xs < 18446744073709551616 := by
  unfold ofN
  suffices h : ∀ (l : List Int) (a : Nat), a < 18446744073709551616 → l.foldl (fun m i => m ||| bitN i) a < 18446744073709551616 from h xs 0 (by decide)
  intro l
  induction l with
  | nil => intro a h; exact h
  | cons x l ih => intro a h; exact ih _ (or_lt h (bitN_lt x))

theorem ofN_snoc (xs : List Int) (x : Int) : ofN (xs ++ [x]) = ofN xs ||| bitN x := by simp [ofN, List.foldl_append]

/-- A slice of ints lies in memory. -/
def Ints (w : World) (a : Option Addr) (xs : List Int) : Prop := ∀ j x, xs[j]? = some x → ∃ b o, a = some ⟨b, o, none⟩ ∧ w.cell? ⟨b, o + j, none⟩ = some (.int .i64 x)

set_option maxHeartbeats 2000000 in
theorem of_any (a : Option Addr) (c : Nat) (xs : List Int) (w : World) (hn : xs.length ≤ 1000000) (h : Ints w a xs) :
    Calls Tryd.prog 27 #[.slice a xs.length c] w fun e w' => e = .returned (.int .u64 (ofN xs : Nat)) ∧ w' = w := by
  go_enter Tryd.func27, Tryd.ntmps27
  go_wp2_with fail
  go_loopw [3, 8] (fun p q wr => ∃ k : Nat, k ≤ xs.length ∧ p = .int .u64 (ofN (xs.take k) : Nat) ∧ q = .int .i64 k ∧ wr = w) (fun _ q _ => 1000000 - (intOf q).toNat)
  case atStart => exact ⟨0, by omega, rfl, rfl, rfl⟩
  case round =>
    obtain ⟨k, hk, rfl, rfl, rfl⟩ := hrel
    by_cases hlt : k < xs.length
    · obtain ⟨b, o, rfl, hc⟩ := h k xs[k] (by simp)
      have e1 : ofN (xs.take (k + 1)) = ofN (xs.take k) ||| bitN xs[k] := by
        rw [← ofN_snoc]
        congr 1
        rw [List.take_add_one]
        simp [hlt]
      have hl := ofN_lt (xs.take k)
      generalize xs[k] = x at hc e1
      have h1 : (k : Int) < (xs.length : Int) := by omega
      go_wp2_with (go_at_call 12; refine (with_any _ x hl _).mono ?_; rintro e w' ⟨rfl, rfl⟩; rw [← e1])
      go_roundw
      case rel => exact ⟨k + 1, by omega, by rw [e1], by simp, by trivial⟩
      case measure =>
        simp [intOf]
        omega
    · obtain rfl : k = xs.length := by omega
      rw [List.take_length]
      go_wp2_with fail
      go_ret
      exact ⟨rfl, rfl⟩

theorem partsL_runsS (m : Nat) : partsL (runsS m) = (starts m).map (fun x => partL x (endN m x)) := by
  unfold partsL runsS
  rw [List.map_pmap]
  simp

theorem text_142 : textL 142 = [49, 45, 51, 44, 55] := by
  have h1 : starts 142 = [1, 7] := by decide +kernel
  have h2 : endN 142 1 = 3 := by decide +kernel
  have h3 : endN 142 7 = 7 := by decide +kernel
  unfold textL
  rw [if_neg (by decide), partsL_runsS, h1]
  simp only [List.map_cons, List.map_nil, h2, h3, partL, Lib.decDigits_one (show 1 < 10 by decide), Lib.decDigits_one (show 3 < 10 by decide), Lib.decDigits_one (show 7 < 10 by decide)]
  decide

theorem turn_9 : turnN 9 4 1 = 3 := by decide +kernel

theorem ints_lit (w w' : World) (xs : List Int) (hn : w'.heap[w.heap.size]? = some (.cells (xs.map (Value.int .i64)).toArray 3 (0, 0))) : Ints w' (some ⟨w.heap.size, 0, none⟩) xs := by
  intro j x hx
  refine ⟨_, _, rfl, ?_⟩
  simp [World.cell?, hn, hx]

theorem of4 : ofN [1, 2, 3, 7] = 142 := by decide
theorem of2 : ofN [0, 3] = 9 := by decide
theorem of1 : ofN [0, 1] = 3 := by decide

theorem below2 {A B C : World} (h1 : Below A.heap.size A B) (h2 : Below B.heap.size B C) : Below A.heap.size A C := h1.trans (h2.mono h1.size)

set_option maxHeartbeats 2000000 in
theorem lives_any (w : World) (hT : Tab w) :
    Calls Tryd.prog 26 #[] w fun e w' => e = .returned (.bool true) ∧ Below w.heap.size w w' := by
  have c1 := fun (w : World) => of_any (some ⟨w.heap.size, 0, none⟩) 4 [1, 2, 3, 7] (w.alloc (Obj.cells #[.int .i64 1, .int .i64 2, .int .i64 3, .int .i64 7] 3)) (by decide) (ints_lit w _ _ (World.alloc_heap_new w _))
  have c2 := fun (w : World) => of_any (some ⟨w.heap.size, 0, none⟩) 2 [0, 3] (w.alloc (Obj.cells #[.int .i64 0, .int .i64 3] 3)) (by decide) (ints_lit w _ _ (World.alloc_heap_new w _))
  have c3 := fun (w : World) => of_any (some ⟨w.heap.size, 0, none⟩) 2 [0, 1] (w.alloc (Obj.cells #[.int .i64 0, .int .i64 1] 3)) (by decide) (ints_lit w _ _ (World.alloc_heap_new w _))
  rw [of4] at c1
  rw [of2] at c2
  rw [of1] at c3
  go_enter Tryd.func26, Tryd.ntmps26
  go_wp2_with fail
  refine (c1 w).mono ?_
  rintro e w1 ⟨rfl, rfl⟩
  have hb1 : Below w.heap.size w (w.alloc (Obj.cells #[.int .i64 1, .int .i64 2, .int .i64 3, .int .i64 7] 3)) := (Below.refl _ w).alloc (Nat.le_refl _) _
  clear c1
  generalize (w.alloc (Obj.cells #[.int .i64 1, .int .i64 2, .int .i64 3, .int .i64 7] 3)) = w1 at hb1 ⊢
  have hT1 := hT.below hb1 (Nat.le_refl _)
  go_wp2_with fail
  refine (text_any 142 (by decide) _ hT1).mono ?_
  rintro e w2 ⟨rfl, hb2⟩
  rw [text_142]
  have hb2 := below2 hb1 hb2
  go_wp2_with fail
  refine (c2 w2).mono ?_
  rintro e w3 ⟨rfl, rfl⟩
  have hb3 : Below w.heap.size w (w2.alloc (Obj.cells #[.int .i64 0, .int .i64 3] 3)) := hb2.alloc hb2.size _
  clear c2
  generalize (w2.alloc (Obj.cells #[.int .i64 0, .int .i64 3] 3)) = w3 at hb3 ⊢
  have hT3 := hT.below hb3 (Nat.le_refl _)
  go_wp2_with fail
  refine (turn_any 9 4 1 (by decide) _ hT3).mono ?_
  rintro e w4 ⟨rfl, hb4⟩
  rw [turn_9]
  have hb5 := below2 hb3 hb4
  go_wp2_with fail
  refine (c3 w4).mono ?_
  rintro e w5 ⟨rfl, rfl⟩
  have hb6 : Below w.heap.size w (w4.alloc (Obj.cells #[.int .i64 0, .int .i64 1] 3)) := hb5.alloc hb5.size _
  clear c3
  generalize (w4.alloc (Obj.cells #[.int .i64 0, .int .i64 1] 3)) = w5 at hb6 ⊢
  go_wp2_with fail
  go_ret
  exact ⟨rfl, hb6⟩

end Go.Proofs.YtgoedlgilgnphaaDoor
