/- The walk of JoinNone, over whatever ends that no call made tell, if they tell nothing. -/
import Derived.Test.YtmbpmcgppnanpaaJnV
namespace Go.Proofs.Ytmbpmcgppnanpaa.Jn
open Go Go.RowKit Go.Proofs.Ytmbpmcgppnanpaa.Bs
set_option linter.unusedSimpArgs false

/-- What ends that no call made tell: none are there, or such as hold nothing. -/
structure NoSide (Un : World → Option Addr → Prop) : Prop where
  nil : ∀ w : World, Un w none
  zero : ∀ w : World, Un (w.alloc (.cells #[.slice none 0 0, .pointer none, .slice none 0 0] 52)) (some ⟨w.heap.size, 0, none⟩)
  keep : ∀ {w w' : World} {p : Option Addr}, Un w p → Below w.heap.size w w' → Un w' p
  start : ∀ {w : World} {p : Option Addr}, Un w p → ∀ id : Int, Calls Try.prog 12 #[.pointer p, .int .i64 id] w fun e w' => e = .returned (.int .i64 1) ∧ Below w.heap.size w w'
  end_ : ∀ {w : World} {p : Option Addr}, Un w p → ∀ id v : Int, Calls Try.prog 15 #[.pointer p, .int .i64 id, .int .i64 v] w fun e w' => e = .returned (.tuple #[.slice none 0 0, .int .i64 1]) ∧ Below w.heap.size w w'
  join : ∀ {w : World} {p : Option Addr}, Un w p → ∀ id t : Int, Iv id → Calls Try.prog 13 #[.pointer p, .int .i64 id, .int .i64 t] w fun e w' => e = .returned (.tuple #[.int .i64 0, .bool false, .int .i64 1]) ∧ Below w.heap.size w w'
  drop : ∀ {w : World} {p : Option Addr}, Un w p → ∀ t : Int, Iv t → Calls Try.prog 21 #[.pointer p, .int .i64 t] w fun e w' => e = .returned (.bool false) ∧ Below w.heap.size w w'
  state : ∀ {w : World} {p : Option Addr}, Un w p → ∀ id : Int, Iv id → Calls Try.prog 17 #[.pointer p, .int .i64 id] w fun e w' => e = .returned (.int .i64 0) ∧ Below w.heap.size w w'
  where_ : ∀ {w : World} {p : Option Addr}, Un w p → ∀ t : Int, Iv t → Calls Try.prog 14 #[.pointer p, .int .i64 t] w fun e w' => e = .returned (.int .i64 0) ∧ Below w.heap.size w w'
  waiters : ∀ {w : World} {p : Option Addr}, Un w p → ∀ id : Int, Iv id → Calls Try.prog 19 #[.pointer p, .int .i64 id] w fun e w' => e = .returned (.slice none 0 0) ∧ Below w.heap.size w w'
  copy : ∀ {w : World} {p : Option Addr}, Un w p → Calls Try.prog 22 #[.pointer p] w fun e w' => e = .returned (.pointer none) ∧ Below w.heap.size w w'
theorem arr2 (W : World) (Z : Nat) (j : Nat) (hj : j < 2) : Sem.run Try.prog (Instr.index 53 (.agg #[.pointer none, .pointer (some ⟨Z, 0, none⟩)]) (.int .i64 (j : Int))) W = .ok (.pointer (if j = 0 then none else some ⟨Z, 0, none⟩)) W := by
  rcases (show j = 0 ∨ j = 1 by omega) with rfl | rfl
  · kernel_rfl
  · kernel_rfl
set_option maxRecDepth 100000 in
set_option maxHeartbeats 4000000 in
theorem none_law {Un : World → Option Addr → Prop} (U : NoSide Un) (HL : ∀ W, Calls Try.prog 7 #[] W fun e w' => e = .returned (.bool true) ∧ Below W.heap.size W w') (x : Ax) (hx : x.Ok) (w : World) :
    Calls Try.prog 6 #[.agg x.cells] w fun e w' => e = .returned (.bool true) ∧ Below w.heap.size w w' := by
  have J := ids_any x
  have hi := hx.id
  have ht := hx.t
  clear hx
  have hA := (At7.new w x).but (S' := []) ((But.refl [] (w.alloc (.cells x.cells 29))).alloc (.cells #[.slice none 0 0, .pointer none, .slice none 0 0] 52)) (by simp)
  have hZ := U.zero (w.alloc (.cells x.cells 29))
  have b0 : But [] w ((w.alloc (.cells x.cells 29)).alloc (.cells #[.slice none 0 0, .pointer none, .slice none 0 0] 52)) := ((But.refl [] w).alloc _).alloc _
  have A7 : ∀ X, At7 X w.heap.size x → _ := fun X h => h.all
  rw [World.size_alloc] at hZ
  obtain ⟨k, p, a, b, g, raw, v⟩ := x
  generalize Ax.id ⟨k, p, a, b, g, raw, v⟩ = id at *
  generalize Ax.t ⟨k, p, a, b, g, raw, v⟩ = t at *
  dsimp only at A7
  dsimp only [Ax.cells] at J hA hZ b0 ⊢
  go_enter Try.func6, Try.ntmps6
  go_wp2_with fail
  generalize (w.alloc (.cells #[.int .i64 k, .int .i64 p, .int .i64 a, .int .i64 b, .int .i64 g, .bool raw, .int .i64 v] 29)).alloc (.cells #[.slice none 0 0, .pointer none, .slice none 0 0] 52) = W1 at *
  go_wp2_with (first
    | (go_at_call 18; (with_reducible refine (J _).mono ?_); rintro e wi ⟨rfl, hbi⟩; have hA2 := hA.but (.of_below hbi) (List.not_mem_nil (a := w.heap.size)); have hZ2 := U.keep hZ hbi; have b2 := b0.trans (.of_below hbi); clear hA hZ b0 hbi))
  go_loopw [19, 7, 8, 9, 10, 11, 12] (fun v _ _ _ _ _ _ wr => ∃ j : Nat, j ≤ 2 ∧ v = .int .i64 j ∧ Below wi.heap.size wi wr) (fun v _ _ _ _ _ _ _ => 2 - (intOf v).toNat)
  case atStart => exact ⟨0, by omega, rfl, Below.refl _ _⟩
  case round =>
    obtain ⟨j, hj, rfl, hb⟩ := hrel
    by_cases hlt : j < 2
    · have hix := arr2 wr (w.heap.size + 1) j hlt
      have hp : Un wr (if j = 0 then none else some ⟨w.heap.size + 1, 0, none⟩) := by
        by_cases h : j = 0
        · rw [if_pos h]; exact U.nil _
        · rw [if_neg h]; exact U.keep hZ2 hb
      generalize (if j = 0 then none else some (⟨w.heap.size + 1, 0, none⟩ : Addr)) = q at hix hp
      have hlt' : (j : Int) < 2 := by omega
      obtain ⟨y0, y1, y2, y3, y4, y5, y6⟩ := A7 _ (hA2.but (.of_below hb) (List.not_mem_nil (a := w.heap.size)))
      have tr : ∀ {X Y : World}, Below wi.heap.size wi X → Below X.heap.size X Y → Below wi.heap.size wi Y := fun {X Y} h1 h2 => h1.trans (h2.mono h1.size)
      clear y0 y1 y2 y3 y4 y5
      go_wp2_with (first
        | (go_at_call 15; (with_reducible refine (U.end_ hp _ _).mono ?_); rintro e w1 ⟨rfl, c1⟩; have p1 := U.keep hp c1)
        | (go_at_call 13; (with_reducible refine (U.join p1 _ _ hi).mono ?_); rintro e w2 ⟨rfl, c2⟩; have p2 := U.keep p1 c2)
        | (go_at_call 12; (with_reducible refine (U.start p2 _).mono ?_); rintro e w3 ⟨rfl, c3⟩; have p3 := U.keep p2 c3)
        | (go_at_call 19; (with_reducible refine (U.waiters p3 _ hi).mono ?_); rintro e w4 ⟨rfl, c4⟩; have p4 := U.keep p3 c4)
        | (go_at_call 14; (with_reducible refine (U.where_ p4 _ ht).mono ?_); rintro e w5 ⟨rfl, c5⟩; have p5 := U.keep p4 c5)
        | (go_at_call 17; (with_reducible refine (U.state p5 _ hi).mono ?_); rintro e w6 ⟨rfl, c6⟩; have p6 := U.keep p5 c6)
        | (go_at_call 21; (with_reducible refine (U.drop p6 _ ht).mono ?_); rintro e w7 ⟨rfl, c7⟩; have p7 := U.keep p6 c7)
        | (go_at_call 22; (with_reducible refine (U.copy p7).mono ?_); rintro e w8 ⟨rfl, c8⟩))
      go_roundw
      case rel => exact ⟨j + 1, by omega, by simp, tr (tr (tr (tr (tr (tr (tr (tr hb c1) c2) c3) c4) c5) c6) c7) c8⟩
      case measure =>
        simp [intOf]
        omega
    · obtain rfl : j = 2 := by omega
      have LV := HL wr
      go_wp2_with (go_at_call 7; (with_reducible refine LV.mono ?_); rintro e w2 ⟨rfl, c2⟩)
      go_ret
      exact ⟨rfl, ((b2.trans (.of_below hb)).trans (.of_below c2)).to_below⟩
end Go.Proofs.Ytmbpmcgppnanpaa.Jn
