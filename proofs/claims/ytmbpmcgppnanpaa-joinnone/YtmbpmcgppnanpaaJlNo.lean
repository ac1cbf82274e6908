/- Ends that no call made. -/
import Derived.Test.YtmbpmcgppnanpaaJlK
import Derived.Test.YtmbpmcgppnanpaaJnNw
namespace Go.Proofs.Ytmbpmcgppnanpaa.Jl
open Go Go.RowKit Go.Shelf Go.Proofs.Ytmbpmcgppnanpaa.Bs Go.Proofs.Ytmbpmcgppnanpaa.Jn
open Go.Proofs.Ytmbpmcgppnanpaa.Ids (right indexI ageI idI index_any)
attribute [local go_sem] Oper.semAt_some
set_option linter.unusedSimpArgs false

/-- No ends are there, or such as have no lists. -/
def Un (w : World) (p : Option Addr) : Prop := p = none ∨ ∃ B, p = some ⟨B, 0, none⟩ ∧ w.cell? ⟨B, 1, none⟩ = some (.pointer none)
theorem Un.keep {w w' : World} {p : Option Addr} (h : Un w p) (hb : Below w.heap.size w w') : Un w' p :=
  h.imp id (fun ⟨B, e, hc⟩ => ⟨B, e, cell_on hb hc⟩)
section
set_option maxRecDepth 100000
set_option maxHeartbeats 1000000
variable {w : World} {p : Option Addr}
theorem made_no (h : Un w p) : Calls Try.prog 40 #[.pointer p] w fun e w' => e = .returned (.bool false) ∧ w' = w := by
  rcases h with rfl | ⟨B, rfl, hc⟩
  all_goals
    go_enter Try.func40, Try.ntmps40
    go_wp2_with fail
    go_ret
    exact ⟨rfl, rfl⟩
theorem has_no (h : Un w p) (id : Int) (hi : Iv id) : Calls Try.prog 39 #[.pointer p, .int .i64 id] w fun e w' => e = .returned (.bool false) ∧ w' = w := by
  have I := fun X => index_any id hi.1 hi.2 X
  go_enter Try.func39, Try.ntmps39
  go_wp2_with (first
    | (go_at_call 40; (with_reducible refine (made_no h).mono ?_); rintro e w' ⟨rfl, hw⟩; subst w')
    | (go_at_call 34; (with_reducible refine (I _).mono ?_); rintro e w' ⟨rfl, hw⟩; subst w'))
  go_ret
  exact ⟨rfl, rfl⟩
theorem of_no (h0 : Un w p) (id : Int) (hi : Iv id) : Calls Try.prog 35 #[.pointer p, .int .i64 id] w fun e w' => e = .returned (agK 0 0 0) ∧ Below w.heap.size w w' := by
  have b0 : But [] w (w.alloc (.cells #[.int .i64 0, .int .i64 0, .int .i64 0] 64)) := (But.refl [] w).alloc _
  have HH := has_no (h0.keep b0.to_below) id hi
  unfold agK
  go_enter Try.func35, Try.ntmps35
  go_wp2_with (first | (go_at_call 39; (with_reducible refine HH.mono ?_); rintro e w1 ⟨rfl, hw⟩; subst w1))
  exact ⟨rfl, .agg #[.int .i64 0, .int .i64 0, .int .i64 0], by simp [results, Try.f35, go_sem], rfl, b0.to_below⟩
theorem ask_no (h : Un w p) (id : Int) (f : Value) : Calls Try.prog 30 #[.pointer p, .int .i64 id, f] w fun e w' => e = .returned (.int .i64 1) ∧ w' = w := by
  go_enter Try.func30, Try.ntmps30
  go_wp2_with (first | (go_at_call 40; (with_reducible refine (made_no h).mono ?_); rintro e w' ⟨rfl, hw⟩; subst w'))
  go_ret
  exact ⟨rfl, rfl⟩
theorem start_no (h0 : Un w p) (id : Int) : Calls Try.prog 12 #[.pointer p, .int .i64 id] w fun e w' => e = .returned (.int .i64 1) ∧ Below w.heap.size w w' := by
  have b0 : But [] w ((w.alloc (.cells #[.pointer p] 24)).alloc (.cells #[.int .i64 id] 3)) := ((But.refl [] w).alloc _).alloc _
  have HA := fun f => ask_no (h0.keep b0.to_below) id f
  go_enter Try.func12, Try.ntmps12
  go_wp2_with (first | (go_at_call 30; (with_reducible refine (HA _).mono ?_); rintro e w1 ⟨rfl, hw⟩; subst w1))
  go_ret
  exact ⟨rfl, b0.to_below⟩
theorem end_no (h : Un w p) (id v : Int) : Calls Try.prog 15 #[.pointer p, .int .i64 id, .int .i64 v] w fun e w' => e = .returned (.tuple #[.slice none 0 0, .int .i64 1]) ∧ Below w.heap.size w w' := by
  go_enter Try.func15, Try.ntmps15
  go_wp2_with (first | (go_at_call 40; (with_reducible refine (made_no h).mono ?_); rintro e w' ⟨rfl, hw⟩; subst w'))
  go_ret2
  exact ⟨rfl, Below.refl _ _⟩
theorem join_no (h0 : Un w p) (id t : Int) (hi : Iv id) : Calls Try.prog 13 #[.pointer p, .int .i64 id, .int .i64 t] w fun e w' => e = .returned (.tuple #[.int .i64 0, .bool false, .int .i64 1]) ∧ Below w.heap.size w w' := by
  obtain ⟨W, hW⟩ : ∃ W, Hid (W = ((w.alloc (.cells #[.pointer p] 24)).alloc (.cells #[.int .i64 id] 3)).alloc (.cells #[.int .i64 t] 3)) := ⟨_, rfl⟩
  have bW : But [] w W := by rw [hW.out]; exact (((But.refl [] w).alloc _).alloc _).alloc _
  obtain ⟨x0, x1, x2⟩ := box_three w 24 3 3 (.pointer p) (.int .i64 id) (.int .i64 t)
  rw [← hW.out] at x0 x1 x2
  have h := h0.keep bW.to_below
  have HO := of_no h id hi
  have HA := fun X (hX : But [] W X) f => ask_no (h.keep hX.to_below) t f
  have KX : ∀ X, But [] W X → X.cell? ⟨w.heap.size, 0, none⟩ = some (.pointer p) ∧ X.cell? ⟨w.heap.size + 1, 0, none⟩ = some (.int .i64 id) ∧ X.cell? ⟨w.heap.size + 2, 0, none⟩ = some (.int .i64 t) := fun X hX => ⟨hX.cell x0, hX.cell x1, hX.cell x2⟩
  rw [hW.out] at HO HA bW KX
  unfold agK at HO
  clear x0 x1 x2 h
  go_enter Try.func13, Try.ntmps13
  go_wp2_with (first
    | (go_at_call 35; (with_reducible refine HO.mono ?_); rintro e w1 ⟨rfl, b1⟩; have bX := (But.of_below (S := []) b1).alloc (.cells #[.int .i64 0, .int .i64 0, .int .i64 0] 64); obtain ⟨y0, y1, y2⟩ := KX _ bX)
    | (go_at_call 30; (with_reducible refine (HA _ bX _).mono ?_); rintro e w2 ⟨rfl, hw⟩; subst w2))
  go_ret3
  exact ⟨rfl, (bW.trans bX).to_below⟩
theorem where_q (h : Un w p) (t : Int) (ht : Iv t) : Calls Try.prog 14 #[.pointer p, .int .i64 t] w fun e w' => e = .returned (.int .i64 0) ∧ ∃ m, w' = w.drewN m := by
  have HH := fun m => has_no (h.keep ((But.refl [] w).drewN m).to_below) t ht
  go_enter Try.func14, Try.ntmps14
  go_wp2_with fail
  go_quiet (first | (go_at_call 39; exact Calls.quiet_of_same (HH _)))
  go_wp2_with fail
  go_ret
  exact ⟨rfl, _, rfl⟩
theorem where_no (h : Un w p) (t : Int) (ht : Iv t) : Calls Try.prog 14 #[.pointer p, .int .i64 t] w fun e w' => e = .returned (.int .i64 0) ∧ Below w.heap.size w w' :=
  (where_q h t ht).mono fun e w' ⟨h1, m, h2⟩ => ⟨h1, by rw [h2]; exact ((But.refl [] w).drewN m).to_below⟩
theorem drop_no (h : Un w p) (t : Int) (ht : Iv t) : Calls Try.prog 21 #[.pointer p, .int .i64 t] w fun e w' => e = .returned (.bool false) ∧ Below w.heap.size w w' := by
  have WQ := fun m => where_q (h.keep ((But.refl [] w).drewN m).to_below) t ht
  go_enter Try.func21, Try.ntmps21
  go_wp2_with fail
  go_quiet (first | (go_at_call 14; exact Calls.quiet_of (WQ _)))
  go_wp2_with fail
  go_ret
  exact ⟨rfl, ((But.refl [] w).drewN _).to_below⟩
theorem state_no (h : Un w p) (id : Int) (hi : Iv id) : Calls Try.prog 17 #[.pointer p, .int .i64 id] w fun e w' => e = .returned (.int .i64 0) ∧ Below w.heap.size w w' := by
  have HO := of_no h id hi
  have F1 := fieldK1
  unfold agK at HO
  go_enter Try.func17, Try.ntmps17
  go_wp2_with (first | (go_at_call 35; (with_reducible refine HO.mono ?_); rintro e w1 ⟨rfl, b1⟩))
  go_ret
  exact ⟨rfl, b1⟩
theorem copy_no (h : Un w p) : Calls Try.prog 22 #[.pointer p] w fun e w' => e = .returned (.pointer none) ∧ Below w.heap.size w w' := by
  go_enter Try.func22, Try.ntmps22
  go_wp2_with (first | (go_at_call 40; (with_reducible refine (made_no h).mono ?_); rintro e w' ⟨rfl, hw⟩; subst w'))
  go_ret
  exact ⟨rfl, Below.refl _ _⟩
theorem waiters_no (h : Un w p) (id : Int) (hi : Iv id) : Calls Try.prog 19 #[.pointer p, .int .i64 id] w fun e w' => e = .returned (.slice none 0 0) ∧ Below w.heap.size w w' := by
  have b0 : But [] w (w.alloc (.cells #[.pointer p] 24)) := (But.refl [] w).alloc _
  have HO := of_no (h.keep b0.to_below) id hi
  have HG := fun W => going_any id W
  have NE := fun W => neK W 0 0 0 id 1 0
  rw [show (!((0 : Int) == id && ((0 : Int) == 1 && (0 : Int) == 0))) = true by simp] at NE
  unfold agK at HO HG NE
  refine (callsIn_wide (n := 5)).1 ?_
  refine callsIn_of_wp_marks Try.func19 rfl trivial ?_ rfl
  simp only [Try.ntmps19, List.size_toArray, List.length_cons, List.length_nil, Nat.reduceAdd, Nat.reduceSub, Array.replicate_succ, Array.replicate_zero, List.push_toArray, List.append_toArray, List.nil_append, List.cons_append]
  refine wpIn_wide.2 ?_
  go_wp2_with (first
    | (go_at_call 35; (with_reducible refine HO.mono ?_); rintro e w1 ⟨rfl, b1⟩)
    | (go_at_call 33; (with_reducible refine (HG _).mono ?_); rintro e w2 ⟨rfl, b2⟩))
  refine ⟨.slice none 0 0, by simp [results, Try.f19, go_sem], rfl, b0.to_below.trans ((b1.trans (b2.mono b1.size)).mono b0.size)⟩
end
theorem noSide : NoSide Un where
  nil := fun _ => .inl rfl
  zero := fun w => .inr ⟨_, rfl, by
    have h := heap_alloc_new w (.cells #[.slice none 0 0, .pointer none, .slice none 0 0] 52)
    unfold World.cell?
    rw [h]
    rfl⟩
  keep := fun h hb => h.keep hb
  start := fun h id => start_no h id
  end_ := fun h id v => end_no h id v
  join := fun h id t hi => join_no h id t hi
  drop := fun h t ht => drop_no h t ht
  state := fun h id hi => state_no h id hi
  where_ := fun h t ht => where_no h t ht
  waiters := fun h id hi => waiters_no h id hi
  copy := fun h => copy_no h
end Go.Proofs.Ytmbpmcgppnanpaa.Jl
