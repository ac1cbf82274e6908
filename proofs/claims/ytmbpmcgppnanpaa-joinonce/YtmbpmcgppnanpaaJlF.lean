/- made, has, at, going, of. -/
import Derived.Test.YtmbpmcgppnanpaaJlM
import Derived.ChangeKeysEq
import Derived.Deep.RegionHeld3
namespace Go.Proofs.Ytmbpmcgppnanpaa.Jl
open Go Go.RowKit Go.Proofs.Ytmbpmcgppnanpaa.Bs Go.Proofs.Ytmbpmcgppnanpaa.Jn
open Go.Proofs.Ytmbpmcgppnanpaa.Ids (right indexI ageI idI index_any)
open Go.Proofs.Ytmbpmcgppnanpaa.Lk (LQ Pl iv ints)
variable {w w' : World} {B t j n : Nat} {P : Pl} {σ : St} {ls : List (List Nat)} {wt : List Int}

theorem made_any (h : PM w B t j P n σ ls wt) : Calls Try.prog 40 #[.pointer (some ⟨B, 0, none⟩)] w fun e w' => e = .returned (.bool true) ∧ w' = w := by
  have c1 := h.c1
  go_enter Try.func40, Try.ntmps40
  go_wp2_with fail
  go_ret
  exact ⟨rfl, rfl⟩
theorem has_any (h : PM w B t j P n σ ls wt) (id : Int) (hi : Iv id) : Calls Try.prog 39 #[.pointer (some ⟨B, 0, none⟩), .int .i64 id] w fun e w' => e = .returned (.bool (decide (¬ plc σ id < 0))) ∧ w' = w := by
  obtain ⟨k, hk, c0⟩ := h.c0
  have hM := made_any h
  have I := index_any id hi.1 hi.2 w
  have hz : decide (¬ plc σ id < 0) = (decide (0 ≤ indexI id) && decide (indexI id < (n : Int))) := by
    unfold plc
    rw [h.sl]
    split
    · next e => rw [decide_eq_false (by omega), decide_eq_false (p := indexI id < (n : Int)) (by omega)]; simp
    · next e => rw [decide_eq_true (p := indexI id < (n : Int)) (by omega), Bool.and_true]; congr 1; simp
  rw [hz]
  clear hz hi
  generalize indexI id = x at *
  by_cases h1 : 0 ≤ x
  all_goals
    first | rw [decide_eq_true h1] | rw [decide_eq_false h1]
    go_enter Try.func39, Try.ntmps39
    go_wp2_with (first
      | (go_at_call 34; (with_reducible refine I.mono ?_); rintro e w1 ⟨rfl, hw⟩; subst w1)
      | (go_at_call 40; (with_reducible refine hM.mono ?_); rintro e w1 ⟨rfl, hw⟩; subst w1))
    go_ret
    exact ⟨rfl, rfl⟩
theorem drewK {w w' : World} {b : Nat} {p q r s : Addr} {u v z x : Value} (h : w'.cell? p = some u ∧ w'.cell? q = some v ∧ w'.cell? r = some z ∧ w'.cell? s = some x ∧ Below b w w') : w'.drew.cell? p = some u ∧ w'.drew.cell? q = some v ∧ w'.drew.cell? r = some z ∧ w'.drew.cell? s = some x ∧ Below b w w'.drew := ⟨h.1, h.2.1, h.2.2.1, h.2.2.2.1, h.2.2.2.2.drew⟩
set_option maxHeartbeats 1000000 in
theorem at_any (h : PM w B t j P n σ ls wt) (id : Int) (hi : Iv id) {k : Nat} (hk : k < n) (he : indexI id = k) : Calls Try.prog 32 #[.pointer (some ⟨B, 0, none⟩), .int .i64 id] w fun e w' => e = .returned (agK (rw σ k).id (stN (rw σ k)) (vaN (rw σ k))) ∧ Below w.heap.size w w' := by
  obtain ⟨c, hc, c0⟩ := h.c0
  have I := fun W => index_any id hi.1 hi.2 W
  rw [he] at I
  have r0 := h.r0 hk
  have r1 := h.r1 hk
  have r2 := h.r2 hk
  have hk' : (k : Int) < (n : Int) := by omega
  unfold agK
  generalize (rw σ k).id = a at *
  generalize stN (rw σ k) = s at *
  generalize vaN (rw σ k) = v at *
  have HK : ∀ X, Below w.heap.size w X → X.cell? ⟨B, 0, none⟩ = some (.slice (some ⟨t, 0, none⟩) n c) ∧ X.cell? ⟨t, k * 3, none⟩ = some (.int .i64 a) ∧ X.cell? ⟨t, k * 3 + 1, none⟩ = some (.int .i64 s) ∧ X.cell? ⟨t, k * 3 + 2, none⟩ = some (.int .i64 v) ∧ Below w.heap.size w X := fun X hX => ⟨cell_on hX c0, cell_on hX r0, cell_on hX r1, cell_on hX r2, hX⟩
  have b1 : ∀ o, Below w.heap.size w (w.alloc o).drew := fun o => ((Below.refl _ w).alloc (Nat.le_refl _) o).drew
  have hS := HK _ ((Below.refl _ w).alloc (Nat.le_refl _) (.cells #[.int .i64 0, .int .i64 0, .int .i64 0] 64))
  clear h he hi c0 r0 r1 r2
  go_enter Try.func32, Try.ntmps32
  go_wp2_with fail
  go_region_held3 (fun w' => w'.cell? ⟨B, 0, none⟩ = some (.slice (some ⟨t, 0, none⟩) n c) ∧ w'.cell? ⟨t, k * 3, none⟩ = some (.int .i64 a) ∧ w'.cell? ⟨t, k * 3 + 1, none⟩ = some (.int .i64 s) ∧ w'.cell? ⟨t, k * 3 + 2, none⟩ = some (.int .i64 v) ∧ Below w.heap.size w w') (first | with_reducible assumption | (with_reducible exact HK _ (b1 _))) (first
    | (go_at_call 34; refine (I _).mono ?_; rintro e w' ⟨rfl, hw⟩; subst w'))
  all_goals
    go_wp2_with fail
    exact ⟨rfl, .agg #[.int .i64 a, .int .i64 s, .int .i64 v], by simp [results, Try.f32, go_sem], rfl, b1 _⟩
theorem going_any (id : Int) (w : World) : Calls Try.prog 33 #[.int .i64 id] w fun e w' => e = .returned (agK id 1 0) ∧ Below w.heap.size w w' := by
  have b1 : ∀ o, Below w.heap.size w (w.alloc o) := fun o => (Below.refl _ w).alloc (Nat.le_refl _) o
  unfold agK
  go_enter Try.func33, Try.ntmps33
  go_wp2_with fail
  exact ⟨rfl, .agg #[.int .i64 id, .int .i64 1, .int .i64 0], by simp [results, Try.f33, go_sem], rfl, b1 _⟩
/-- What is known of a thread. -/
def ofI (σ : St) (id : Int) : Value := if stI σ id = 0 then agK 0 0 0 else agK id (stI σ id) (vaN (at_ σ id))
section
set_option maxRecDepth 100000
set_option maxHeartbeats 1000000
theorem box3 {X : World} {g : Nat} {a b c : Value} {t : TypeId} (h : X.heap[g]? = some (.cells #[a, b, c] t (0, 0))) : (X.cell? ⟨g, 0, none⟩ = some a ∧ X.cell? ⟨g, 1, none⟩ = some b ∧ X.cell? ⟨g, 2, none⟩ = some c) ∧ X.frozen? ⟨g, 0, none⟩ = false ∧ X.frozen? ⟨g, 1, none⟩ = false ∧ X.frozen? ⟨g, 2, none⟩ = false := by
  simp [World.cell?, World.frozen?, h]
theorem fieldK0 (a b c : Int) (W : World) : Sem.run Try.prog (Instr.field 64 (.agg #[.int .i64 a, .int .i64 b, .int .i64 c]) 0) W = .ok (.int .i64 a) W := by kernel_rfl
theorem fieldK1 (a b c : Int) (W : World) : Sem.run Try.prog (Instr.field 64 (.agg #[.int .i64 a, .int .i64 b, .int .i64 c]) 1) W = .ok (.int .i64 b) W := by kernel_rfl
theorem of_any (h : PM w B t j P n σ ls wt) (H : Ok n σ) (id : Int) (hi : Iv id) : Calls Try.prog 35 #[.pointer (some ⟨B, 0, none⟩), .int .i64 id] w fun e w' => e = .returned (ofI σ id) ∧ Below w.heap.size w w' := by
  have b0 : But [] w (w.alloc (.cells #[.int .i64 0, .int .i64 0, .int .i64 0] 64)) := (But.refl [] w).alloc _
  have F0 := fieldK0
  have HH := has_any (h.keep b0) id hi
  unfold ofI stI
  by_cases hp : plc σ id < 0
  · rw [if_pos hp, if_pos rfl]
    rw [decide_eq_false (not_not_intro hp)] at HH
    unfold agK
    go_enter Try.func35, Try.ntmps35
    go_wp2_with (first | (go_at_call 39; (with_reducible refine HH.mono ?_); rintro e w1 ⟨rfl, hw⟩; subst w1))
    exact ⟨rfl, .agg #[.int .i64 0, .int .i64 0, .int .i64 0], by simp [results, Try.f35, go_sem], rfl, b0.to_below⟩
  rw [if_neg hp]
  rw [decide_eq_true hp] at HH
  obtain ⟨k, e1, hk, e3, e4⟩ := H.plc hp
  have ea : at_ σ id = rw σ k := by unfold at_; rw [e1, Int.toNat_natCast]
  have HA := fun X (hX : PM X B t j P n σ ls wt) => at_any hX id hi hk e3
  have h0 := h.keep b0
  have BX : ∀ X, Below (w.heap.size + 1) (w.alloc (.cells #[.int .i64 0, .int .i64 0, .int .i64 0] 64)) X → X.heap[w.heap.size]? = some (.cells #[.int .i64 0, .int .i64 0, .int .i64 0] 64 (0, 0)) := fun X hX => (hX.block w.heap.size (by omega)).trans (heap_alloc_new _ _)
  have hz : (w.alloc (.cells #[.int .i64 0, .int .i64 0, .int .i64 0] 64)).heap.size = w.heap.size + 1 := by simp
  rw [ea]
  by_cases e5 : (rw σ k).id = id
  · have hne : id ≠ 0 := id_ne e4
    have hs : stN (rw σ k) = if (rw σ k).en then 2 else 1 := by unfold stN; rw [if_neg (by rw [e5]; exact hne)]
    rw [if_neg (not_not_intro e5), if_neg (by split <;> omega), ← hs]
    rw [e5] at HA
    have HE : Hid (agK id (stN (rw σ k)) (vaN (rw σ k)) = agK id (stN (rw σ k)) (vaN (rw σ k))) := rfl
    unfold agK at HA ⊢
    generalize stN (rw σ k) = s at *
    generalize vaN (rw σ k) = v at *
    clear hs e5 ea e1 HE
    go_enter Try.func35, Try.ntmps35
    go_wp2_with (first
      | (go_at_call 39; (with_reducible refine HH.mono ?_); rintro e w1 ⟨rfl, hw⟩; subst w1)
      | (go_at_call 32; (with_reducible refine (HA _ h0).mono ?_); rintro e w1 ⟨rfl, b1⟩; have h1 := h0.below b1)
      | (go_at_call 32; (with_reducible refine (HA _ h1).mono ?_); rintro e w2 ⟨rfl, b2⟩; obtain ⟨⟨y0, y1, y2⟩, z0, z1, z2⟩ := box3 (BX _ ((b1.trans (b2.mono b1.size)).mono (by omega))); have b3 := (b0.to_below.trans (b1.mono b0.size)).trans (b2.mono (Nat.le_trans b0.size b1.size)))
      )
    exact ⟨rfl, .agg #[.int .i64 id, .int .i64 s, .int .i64 v], by simp [results, Try.f35, go_sem, y0, y1, y2], rfl, ((b3.setCell (Nat.le_refl _) _).setCell (Nat.le_refl _) _).setCell (Nat.le_refl _) _⟩
  · rw [if_pos e5, if_pos rfl]
    have e6 : ((rw σ k).id == id) = false := by simpa using e5
    unfold agK at HA ⊢
    generalize (rw σ k).id = y at *
    generalize stN (rw σ k) = s at *
    generalize vaN (rw σ k) = v at *
    clear e5 ea e1
    go_enter Try.func35, Try.ntmps35
    go_wp2_with (first
      | (go_at_call 39; (with_reducible refine HH.mono ?_); rintro e w1 ⟨rfl, hw⟩; subst w1)
      | (go_at_call 32; (with_reducible refine (HA _ h0).mono ?_); rintro e w1 ⟨rfl, b1⟩; obtain ⟨⟨y0, y1, y2⟩, z0, z1, z2⟩ := box3 (BX _ (b1.mono (by omega))); have b3 := b0.to_below.trans (b1.mono b0.size))
      )
    exact ⟨rfl, .agg #[.int .i64 0, .int .i64 0, .int .i64 0], by simp [results, Try.f35, go_sem, y0, y1, y2], rfl, ((b3.setCell (Nat.le_refl _) _).setCell (Nat.le_refl _) _).setCell (Nat.le_refl _) _⟩
theorem eqK_at (W : World) (a b c d e f : Int) : (Op.equalIn 10000 64 (agK a b c) (agK d e f)).run Try.prog W = .ok (a == d && (b == e && c == f)) W := by
  have u3 := Try.underlying3
  have a3 := Try.isAgg3
  have z3 := Try.sizeOf3
  have hS : Try.prog.underlying 64 = some (.struct (Try.prog.fieldsOf 64)) := by kernel_rfl
  have hp : Try.prog.stoodInHeld 64 = false := by kernel_rfl
  unfold agK
  rw [show (10000 : Nat) = 9999 + 1 from rfl, run_equalIn_agg W 9999 64 _ _ hS hp]
  simp only [Program.fieldsOf, Try.underlying64]
  go_simp
  by_cases h1 : a = d <;> by_cases h2 : b = e <;> by_cases h3 : c = f <;> simp [h1, h2, h3]
theorem eqK (W : World) (a b c d e f : Int) : (binOp .eql 64 (agK a b c) (agK d e f)).run Try.prog W = .ok (.bool (a == d && (b == e && c == f))) W := by
  have key := eqK_at W a b c d e f
  unfold agK at key ⊢
  rw [run_eql_struct, key]
  rfl
theorem neK (W : World) (a b c d e f : Int) : (binOp .neq 64 (agK a b c) (agK d e f)).run Try.prog W = .ok (.bool (!(a == d && (b == e && c == f)))) W := by
  have key := eqK_at W a b c d e f
  unfold agK at key ⊢
  simp only [binOp, Op.equal, Op.maxDepth, Sem.run_bind, key, Result.andThen_ok, Sem.run_pure]
end
end Go.Proofs.Ytmbpmcgppnanpaa.Jl
