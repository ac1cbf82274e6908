/- Start. -/
import Derived.Test.YtmbpmcgppnanpaaJlF
import Derived.Test.YtmbpmcgppnanpaaTailB
import Derived.Test.YtmbpmcgppnanpaaLkPush
import Derived.Test.YtmbpmcgppnanpaaLkRem
namespace Go.Proofs.Ytmbpmcgppnanpaa.Jl
open Go Go.RowKit Go.Proofs.Ytmbpmcgppnanpaa.Bs Go.Proofs.Ytmbpmcgppnanpaa.Jn
open Go.Proofs.Ytmbpmcgppnanpaa.Ids (right indexI ageI idI index_any)
open Go.Proofs.Ytmbpmcgppnanpaa.Lk (LQ Pl iv ints)
variable {w w' : World} {B t j n : Nat} {P : Pl} {σ : St} {ls : List (List Nat)} {wt : List Int}

/-- Is it just what is kept of one that goes on? -/
theorem kn_going (r : Rw) : (r.id == r.id && (stN r == 1 && vaN r == 0)) = decide (r.id ≠ 0 ∧ r.en = false) := by
  unfold stN vaN
  by_cases h1 : r.id = 0
  · rw [if_pos h1]
    simp [h1]
  · rw [if_neg h1]
    cases r.en <;> simp [h1]
theorem newK (w : World) (a b c : Value) : (w.alloc (.cells #[a, b, c] 64)).cell? ⟨w.heap.size, 0, none⟩ = some a ∧ (w.alloc (.cells #[a, b, c] 64)).cell? ⟨w.heap.size, 1, none⟩ = some b ∧ (w.alloc (.cells #[a, b, c] 64)).cell? ⟨w.heap.size, 2, none⟩ = some c := by
  obtain ⟨h, -⟩ := box3 (heap_alloc_new w (.cells #[a, b, c] 64))
  exact h
theorem on3 {X Y : World} {p q r : Addr} {u v z : Value} (h : X.cell? p = some u ∧ X.cell? q = some v ∧ X.cell? r = some z) (hb : Below X.heap.size X Y) : Y.cell? p = some u ∧ Y.cell? q = some v ∧ Y.cell? r = some z := ⟨cell_on hb h.1, cell_on hb h.2.1, cell_on hb h.2.2⟩
section
set_option maxRecDepth 100000
set_option maxHeartbeats 1000000
theorem start1_any (h : PM w B t j P n σ ls wt) (id : Int) (hi : Iv id) {k : Nat} (hk : k < n) (e3 : indexI id = k) {x y : Nat} (c0 : w.cell? ⟨x, 0, none⟩ = some (.pointer (some ⟨B, 0, none⟩))) (c1 : w.cell? ⟨y, 0, none⟩ = some (.int .i64 id)) :
    Calls Try.prog 31 #[.pointer (some ⟨x, 0, none⟩), .pointer (some ⟨y, 0, none⟩)] w fun e w' => e = .returned (.int .i64 (if (rw σ k).id ≠ 0 ∧ (rw σ k).en = false then 5 else 0)) ∧ Below w.heap.size w w' := by
  have HA := at_any h id hi hk e3
  have EQ := fun W => eqK W (rw σ k).id (stN (rw σ k)) (vaN (rw σ k)) (rw σ k).id 1 0
  rw [kn_going] at EQ
  have G := fun i W => going_any i W
  unfold agK at HA EQ G
  generalize (rw σ k).id = a at *
  generalize stN (rw σ k) = s at *
  generalize vaN (rw σ k) = v at *
  generalize (rw σ k).en = r at *
  have HD : ∀ X : World, Below X.heap.size X X.drew := fun X => (Below.refl _ X).drew
  by_cases hz : a ≠ 0 ∧ r = false
  all_goals
    first | rw [if_pos hz] | rw [if_neg hz]
    first | rw [decide_eq_true hz] at EQ | rw [decide_eq_false hz] at EQ
    clear hz
    go_enter Try.func31, Try.ntmps31
    go_wp2_with (first | (go_at_call 32; (with_reducible refine HA.mono ?_); rintro e w1 ⟨rfl, b1⟩; have hS := newK w1 (.int .i64 a) (.int .i64 s) (.int .i64 v); have bW := b1.trans (((Below.refl _ w1).alloc (Nat.le_refl _) (.cells #[.int .i64 a, .int .i64 s, .int .i64 v] 64)).mono b1.size)))
    go_region_held3 (fun w' => w'.cell? ⟨w1.heap.size, 0, none⟩ = some (.int .i64 a) ∧ w'.cell? ⟨w1.heap.size, 1, none⟩ = some (.int .i64 s) ∧ w'.cell? ⟨w1.heap.size, 2, none⟩ = some (.int .i64 v)) (first | with_reducible assumption | (with_reducible refine on3 ?_ (HD _); with_reducible assumption)) (first
      | (go_at_call 33; (with_reducible refine (G _ _).mono ?_); rintro e w3 ⟨rfl, b3⟩; have hS3 := on3 (by with_reducible assumption) b3))
    all_goals
      go_wp2_with fail
      go_ret
      exact ⟨rfl, bW.drew.trans (b3.mono bW.drew.size)⟩
theorem ask_range (h : PM w B t j P n σ ls wt) (id : Int) (hi : Iv id) (hp : plc σ id < 0) (f : Value) :
    Calls Try.prog 30 #[.pointer (some ⟨B, 0, none⟩), .int .i64 id, f] w fun e w' => e = .returned (.int .i64 8) ∧ w' = w := by
  have hM := made_any h
  have HH := has_any h id hi
  rw [decide_eq_false (not_not_intro hp)] at HH
  go_enter Try.func30, Try.ntmps30
  go_wp2_with (first
    | (go_at_call 40; (with_reducible refine hM.mono ?_); rintro e w1 ⟨rfl, hw⟩; subst w1)
    | (go_at_call 39; (with_reducible refine HH.mono ?_); rintro e w1 ⟨rfl, hw⟩; subst w1))
  go_ret
  exact ⟨rfl, rfl⟩
theorem ask_start (h : PM w B t j P n σ ls wt) (H : Ok n σ) (id : Int) (hi : Iv id) (hp : ¬ plc σ id < 0) {x y : Nat} (c0 : w.cell? ⟨x, 0, none⟩ = some (.pointer (some ⟨B, 0, none⟩))) (c1 : w.cell? ⟨y, 0, none⟩ = some (.int .i64 id)) :
    Calls Try.prog 30 #[.pointer (some ⟨B, 0, none⟩), .int .i64 id, .func (.func 31) #[] #[.pointer (some ⟨x, 0, none⟩), .pointer (some ⟨y, 0, none⟩)]] w fun e w' => e = .returned (.int .i64 (startE σ id)) ∧ Below w.heap.size w w' := by
  have hM := made_any h
  have HH := has_any h id hi
  rw [decide_eq_true hp] at HH
  obtain ⟨k, e1, hk, e3, e4⟩ := H.plc hp
  have S1 := start1_any h id hi hk e3 c0 c1
  have ea : at_ σ id = rw σ k := by unfold at_; rw [e1, Int.toNat_natCast]
  have hE : startE σ id = if (rw σ k).id ≠ 0 ∧ (rw σ k).en = false then 5 else 0 := by unfold startE; rw [if_neg hp, ea]
  rw [hE]
  generalize (if (rw σ k).id ≠ 0 ∧ (rw σ k).en = false then (5 : Int) else 0) = z at *
  go_enter Try.func30, Try.ntmps30
  go_wp2_with (first
    | (go_at_call 40; (with_reducible refine hM.mono ?_); rintro e w1 ⟨rfl, hw⟩; subst w1)
    | (go_at_call 39; (with_reducible refine HH.mono ?_); rintro e w1 ⟨rfl, hw⟩; subst w1)
    | (go_at_call 31; (with_reducible refine S1.mono ?_); rintro e w1 ⟨rfl, b1⟩))
  go_ret
  exact ⟨rfl, b1⟩
theorem start_any (h0 : PM w B t j P n σ ls wt) (H : Ok n σ) (id : Int) (hi : Iv id) :
    Calls Try.prog 12 #[.pointer (some ⟨B, 0, none⟩), .int .i64 id] w fun e w' => e = .returned (.int .i64 (startE σ id)) ∧ PM w' B t j P n (startS σ id) ls wt ∧ But (bl B t j P) w w' := by
  obtain ⟨W, hW⟩ : ∃ W, Hid (W = (w.alloc (.cells #[.pointer (some ⟨B, 0, none⟩)] 24)).alloc (.cells #[.int .i64 id] 3)) := ⟨_, rfl⟩
  have bW : But [] w W := by rw [hW.out]; exact ((But.refl [] w).alloc _).alloc _
  obtain ⟨x0, x1⟩ := Lk.box_two w 24 3 (.pointer (some ⟨B, 0, none⟩)) (.int .i64 id)
  rw [← hW.out] at x0 x1
  have h := h0.keep bW
  by_cases hp : plc σ id < 0
  · have hE : startE σ id = 8 := by unfold startE; rw [if_pos hp]
    have HA := ask_range h id hi hp (.func (.func 31) #[] #[.pointer (some ⟨w.heap.size, 0, none⟩), .pointer (some ⟨w.heap.size + 1, 0, none⟩)])
    unfold startS
    rw [hE, if_neg (by decide)]
    rw [hW.out] at HA h bW
    clear x0 x1
    go_enter Try.func12, Try.ntmps12
    go_wp2_with (first | (go_at_call 30; (with_reducible refine HA.mono ?_); rintro e w1 ⟨rfl, hw⟩; subst w1))
    go_ret
    exact ⟨rfl, h, bW.wide⟩
  have HA := ask_start h H id hi hp x0 x1
  obtain ⟨k, e1, hk, e3, e4⟩ := H.plc hp
  unfold startS
  by_cases hz : startE σ id = 0
  rotate_left
  · rw [if_neg hz]
    have hz' : (startE σ id == 0) = false := by simpa using hz
    generalize startE σ id = z at *
    rw [hW.out] at HA h bW
    clear x0 x1
    go_enter Try.func12, Try.ntmps12
    go_wp2_with (first | (go_at_call 30; (with_reducible refine HA.mono ?_); rintro e w1 ⟨rfl, b1⟩))
    go_ret
    exact ⟨rfl, h.keep (.of_below b1), bW.wide.trans (.of_below b1)⟩
  rw [if_pos hz, e1, Int.toNat_natCast]
  rw [hz] at HA ⊢
  have I := fun X => index_any id hi.1 hi.2 X
  rw [e3] at I
  have hr : ∀ X : World, PM X B t j P n σ ls wt → PM (((X.setCell ⟨t, k * 3, none⟩ (.int .i64 id)).setCell ⟨t, k * 3 + 1, none⟩ (.int .i64 1)).setCell ⟨t, k * 3 + 2, none⟩ (.int .i64 0)) B t j P n (σ.set k ⟨id, false, 0, []⟩) ls wt := fun X hX => by
    have := hX.setK hk ⟨id, false, 0, []⟩
    have e5 : stN (⟨id, false, 0, []⟩ : Rw) = 1 := by unfold stN; rw [if_neg (id_ne e4)]; rfl
    rw [e5] at this
    exact this
  obtain ⟨c, hc, c0⟩ := h.c0
  have hk' : (k : Int) < (n : Int) := by omega
  have hN := H.n2
  have KS : ∀ X, But [] W X → X.cell? ⟨w.heap.size, 0, none⟩ = some (.pointer (some ⟨B, 0, none⟩)) ∧ X.cell? ⟨w.heap.size + 1, 0, none⟩ = some (.int .i64 id) ∧ X.cell? ⟨B, 0, none⟩ = some (.slice (some ⟨t, 0, none⟩) n c) := fun X hX => ⟨hX.cell x0, hX.cell x1, hX.cell c0⟩
  replace h : ∀ X, But [] W X → PM X B t j P n σ ls wt := fun X hX => h.keep hX
  rw [hW.out] at HA KS h bW
  clear x0 x1 c0 hz
  go_enter Try.func12, Try.ntmps12
  go_upto_region 3 with (first | (go_at_call 30; (with_reducible refine HA.mono ?_); rintro e w1 ⟨rfl, b1⟩))
  have hB0 := (But.of_below (S := []) b1).drew
  have h := h _ hB0
  have hmx : Try.prog.follows .mixedOrders = true := by kernel_rfl
  refine wp_region_K 9 (fun X => X.cell? ⟨w.heap.size, 0, none⟩ = some (.pointer (some ⟨B, 0, none⟩)) ∧ X.cell? ⟨w.heap.size + 1, 0, none⟩ = some (.int .i64 id) ∧ X.cell? ⟨B, 0, none⟩ = some (.slice (some ⟨t, 0, none⟩) n c)) hmx (by kernel_rfl) (KS _ hB0) (fun hHeld hdep => ?_)
  refine wpAnyK_take (i := 0) (v := ?_) (some 12) rfl rfl hdep (by kernel_rfl) (fun _ _ _ h => h) (Or.inl ⟨by rfl, ?_⟩) (KS _ hB0) ?_
  rotate_left
  · (intro w hSw; go_simp; all_goals with_reducible rfl)
  try simp only [Act.put, List.setIfInBounds_toArray, List.set_cons_zero, List.set_cons_succ]
  refine wpAnyK_take (i := 1) (v := ?_) (some 13) rfl rfl hdep (by kernel_rfl) (fun _ _ _ h => h) (Or.inl ⟨by rfl, ?_⟩) (KS _ hB0) ?_
  rotate_left
  · (intro w hSw; go_simp; all_goals with_reducible rfl)
  try simp only [Act.put, List.setIfInBounds_toArray, List.set_cons_zero, List.set_cons_succ]
  refine wpAnyK_take (i := 2) (v := ?_) (some 14) rfl rfl hdep (by kernel_rfl) (fun _ _ _ h => h) (Or.inl ⟨by rfl, ?_⟩) (KS _ hB0) ?_
  rotate_left
  · (intro w hSw; go_simp; all_goals with_reducible rfl)
  try simp only [Act.put, List.setIfInBounds_toArray, List.set_cons_zero, List.set_cons_succ]
  refine wpAnyK_take (i := 3) (v := ?_) (some 15) rfl rfl hdep (by kernel_rfl) (fun _ _ _ h => h) (Or.inl ⟨by rfl, ?_⟩) (KS _ hB0) ?_
  rotate_left
  · (intro w hSw; go_simp; all_goals with_reducible rfl)
  try simp only [Act.put, List.setIfInBounds_toArray, List.set_cons_zero, List.set_cons_succ]
  refine wpAnyK_take (i := 4) (v := ?_) (some 16) rfl rfl hdep (by kernel_rfl) (fun _ _ _ h => h) (Or.inl ⟨by rfl, ?_⟩) (KS _ hB0) ?_
  rotate_left
  · (intro w hSw; go_simp; all_goals with_reducible rfl)
  try simp only [Act.put, List.setIfInBounds_toArray, List.set_cons_zero, List.set_cons_succ]
  refine wpAnyK_take (i := 6) (v := ?_) (some 18) rfl rfl hdep (by kernel_rfl) (fun _ _ _ h => h) (Or.inl ⟨by rfl, ?_⟩) (KS _ hB0) ?_
  rotate_left
  · (intro w hSw; go_simp; all_goals with_reducible rfl)
  try simp only [Act.put, List.setIfInBounds_toArray, List.set_cons_zero, List.set_cons_succ]
  refine wpAnyK_one (i := 5) (by kernel_rfl) rfl (fun K hK => ?_)
  go_simp
  go_at_call 34
  refine (I _).mono ?_
  rintro e w3 ⟨rfl, hw⟩
  subst w3
  refine hK.out _ _ (fun _ => KS _ hB0) ?_
  clear hK K
  try simp only [Act.put, List.setIfInBounds_toArray, List.set_cons_zero, List.set_cons_succ]
  refine wpAnyK_one (i := 7) (by kernel_rfl) rfl (fun K hK => ?_)
  go_simp
  go_at_call 33
  refine (going_any _ _).mono ?_
  rintro e w3 ⟨rfl, b3⟩
  unfold agK
  have hB3 := hB0.trans (.of_below b3)
  have h3 := h.below b3
  have r0 := h3.r0 hk
  have r1 := h3.r1 hk
  have r2 := h3.r2 hk
  have f0 := h3.ft (k * 3)
  have f1 := h3.ft (k * 3 + 1)
  have f2 := h3.ft (k * 3 + 2)
  refine hK.out _ _ (fun _ => KS _ hB3) ?_
  clear hK K
  try simp only [Act.put, List.setIfInBounds_toArray, List.set_cons_zero, List.set_cons_succ]
  refine wpAnyK_one (i := 8) (by kernel_rfl) rfl (fun K hK => ?_)
  go_simp
  refine hK.out _ _ (fun _ => KS _ hB3) ?_
  clear hK K
  try simp only [Act.put, List.setIfInBounds_toArray, List.set_cons_zero, List.set_cons_succ]
  refine wpAnyK_one (i := 9) (by kernel_rfl) rfl (fun K hK => ?_)
  go_simp
  refine hK.out _ _ (fun h => absurd rfl h) ?_
  clear hK K
  try simp only [Act.put, List.setIfInBounds_toArray, List.set_cons_zero, List.set_cons_succ]
  refine wpAnyK_done (by kernel_rfl) ?_
  go_wp2_with fail
  go_ret
  exact ⟨rfl, hr _ h3, ((((bW.trans hB0).trans (.of_below b3)).wide.set (by simp [bl]) _).set (by simp [bl]) _).set (by simp [bl]) _⟩
end
end Go.Proofs.Ytmbpmcgppnanpaa.Jl
