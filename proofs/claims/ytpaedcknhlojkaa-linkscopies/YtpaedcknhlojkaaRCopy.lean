/- Contract of the reference's Copy. -/
import Derived.Test.YtpaedcknhlojkaaRefP
import Derived.Test.YtpaedcknhlojkaaTail
namespace Go.Proofs.Ytpaedcknhlojkaa
open Go.RowKit
set_option linter.unusedSimpArgs false

/-- The lists below i; the others are empty. -/
def partL (L : Nat) (ls : List (List Nat)) (i : Nat) : List (List Nat) := (List.range L).map (fun j => if j < i then lsI ls ((j : Nat) : Int) else [])
theorem partL_zero (L : Nat) (ls : List (List Nat)) : partL L ls 0 = List.replicate L [] := by
  unfold partL
  apply List.ext_getElem?
  intro k
  by_cases hk : k < L
  · rw [List.getElem?_replicate_of_lt hk]
    simp [hk]
  · rw [List.getElem?_eq_none (by simp; omega), List.getElem?_eq_none (by simp; omega)]
theorem partL_set (L : Nat) (ls : List (List Nat)) (i : Nat) : (partL L ls i).set i (lsI ls ((i : Nat) : Int)) = partL L ls (i + 1) := set_range (fun x hx => by
  by_cases h : x < i
  · rw [if_pos h, if_pos (by omega)]
  · rw [if_neg h, if_neg (by omega)]) (by rw [if_pos (by omega)])
theorem partL_end {N L : Nat} {ls : List (List Nat)} (h : Ok N L ls) : partL L ls L = ls := by
  unfold partL
  apply List.ext_getElem?
  intro k
  by_cases hk : k < L
  · rw [List.getElem?_map, List.getElem?_range hk, h.at hk]
    simp [hk]
  · rw [List.getElem?_eq_none (by simp; omega), List.getElem?_eq_none (by rw [h.len]; omega)]
theorem partL_ok {N L : Nat} {ls : List (List Nat)} (h : Ok N L ls) (i : Nat) : Ok N L (partL L ls i) := by
  have g : ∀ (j : Nat) (q : List Nat), (partL L ls i)[j]? = some q → (q = [] ∨ ls[j]? = some q) := fun j q hq => by
    unfold partL at hq
    have hj := (List.getElem?_eq_some_iff.1 hq).1
    simp at hj
    rw [List.getElem?_map, List.getElem?_range hj] at hq
    simp only [Option.map_some, Option.some.injEq] at hq
    split at hq
    · right
      rw [h.at hj, hq]
    · exact .inl hq.symm
  refine ⟨by simp [partL], fun j q hq => ?_, fun j q hq => ?_, fun a b p q hp hq hab t ht hu => ?_⟩
  · rcases g j q hq with rfl | hq
    · simp
    · exact h.lt j q hq
  · rcases g j q hq with rfl | hq
    · simp
    · exact h.nd j q hq
  · rcases g a p hp with rfl | hp
    · simp at ht
    · rcases g b q hq with rfl | hq
      · simp at hu
      · exact h.dj a b p q hp hq hab t ht hu

section
variable {w : World} {lo M LB N L : Nat} {ls : List (List Nat)}

set_option maxHeartbeats 4000000 in
theorem rcopy_any (h : RL w lo M LB N L ls) (hL1 : 1 ≤ L) :
    Calls Try.prog 22 #[.pointer (some ⟨M, 0, none⟩)] w fun e w' => ∃ lo2 M2 LB2, e = .returned (.pointer (some ⟨M2, 0, none⟩)) ∧ RL w' lo2 M2 LB2 N L ls ∧ w.heap.size ≤ M2 ∧ w.heap.size ≤ LB2 ∧ Below w.heap.size w w' := by
  have hmx : Try.prog.follows .mixedOrders = true := by kernel_rfl
  have hLL := h.ll
  have hN := h.n
  have m3 := mk_rows L (by omega)
  have c0 := h.c0
  have c1 := h.c1
  have hok := h.ok
  go_enter Try.func22, Try.ntmps22
  go_wp2_with fail
  have hS : w.cell? ⟨M, 0, none⟩ = some (.int .i64 N) ∧ w.cell? ⟨M, 1, none⟩ = some (.slice (some ⟨LB, 0, none⟩) L L) := ⟨c0, c1⟩
  have hSd : w.drew.cell? ⟨M, 0, none⟩ = some (.int .i64 N) ∧ w.drew.cell? ⟨M, 1, none⟩ = some (.slice (some ⟨LB, 0, none⟩) L L) := ⟨c0, c1⟩
  have hSa : (w.alloc (.cells (madeCells #[.slice none 0 0] L) 33)).drew.cell? ⟨M, 0, none⟩ = some (.int .i64 N) ∧ (w.alloc (.cells (madeCells #[.slice none 0 0] L) 33)).drew.cell? ⟨M, 1, none⟩ = some (.slice (some ⟨LB, 0, none⟩) L L) := ⟨((But.refl [] w).alloc _).drew.cell c0, ((But.refl [] w).alloc _).drew.cell c1⟩
  have hSb : ∀ o, ((w.alloc (.cells (madeCells #[.slice none 0 0] L) 33)).alloc o).drew.cell? ⟨M, 0, none⟩ = some (.int .i64 N) ∧ ((w.alloc (.cells (madeCells #[.slice none 0 0] L) 33)).alloc o).drew.cell? ⟨M, 1, none⟩ = some (.slice (some ⟨LB, 0, none⟩) L L) := fun o => ⟨(((But.refl [] w).alloc _).alloc _).drew.cell c0, (((But.refl [] w).alloc _).alloc _).drew.cell c1⟩
  go_region_held3 (fun w' => w'.cell? ⟨M, 0, none⟩ = some (.int .i64 N) ∧ w'.cell? ⟨M, 1, none⟩ = some (.slice (some ⟨LB, 0, none⟩) L L)) (first | with_reducible assumption | with_reducible exact hSd | exact hSa | exact hSb _) (fail)
  have hRL := (rl_new w N L hN hLL).keep (But.refl [] _).drew
  have hBw : Below w.heap.size w ((w.alloc (.cells (madeCells #[.slice none 0 0] L) 33)).alloc (.cells #[.int .i64 N, .slice (some ⟨w.heap.size, 0, none⟩) L L] 59)).drew := (((Below.refl _ w).alloc (Nat.le_refl _) _).alloc (by simp) _).drew
  rw [← partL_zero L ls] at hRL
  have d1 := (h.below (hBw.mono (Nat.le_refl _))).c1
  clear hS hSd hSa hSb m3
  generalize ((w.alloc (.cells (madeCells #[.slice none 0 0] L) 33)).alloc (.cells #[.int .i64 N, .slice (some ⟨w.heap.size, 0, none⟩) L L] 59)).drew = W1 at *
  obtain ⟨lo2, M2, LB2, hlo2, hM2, hLB2⟩ : ∃ lo2 M2 LB2, lo2 = w.heap.size + 2 ∧ M2 = w.heap.size + 1 ∧ LB2 = w.heap.size := ⟨_, _, _, rfl, rfl, rfl⟩
  rw [← hlo2, ← hM2, ← hLB2] at hRL
  rw [← hM2]
  have gM : w.heap.size ≤ M2 := by omega
  have gL : w.heap.size ≤ LB2 := by omega
  clear hlo2 hM2 hLB2
  go_wp2_with fail
  go_loopw [23, 4, 5] (fun v _ _ wr => ∃ i : Nat, i ≤ L ∧ v = .int .i64 i ∧ RL wr lo2 M2 LB2 N L (partL L ls i) ∧ Below w.heap.size w wr) (fun v _ _ _ => 4096 - (intOf v).toNat)
  case atStart => exact ⟨0, by omega, rfl, hRL, hBw⟩
  case round =>
    clear hRL hBw d1
    obtain ⟨i, hi, rfl, hR, hB⟩ := hrel
    by_cases hlt : i < L
    · have hh := h.below (hB.mono (Nat.le_refl _))
      have hq := hok.at hlt
      have hle := hok.short hq
      obtain ⟨a, c, hc, hr⟩ := hh.row hq
      have hlt' : (i : Int) < (L : Int) := by omega
      have hi0 : (0 : Int) ≤ (i : Int) := by omega
      have hset := partL_set L ls i
      have hok2 := partL_ok hok (i + 1)
      rw [← hset] at hok2
      have PT : ∀ w1 v', But [] wr w1 → RowI w1 lo2 v' (ints (lsI ls (i : Int))) → _ := fun w1 v' hb hr => hR.put (w1 := w1) (v' := v') hb hlt hr hok2
      rw [hset] at PT
      have KS : ∀ w1, But [] wr w1 → w1.cell? ⟨M2, 1, none⟩ = some (.slice (some ⟨LB2, 0, none⟩) L L) := fun w1 hb => (hR.keep hb).c1
      have HF : ∀ w1, But [] wr w1 → w1.cell? ⟨M2, 1, none⟩ = some (.slice (some ⟨LB2, 0, none⟩) L L) ∧ w1.frozen? ⟨LB2, i, none⟩ = false ∧ ∃ u, w1.cell? ⟨LB2, i, none⟩ = some u := fun w1 hb => by
        refine ⟨KS w1 hb, (hR.keep hb).fz i, ?_⟩
        obtain ⟨a', c', hc', _⟩ := (hR.keep hb).row ((partL_ok hok i).at hlt)
        exact ⟨_, hc'⟩
      have hlo2 := hR.lo
      have Hl : Hid ((ints (lsI ls (i : Int))).length = (lsI ls (i : Int)).length) := ints_len _
      have BwD : But [] wr wr.drew := (But.refl [] wr).drew
      have B1 : But [] wr (wr.alloc (.cells #[] 3)).drew := ((But.refl [] wr).alloc _).drew
      have OW := (own_none wr).drew
      have k1 := KS _ (But.refl [] wr)
      clear hset hok2 hq
      generalize lsI ls (i : Int) = q at *
      go_wp2_with fail
      refine wp_region_K 9 (fun w' => w'.cell? ⟨M2, 1, none⟩ = some (.slice (some ⟨LB2, 0, none⟩) L L)) hmx (by kernel_rfl) k1 (fun hHeld hdep => ?_)
      refine wpAnyK_take (i := 0) (v := ?_) (some 28) rfl rfl hdep (by kernel_rfl) (fun _ _ _ h => h) (Or.inl ⟨by rfl, ?_⟩) (KS _ BwD) ?_
      rotate_left
      · (intro w hSw; go_simp; all_goals with_reducible rfl)
      try simp only [Act.put, List.setIfInBounds_toArray, List.set_cons_zero, List.set_cons_succ]
      refine wpAnyK_take (i := 1) (v := ?_) (some 29) rfl rfl hdep (by kernel_rfl) (fun _ _ _ h => h) (Or.inl ⟨by rfl, ?_⟩) (KS _ BwD) ?_
      rotate_left
      · (intro w hSw; go_simp; all_goals with_reducible rfl)
      try simp only [Act.put, List.setIfInBounds_toArray, List.set_cons_zero, List.set_cons_succ]
      refine wpAnyK_take (i := 2) (v := ?_) (some 30) rfl rfl hdep (by kernel_rfl) (fun _ _ _ h => h) (Or.inl ⟨by rfl, ?_⟩) (KS _ BwD) ?_
      rotate_left
      · (intro w hSw; go_simp; all_goals with_reducible rfl)
      try simp only [Act.put, List.setIfInBounds_toArray, List.set_cons_zero, List.set_cons_succ]
      refine wpAnyK_take (i := 3) (v := ?_) (some 31) rfl rfl hdep (by kernel_rfl) (fun _ _ _ h => h) (Or.inl ⟨by rfl, ?_⟩) (KS _ BwD) ?_
      rotate_left
      · (intro w hSw; go_simp; all_goals with_reducible rfl)
      try simp only [Act.put, List.setIfInBounds_toArray, List.set_cons_zero, List.set_cons_succ]
      refine wpAnyK_take (i := 4) (v := ?_) (some 32) rfl rfl hdep (by kernel_rfl) (fun _ _ _ h => h) (Or.inl ⟨by rfl, ?_⟩) (KS _ BwD) ?_
      rotate_left
      · (intro w hSw; go_simp; all_goals with_reducible rfl)
      try simp only [Act.put, List.setIfInBounds_toArray, List.set_cons_zero, List.set_cons_succ]
      refine wpAnyK_take (i := 6) (v := ?_) (some 34) rfl rfl hdep (by kernel_rfl) (fun _ _ _ h => h) (Or.inl ⟨by rfl, ?_⟩) (KS _ BwD) ?_
      rotate_left
      · (intro w hSw; go_simp; all_goals with_reducible rfl)
      try simp only [Act.put, List.setIfInBounds_toArray, List.set_cons_zero, List.set_cons_succ]
      refine wpAnyK_one (i := 5) (by kernel_rfl) rfl (fun K hK => ?_)
      go_simp
      refine hK.out _ _ (fun _ => KS _ B1) ?_
      clear hK K
      try simp only [Act.put, List.setIfInBounds_toArray, List.set_cons_zero, List.set_cons_succ]
      refine wpAnyK_one (i := 7) (by kernel_rfl) rfl (fun K hK => ?_)
      refine step_app rfl (.tmp 33) (.tmp 34) rfl wr.heap.size _ 0 [] rfl OW _ _ _ (ints q) rfl Hl.out (hr.reads.but B1) (by omega) (by simp [World.drew]) ?_
      intro v2 w2 ho2 hg2
      rw [Nat.zero_add, List.nil_append] at ho2
      have hb2 : But [] wr w2 := B1.grown hg2 (fun k e => by cases e; exact Nat.le_refl _)
      obtain ⟨sa2, sc2, rfl⟩ := own_shape ho2
      obtain ⟨f1, f2, u, f3⟩ := HF _ hb2
      refine hK.out _ _ (fun _ => KS _ hb2) ?_
      clear hK K
      try simp only [Act.put, List.setIfInBounds_toArray, List.set_cons_zero, List.set_cons_succ]
      refine wpAnyK_take (i := 8) (v := ?_) (some 36) rfl rfl hdep (by kernel_rfl) (fun _ _ _ h => h) (Or.inl ⟨by rfl, ?_⟩) (KS _ hb2) ?_
      rotate_left
      · (intro w hSw; go_simp; all_goals with_reducible rfl)
      try simp only [Act.put, List.setIfInBounds_toArray, List.set_cons_zero, List.set_cons_succ]
      refine wpAnyK_one (i := 9) (by kernel_rfl) rfl (fun K hK => ?_)
      go_simp
      refine hK.out _ _ (fun h => absurd rfl h) ?_
      clear hK K
      try simp only [Act.put, List.setIfInBounds_toArray, List.set_cons_zero, List.set_cons_succ]
      refine wpAnyK_done (by kernel_rfl) ?_
      have R2 : RowI w2 lo2 (.slice sa2 q.length sc2) (ints q) := by
        unfold RowI
        rw [Hl.out]
        exact row_lower ho2 hlo2
      obtain ⟨r1, r2⟩ := PT _ _ hb2 R2
      clear PT HF KS
      go_wp2_with fail
      go_roundw
      case rel => exact ⟨i + 1, by omega, by simp, r1, hB.trans (r2.below hB.size (by simpa using gL))⟩
      case measure =>
        simp [intOf]
        omega
    · obtain rfl : L = i := by omega
      rw [partL_end hok] at hR
      go_wp2_with fail
      go_ret
      exact ⟨lo2, M2, LB2, rfl, hR, gM, gL, hB⟩
end

end Go.Proofs.Ytpaedcknhlojkaa
