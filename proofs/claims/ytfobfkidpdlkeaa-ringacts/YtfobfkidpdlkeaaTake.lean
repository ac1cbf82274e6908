/- Contracts of the reference's take, Pop, Back, Remove. -/
import Derived.Test.YtfobfkidpdlkeaaRefP
import Derived.BigRegion
namespace Go.Proofs.Ytfobfkidpdlkeaa
open Go.RowKit

section
variable {w : World} {lo M n : Nat} {q : List Int}

set_option maxHeartbeats 4000000 in
theorem rtake_in (h : RF w lo M n q) (hlo : lo ≤ w.heap.size) (j : Nat) (hj : j < q.length) (x : Int) (hx : q[j]? = some x) :
    Calls Try.prog 35 #[.pointer (some ⟨M, 0, none⟩), .int .i64 j] w fun e w' => e = .returned (.tuple #[.int .i64 x, .bool true]) ∧ RF w' lo M n (q.eraseIdx j) ∧ But [M] w w' := by
  have hlt := h.lt
  have hA := rat_any h (j : Int)
  have e1 : atQ q (j : Int) = x := by
    unfold atQ
    rw [if_neg (by omega)]
    simp [hx]
  have e2 : isQ q (j : Int) = true := by unfold isQ; simp; omega
  rw [e1, e2] at hA
  clear e1 e2
  obtain ⟨v, h1, h2, h3, h4⟩ := h
  obtain ⟨a, c, rfl, hc, hm, -, hcell⟩ := h2.shape
  obtain ⟨g, rfl, -⟩ := hcell j x hx
  have c1 : w.cell? ⟨M, 1, none⟩ = some (.slice (some ⟨g, 0, none⟩) q.length c) := by simp [World.cell?, h1]
  obtain ⟨ad2, hd2⟩ : ∃ ad2, ad2 = (if c = j + 1 then (⟨g, 0, none⟩ : Addr) else ⟨g, j + 1, none⟩) := ⟨_, rfl⟩
  have R1 : Reads w (some ⟨g, 0, none⟩) c (q.take j) := by
    refine .inr ⟨_, rfl, fun i y hy => ?_⟩
    have hi : i < j := by have := (List.getElem?_eq_some_iff.1 hy).1; rw [List.length_take] at this; omega
    rw [List.getElem?_take_of_lt hi] at hy
    obtain ⟨g', e, hcc⟩ := hcell i y hy
    cases e
    rw [WideShapes.add_plain, Nat.zero_add]
    exact hcc
  have R2 : Reads w (some ad2) (c - (j + 1)) (q.drop (j + 1)) := by
    refine .inr ⟨_, rfl, fun i y hy => ?_⟩
    rw [List.getElem?_drop] at hy
    have hi := (List.getElem?_eq_some_iff.1 hy).1
    rw [hd2, if_neg (by omega), WideShapes.add_plain]
    obtain ⟨g', e, hcc⟩ := hcell _ y hy
    cases e
    exact hcc
  have er : q.take j ++ q.drop (j + 1) = q.eraseIdx j := (List.eraseIdx_eq_take_drop_succ q j).symm
  have l1 : (q.take j).length = j := by rw [List.length_take]; omega
  have l2 : (q.drop (j + 1)).length = q.length - (j + 1) := by simp
  have hjc : (j : Int) ≤ (c : Int) := by omega
  have hj0 : (0 : Int) ≤ (j : Int) + 1 := by omega
  have hjq : (j : Int) + 1 ≤ (q.length : Int) := by omega
  have hqc : (q.length : Int) ≤ (c : Int) := by omega
  have hjw : IntKind.i64.wrap ((j : Int) + 1) = (j : Int) + 1 := by rw [IntKind.wrap_i64]; omega
  have OW : (w.alloc (.cells #[] 3)).drew.ownsRow w.heap.size 3 1 (.slice (some ⟨w.heap.size, 0, none⟩) 0 0) 0 (([] : List Int).map (Value.int .i64)) := own_none w.drew
  have d1 : ∀ o, (w.alloc o).drew.cell? ⟨M, 1, none⟩ = some (.slice (some ⟨g, 0, none⟩) q.length c) := fun o => ((But.refl [] w).alloc o).drew.cell c1
  have b1 : But [] w (w.alloc (.cells #[] 3)).drew := ((But.refl [] w).alloc _).drew
  have R1' := R1.but b1
  have L1 : Hid ((q.take j).length = j) := l1
  have L2 : Hid ((q.drop (j + 1)).length = q.length - (j + 1)) := l2
  have ER : Hid (q.take j ++ q.drop (j + 1) = q.eraseIdx j) := er
  clear hcell h2 l1 l2 er R1
  have hif : (if c = j + 1 then some (⟨g, 0, none⟩ : Addr) else some ⟨g, j + 1, none⟩) = some ad2 := by rw [hd2]; split <;> rfl
  clear hd2
  generalize q.take j = qa at *
  generalize q.drop (j + 1) = qb at *
  go_enter Try.func35, Try.ntmps35
  go_wp2_with (first
    | (go_at_call 15; refine hA.mono ?_; rintro e w' ⟨rfl, hw⟩; subst w'))
  go_region_law (first
    | (refine step_app rfl (.tmp 16) (.tmp 22) rfl w.heap.size _ 0 [] rfl OW _ _ _ qa rfl L1.out R1' (by omega) (by simp [World.drew]) ?_; intro v2 w2 ho2 hg2; rw [Nat.zero_add, List.nil_append] at ho2; have hb2 : But [] w w2 := b1.grown hg2 (fun k e => by cases e; exact Nat.le_refl _); obtain ⟨sa2, sc2, rfl⟩ := own_shape ho2; have c2 := hb2.cell c1)
    | (refine step_app rfl (.tmp 23) (.tmp 30) rfl w.heap.size _ j qa rfl ho2 _ _ _ qb rfl L2.out (R2.but hb2) (by omega) (by have := hb2.size; omega) ?_; intro v3 w3 ho3 hg3; have hb3 : But [] w w3 := hb2.grown hg3 (fun k e => (ho2.lt k e).1); obtain ⟨sa3, sc3, rfl⟩ := own_shape ho3; have c3 := hb3.cell c1; have f3 : w3.frozen? ⟨M, 1, none⟩ = false := by simp [World.frozen?, hb3.block M hlt (by simp), h1]))
  all_goals
    go_wp2_with fail
    go_ret2
    rw [ER.out] at ho3
    have hle : (q.eraseIdx j).length = j + (q.length - (j + 1)) := by rw [List.length_eraseIdx, if_pos hj]; omega
    obtain ⟨r1, r2⟩ := RF.put (q' := q.eraseIdx j) hlo h1 hb3 (by unfold RowI; rw [hle]; exact ho3) (by rw [hle]; omega) h4
    exact ⟨rfl, r1, r2⟩

/-- A queue with one number less. -/
def takeQ (q : List Int) (i : Int) : List Int := if isQ q i then q.eraseIdx i.toNat else q

theorem rtake_any (h : RF w lo M n q) (hlo : lo ≤ w.heap.size) (i : Int) :
    Calls Try.prog 35 #[.pointer (some ⟨M, 0, none⟩), .int .i64 i] w fun e w' => e = .returned (.tuple #[.int .i64 (atQ q i), .bool (isQ q i)]) ∧ RF w' lo M n (takeQ q i) ∧ But [M] w w' := by
  unfold takeQ
  by_cases hi : 0 ≤ i ∧ i < (q.length : Int)
  · obtain ⟨j, rfl⟩ := Int.eq_ofNat_of_zero_le hi.1
    have hj : j < q.length := by omega
    have e1 : atQ q (j : Int) = q[j] := by
      unfold atQ
      rw [if_neg (by omega)]
      simp [hj]
    have e2 : isQ q (j : Int) = true := by unfold isQ; simp; omega
    rw [e1, e2, if_pos rfl]
    exact rtake_in h hlo j hj _ (by simp)
  · have e1 : atQ q i = 0 := by
      unfold atQ
      split
      · rfl
      · simp [List.getD, List.getElem?_eq_none (show q.length ≤ i.toNat by omega)]
    have e2 : isQ q i = false := by unfold isQ; simp; omega
    have hA := rat_any h i
    rw [e1, e2] at hA ⊢
    rw [if_neg (by simp)]
    go_enter Try.func35, Try.ntmps35
    go_wp2_with (first
      | (go_at_call 15; refine hA.mono ?_; rintro e w' ⟨rfl, hw⟩; subst w'))
    go_ret2
    exact ⟨rfl, h, But.refl _ _⟩

theorem rpop_any (h : RF w lo M n q) (hlo : lo ≤ w.heap.size) :
    Calls Try.prog 27 #[.pointer (some ⟨M, 0, none⟩)] w fun e w' => e = .returned (.tuple #[.int .i64 (q.headD 0), .bool (!q.isEmpty)]) ∧ RF w' lo M n q.tail ∧ But [M] w w' := by
  have hT := rtake_any h hlo 0
  have e1 : atQ q 0 = q.headD 0 := by cases q <;> rfl
  have e2 : isQ q 0 = !q.isEmpty := by cases q <;> simp [isQ]
  have e3 : takeQ q 0 = q.tail := by
    unfold takeQ
    rw [e2]
    cases q <;> rfl
  rw [e1, e2, e3] at hT
  clear e1 e2 e3
  generalize q.headD 0 = y at hT ⊢
  generalize (!q.isEmpty) = z at hT ⊢
  go_enter Try.func27, Try.ntmps27
  go_wp2_with (first
    | (go_at_call 35; refine hT.mono ?_; rintro e w' ⟨rfl, h', hb⟩))
  go_ret2
  exact ⟨rfl, h', hb⟩

theorem rback_any (h : RF w lo M n q) (hlo : lo ≤ w.heap.size) :
    Calls Try.prog 28 #[.pointer (some ⟨M, 0, none⟩)] w fun e w' => e = .returned (.tuple #[.int .i64 (q.getLastD 0), .bool (!q.isEmpty)]) ∧ RF w' lo M n q.dropLast ∧ But [M] w w' := by
  have hT := rtake_any h hlo ((q.length : Int) - 1)
  have hE : atQ q ((q.length : Int) - 1) = q.getLastD 0 ∧ isQ q ((q.length : Int) - 1) = !q.isEmpty ∧ takeQ q ((q.length : Int) - 1) = q.dropLast := by
    rcases List.eq_nil_or_concat q with rfl | ⟨t, y, rfl⟩
    · exact ⟨rfl, rfl, rfl⟩
    · have el : (((t.concat y).length : Nat) : Int) - 1 = (t.length : Int) := by simp
      have e2 : isQ (t.concat y) (t.length : Int) = true := by unfold isQ; simp; omega
      rw [el]
      refine ⟨?_, ?_, ?_⟩
      · unfold atQ
        rw [if_neg (by omega)]
        simp
      · rw [e2]; simp
      · unfold takeQ
        rw [e2, if_pos rfl]
        simp [List.eraseIdx_append_of_length_le]
  rw [hE.1, hE.2.1, hE.2.2] at hT
  clear hE
  obtain ⟨v, h1, h2, h3, h4⟩ := h
  obtain ⟨a, c, rfl, -, -, -, -⟩ := h2.shape
  have c1 : w.cell? ⟨M, 1, none⟩ = some (.slice a q.length c) := by simp [World.cell?, h1]
  clear h1 h2
  generalize q.getLastD 0 = y at hT ⊢
  generalize (!q.isEmpty) = z at hT ⊢
  go_enter Try.func28, Try.ntmps28
  go_wp2_with (first
    | (go_at_call 35; refine hT.mono ?_; rintro e w' ⟨rfl, h', hb⟩))
  go_ret2
  exact ⟨rfl, h', hb⟩

theorem rremove_any (h : RF w lo M n q) (hlo : lo ≤ w.heap.size) (x : Int) :
    Calls Try.prog 29 #[.pointer (some ⟨M, 0, none⟩), .int .i64 x] w fun e w' => e = .returned (.bool (isQ q (findI q x 0))) ∧ RF w' lo M n (takeQ q (findI q x 0)) ∧ But [M] w w' := by
  have hF := rfind_any h x
  have hT := rtake_any h hlo (findI q x 0)
  generalize findI q x 0 = i at hF hT
  go_enter Try.func29, Try.ntmps29
  go_wp2_with (first
    | (go_at_call 18; refine hF.mono ?_; rintro e w' ⟨rfl, hw⟩; subst w')
    | (go_at_call 35; refine hT.mono ?_; rintro e w' ⟨rfl, h', hb⟩))
  go_ret
  exact ⟨rfl, h', hb⟩
end

end Go.Proofs.Ytfobfkidpdlkeaa
