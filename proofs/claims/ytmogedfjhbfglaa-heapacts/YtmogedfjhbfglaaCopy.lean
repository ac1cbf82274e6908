/- Contracts of Copy and All. -/
import Derived.Test.YtmogedfjhbfglaaApp
namespace Go.Proofs.Ytmogedfjhbfglaa
open Go.RowKit

/-- The ids in order. -/
def idsL (q : List Th) : List Int := q.map (fun p => (p.1 : Int))
theorem idsL_len (q : List Th) : (idsL q).length = q.length := by simp [idsL]

theorem own_sh {w : World} {v : Value} {n : Nat} {vs : List Value} (h : w.ownsRow 0 60 2 v n vs) : ∃ a c, v = .slice a n c := by
  rcases h.2 with ⟨rfl, h0⟩ | ⟨g, cap, cur, rfl, _⟩
  · exact ⟨none, 0, by rw [h0]⟩
  · exact ⟨_, cap, rfl⟩
theorem two_on {W W' : World} (hb : Below W.heap.size W W') {a0 a1 : Addr} {v0 v1 : Value} (h : W.cell? a0 = some v0 ∧ W.cell? a1 = some v1) : W'.cell? a0 = some v0 ∧ W'.cell? a1 = some v1 := ⟨cell_on hb h.1, cell_on hb h.2⟩

section
variable {w : World} {B N : Nat} {T : List Nat} {q : List Th}

set_option maxHeartbeats 2000000 in
theorem copy_any (h : HQ w B T N q) :
    Calls Try.prog 25 #[.pointer (some ⟨B, 0, none⟩)] w fun e w' => ∃ B2 T2, e = .returned (.pointer (some ⟨B2, 0, none⟩)) ∧ HQ w' B2 T2 N q ∧ Step [] w T2 w' := by
  obtain ⟨G, k, v, xs, pl, rfl, hm, hR⟩ := h
  obtain ⟨va, vc, rfl, -⟩ := hm.sl
  have hM := made_any hm
  have hz1 := hm.n1
  have hz2 := hm.n2
  have hxl : xs.length ≤ 4096 := Nat.le_trans hR.pls.short hm.n2
  have CT : ∀ W, HM W B G k N (.slice va xs.length vc) xs pl → _ := fun W h => clone_thing (W := W) h.h (by omega)
  have CI : ∀ W, HM W B G k N (.slice va xs.length vc) xs pl → _ := fun W h => clone_int (W := W) (c := k) (n := N) h.g hR.pls.len hz1 (by omega)
  have hS : w.cell? ⟨B, 0, none⟩ = some (.slice va xs.length vc) ∧ w.cell? ⟨B, 1, none⟩ = some (.slice (some ⟨G, 0, none⟩) N k) := ⟨hm.c0, hm.c1⟩
  have hSd := two_on ((Below.refl _ w).drew) hS
  have hmd := hm.drew
  go_enter Try.func25, Try.ntmps25
  go_wp2_with (first
    | (go_at_call 31; refine hM.mono ?_; rintro e w' ⟨rfl, hw⟩; subst w'))
  go_region_held3 (fun w' => w'.cell? ⟨B, 0, none⟩ = some (.slice va xs.length vc) ∧ w'.cell? ⟨B, 1, none⟩ = some (.slice (some ⟨G, 0, none⟩) N k)) (first | with_reducible assumption | with_reducible exact hSd | (with_reducible refine two_on ((Below.refl _ _).alloc (Nat.le_refl _) _) ?_; with_reducible assumption)) (first
    | (go_at_call 39; (with_reducible refine (CT _ hmd).mono ?_); rintro e w1 ⟨v1, rfl, r1, g1, b1⟩; obtain ⟨a1, c1, rfl⟩ := own_sh r1; have m1 := hmd.keep (.of_below b1); have k1 := two_on b1 hSd)
    | (go_at_call 41; (with_reducible refine (CI _ m1).mono ?_); rintro e w2 ⟨G2, d2, rfl, r2, g2, b2⟩; have k2 := two_on b2 k1))
  all_goals
    clear CT CI hmd m1 k1 k2 hSd hS hM
    go_wp2_with fail
    go_ret
    have l2 := r2.lt
    have s1 := b1.size
    have s2 := b2.size
    have s0 : w.drew.heap.size = w.heap.size := rfl
    have bd : Below w.heap.size w w1 := (Below.refl _ w).drew.trans b1
    have bd2 := bd.trans (b2.mono bd.size)
    have ba : Below w2.heap.size w2 (w2.alloc (.cells #[.slice a1 xs.length c1, .slice (some ⟨G2, 0, none⟩) N d2] 54)) := (Below.refl _ _).alloc (Nat.le_refl _) _
    have bd3 := bd2.trans (ba.mono bd2.size)
    have lv : ∀ x, (Value.slice a1 xs.length c1).ownBlock = some x → w.heap.size ≤ x ∧ x < w1.heap.size := fun x hx => ⟨g1 x hx, (r1.lt x hx).2⟩
    have r1' := ownsRow_put r1 (w' := w2.alloc (.cells #[.slice a1 xs.length c1, .slice (some ⟨G2, 0, none⟩) N d2] 54)) (fun x hx => by
      have := lv x hx
      rw [Below.heap_alloc _ _ _ (by omega)]
      exact b2.block x (by omega))
    refine ⟨w2.heap.size, bks w2.heap.size G2 (.slice a1 xs.length c1), rfl, ⟨G2, d2, .slice a1 xs.length c1, xs, pl, rfl, ⟨heap_alloc_new w2 _, r1', r2.put (Below.heap_alloc _ _ _ l2), by omega, (fun e => ?_), (fun e => ?_), hz1, hz2⟩, hR⟩, .of_below bd3, fun x hx => .inr ?_⟩
    · have := lv _ e
      omega
    · have := lv _ e
      omega
    · rcases bks_out hx with rfl | rfl | hx
      · omega
      · omega
      · exact (lv x hx).1

/-- The row on the way, behind i ids. -/
def allL (q : List Th) (i : Nat) : List Int := idsL (q.take i) ++ List.replicate (q.length - i) 0
theorem allL_len {q : List Th} {i : Nat} (hi : i ≤ q.length) : (allL q i).length = q.length := by
  unfold allL
  rw [List.length_append, idsL_len, List.length_take, List.length_replicate]
  omega
theorem allL_set {q : List Th} {i : Nat} {p : Th} (h : q[i]? = some p) : (allL q i).set i (p.1 : Int) = allL q (i + 1) := by
  have hi := (List.getElem?_eq_some_iff.1 h).1
  have hl : (idsL (q.take i)).length = i := by rw [idsL_len, List.length_take]; omega
  unfold allL
  rw [List.set_append_right _ _ (by omega), hl, Nat.sub_self]
  obtain ⟨m, hm⟩ : ∃ m, q.length - i = m + 1 := ⟨q.length - i - 1, by omega⟩
  rw [hm, show q.length - (i + 1) = m by omega, List.replicate_succ, List.set_cons_zero, List.take_add_one, h]
  simp [idsL]
theorem allL_end (q : List Th) : allL q q.length = idsL q := by simp [allL]

set_option maxHeartbeats 2000000 in
theorem all_any (h : HQ w B T N q) :
    Calls Try.prog 19 #[.pointer (some ⟨B, 0, none⟩)] w fun e w' => ∃ a, e = .returned (.slice a q.length q.length) ∧ RowI w' w.heap.size (.slice a q.length q.length) (idsL q) ∧ Below w.heap.size w w' := by
  obtain ⟨z1, z2, z3⟩ := h.sizes
  have HL := lenq_any h
  have m1 := mk_int q.length (by omega) w
  have hb : But [] w (w.alloc (.cells (madeCells #[.int .i64 0] q.length) 3)) := (But.refl [] w).alloc _
  have CO := copy_any (h.keep hb)
  have ho : (w.alloc (.cells (madeCells #[.int .i64 0] q.length) 3)).ownsRow w.heap.size 3 1 (.slice (some ⟨w.heap.size, 0, none⟩) q.length q.length) q.length ((allL q 0).map (Value.int .i64)) := by
    have := World.ownsRow_lit (base := w.heap.size) (e := 3) (size := 1) w (madeCells #[.int .i64 0] q.length) q.length (Nat.le_refl _) (by unfold maxLen; omega) (by rw [← Array.length_toList, toList_madeCells_one]; simp)
    rw [toList_madeCells_one] at this
    simpa [allL, idsL] using this
  go_enter Try.func19, Try.ntmps19
  go_wp2_with (first
    | (go_at_call 13; refine HL.mono ?_; rintro e w' ⟨rfl, hw⟩; subst w')
    | (go_at_call 25; refine CO.mono ?_; rintro e w2 ⟨B2, T2, rfl, h2, s2⟩))
  have ho2 := ownsRow_put ho (w' := w2) (fun x hx => s2.but.block x (ho.lt x hx).2 (by simp))
  have hn2 : w.heap.size ∉ T2 := fun e => by
    rcases s2.new _ e with e | e
    · cases e
    · simp at e
      omega
  have st2 : Step [] w T2 w2 := (Step.keep hb).trans s2
  clear m1 CO ho hb h HL
  go_loopw [13, 5] (fun v _ wr => ∃ (i : Nat) (T' : List Nat), i ≤ q.length ∧ v = .int .i64 i ∧ HQ wr B2 T' N (q.drop i) ∧ w.heap.size ∉ T' ∧ wr.ownsRow w.heap.size 3 1 (.slice (some ⟨w.heap.size, 0, none⟩) q.length q.length) q.length ((allL q i).map (Value.int .i64)) ∧ Step [] w T' wr) (fun v _ _ => 4096 - (intOf v).toNat)
  case atStart => exact ⟨0, T2, by omega, rfl, h2, hn2, ho2, st2⟩
  case round =>
    clear h2 hn2 ho2 st2 s2
    obtain ⟨i, T1, hi, rfl, h2, hn2, ho2, hb⟩ := hrel
    by_cases hlt : i < q.length
    · have PO := pop_any h2
      have hx : q[i]? = some q[i] := List.getElem?_eq_getElem hlt
      rw [List.drop_eq_getElem_cons hlt] at PO h2
      rw [List.tail_cons] at PO
      have hset := allL_set hx
      have hll := allL_len hi
      generalize q[i] = p at *
      have hlt' : (i : Int) < (q.length : Int) := by omega
      have hw0 : w.heap.size < wr.heap.size := (ho2.lt _ rfl).2
      have Hset : Hid ((allL q i).set i (p.1 : Int) = allL q (i + 1)) := hset
      have HC : ∀ W, But T1 wr W → W.ownsRow w.heap.size 3 1 (.slice (some ⟨w.heap.size, 0, none⟩) q.length q.length) q.length ((allL q i).map (Value.int .i64)) := fun W hW => ownsRow_put ho2 (fun x hx => by cases hx; exact hW.block _ hw0 hn2)
      have hci : ∃ y, ((allL q i).map (Value.int .i64))[i]? = some y := ⟨_, List.getElem?_eq_getElem (by rw [List.length_map, hll]; exact hlt)⟩
      clear hset hx hll
      go_wp2_with (first
        | (go_at_call 21; refine PO.mono ?_; rintro e w3 ⟨rfl, T3, h3, s3⟩; simp only [fstI, fstK, fstB]; have ho3 := HC _ s3.but; obtain ⟨y, hy⟩ := hci; have c3 := (ho3.cellAt i (by omega)).trans hy; have f3 := ho3.frozenAt i))
      go_roundw
      case rel =>
        have hn3 : w.heap.size ∉ T3 := fun e => by
          rcases s3.new _ e with e | e
          · exact hn2 e
          · omega
        refine ⟨i + 1, T3, by omega, by simp, h3.but (S := [w.heap.size]) ((But.refl _ _).set (p := ⟨w.heap.size, i, none⟩) (by simp) _) (fun x hx hs => by simp at hs; subst hs; exact hn3 hx), hn3, ?_, ?_⟩
        · have := (ho3.stored i (.int .i64 (p.1 : Int))).1
          rw [← List.map_set, Hset.out] at this
          exact this
        · have st3 := hb.trans s3
          exact ⟨st3.but.trans_new ((But.refl [w.heap.size] _).set (p := ⟨w.heap.size, i, none⟩) (by simp) _) (by simp), st3.new⟩
      case measure =>
        simp [intOf]
        omega
    · obtain rfl : i = q.length := by omega
      rw [allL_end] at ho2
      go_wp2_with fail
      go_ret
      refine ⟨_, rfl, ?_, hb.below⟩
      unfold RowI
      rw [idsL_len]
      exact ho2
end

end Go.Proofs.Ytmogedfjhbfglaa
