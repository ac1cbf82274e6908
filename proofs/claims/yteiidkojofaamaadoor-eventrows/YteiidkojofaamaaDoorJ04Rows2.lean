/- A source of bytes: Read. -/
/- All: the reference's. -/
import Derived.Test.YteiidkojofaamaaDoorCApp
import Derived.Test.YteiidkojofaamaaDoorJ03Rows2
import Derived.Test.YteiidkojofaamaaDoorEAll
namespace Go.Proofs.YteiidkojofaamaaDoor
open Go.RowKit

theorem eql_s22 (a : Addr) (n c : Nat) (W : World) : Sem.run Tryd.prog (binOp .eql 29 (.slice (some a) n c) (.slice none 0 0)) W = .ok (.bool false) W := by kernel_rfl
theorem eql_n22 (n c : Nat) (W : World) : Sem.run Tryd.prog (binOp .eql 29 (.slice none n c) (.slice none 0 0)) W = .ok (.bool true) W := by kernel_rfl

section
variable {B : Nat} {a : Option Addr} {c : Nat} {bs : List UInt8} {w : World}
set_option maxHeartbeats 400000 in
theorem clone_any (h : Byts w B a c bs) (hl : bs.length ≤ 100000) :
    Calls Tryd.prog 64 #[.slice a bs.length c] w fun e w' => ∃ v, e = .returned v ∧ Own w' w.heap.size v bs ∧ Below w.heap.size w w' := by
  cases a with
  | none =>
    have e : bs = [] := by
      rcases h with ⟨_, e⟩ | ⟨G, o, e, _⟩
      · exact e
      · cases e
    subst e
    have eq := eql_n22 0 c
    go_enter Tryd.func64, Tryd.ntmps64
    go_wp2
    go_ret
    exact ⟨_, rfl, own_nil _ _, Below.refl _ _⟩
  | some ad =>
    have eq := eql_s22 ad bs.length c
    have hn := own_nob w
    have h' : Byts (w.alloc (.cells #[] 5)) (max B 0) (some ad) c bs := (h.up (by omega)).but (S := []) ((But.refl [] w).alloc _) (by simp)
    go_enter Tryd.func64, Tryd.ntmps64
    go_wp2_with (at_builtin; refine wpList_bown rfl _ _ rfl w.heap.size _ [] rfl hn _ _ _ _ bs rfl rfl h' (by simp; omega) (by simp) ?_; intro v3 w3 ho3 hg3)
    go_ret
    exact ⟨_, rfl, ho3, ((Below.refl _ w).alloc (Nat.le_refl _) _).trans hg3⟩

set_option maxHeartbeats 400000 in
theorem read_any (h : Byts w B a c bs) (hl : bs.length ≤ 100000) :
    Calls Tryd.prog 45 #[.slice a bs.length c] w fun e w' => ∃ S, e = .returned (.pointer (some ⟨S, 0, none⟩)) ∧ w.heap.size ≤ S ∧ SQ w' S (0, bs) ∧ Below w.heap.size w w' := by
  have hc := clone_any h hl
  go_enter Tryd.func45, Tryd.ntmps45
  go_wp2_with (go_at_call 64; refine hc.mono ?_; rintro e w1 ⟨v, rfl, ho, hb⟩; obtain ⟨a1, c1, rfl, hy⟩ := ho.byts)
  go_ret
  refine ⟨_, rfl, hb.size, ⟨bs, ⟨a1, c1, ?_, hy.but (S := []) ((But.refl [] w1).alloc _) (by simp)⟩, fun _ => rfl, fun e => absurd rfl e⟩, hb.alloc hb.size _⟩
  exact heap_alloc_new w1 _
end
end Go.Proofs.YteiidkojofaamaaDoor
namespace Go.Proofs.YteiidkojofaamaaDoor
open Go Go.RowKit

theorem own_some {w : World} {lo : Nat} {v : Value} {l : List UInt8} (h : Own w lo v l) (h0 : 0 < l.length) : ∃ ad c, v = .slice (some ad) l.length c ∧ Byts w w.heap.size (some ad) c l := by
  obtain ⟨a, c, rfl, hy⟩ := h.byts
  rcases hy with ⟨h1, h2⟩ | ⟨G, o, rfl, h3⟩
  · rw [h2] at h0
    cases h0
  · exact ⟨_, c, rfl, .inr ⟨G, o, rfl, h3⟩⟩
set_option maxHeartbeats 4000000 in
set_option maxRecDepth 100000 in
theorem rall_any {w : World} {a : Option Addr} {xs : List Ev} (c : Nat) (hx : EV w a xs) (hR : ∀ e ∈ xs, RgE e) (hn : xs.length ≤ 1024) :
    Calls Tryd.prog 26 #[.slice a xs.length c] w fun r w' => ∃ v, r = .returned v ∧ Own w' w.heap.size v (allE xs) ∧ Below w.heap.size w w' := by
  obtain ⟨n, hN⟩ : ∃ n, Hid (xs.length = n) := ⟨_, rfl⟩
  have hn' : n ≤ 1024 := by rw [← hN.out]; exact hn
  have HL : Hid (xs.length ≤ 1024) := hn
  have hni : (n : Int) ≤ 1024 := by omega
  have HN := rnum (w := w) (B := 0) (a := none) (c := 0) (bs := []) (.inl ⟨rfl, rfl⟩) n (by omega) (by simp)
  simp only [List.length_nil, List.nil_append] at HN
  rw [hN.out]
  clear hn
  go_enter Tryd.func26, Tryd.ntmps26
  go_wp2_with (go_at_call 39; (with_reducible refine HN.mono ?_); rintro r w1 ⟨v1, rfl, ho1, hb1⟩)
  go_loopw [16, 3, 5, 6] (fun v15 v3 _ _ wr => ∃ j : Nat, j ≤ n ∧ v15 = .int .i64 j ∧ Own wr w.heap.size v3 (numL n ++ (xs.take j).flatMap byt) ∧ (∀ i, i < j → goodE (ev xs i) = true) ∧ Below w.heap.size w wr) (fun v15 _ _ _ _ => 1024 - (intOf v15).toNat)
  case atStart => exact ⟨0, Nat.zero_le _, rfl, by simpa using ho1, fun i hi => by omega, hb1⟩
  case round =>
    obtain ⟨j, hj, rfl, ho, hall, hb⟩ := hrel
    by_cases hlt : j < n
    · have hjx : j < xs.length := by rw [hN.out]; exact hlt
      obtain ⟨b, o, rfl, hc⟩ := hx.below hb j hjx
      obtain ⟨c0, c1, c2, c3, c4, c5, c6, c7, c8, c9, c10, c11, c12, c13, c14⟩ := hc.cells
      have hlt' : (j : Int) < (n : Int) := by omega
      have HALL : Hid (∀ i, i < j → goodE (ev xs i) = true) := hall
      have HJ : Hid (j < xs.length) := hjx
      have B2 : Below w.heap.size w (wr.alloc (.cells (evA (ev xs j)) 26)) := hb.alloc hb.size _
      have Ba : Below wr.heap.size wr (wr.alloc (.cells (evA (ev xs j)) 26)) := (Below.refl _ wr).alloc (Nat.le_refl _) _
      have E2 : Cel (wr.alloc (.cells (evA (ev xs j)) 26)) wr.heap.size (evA (ev xs j)) 26 := Cel.new wr _ 26
      have hrg := hR _ (ev_mem hjx)
      have hlen : (numL n ++ (xs.take j).flatMap byt).length ≤ 200000 := by
        have h1 := numL_len n
        have h2 := flat_bound (xs.take j)
        rw [List.length_take] at h2
        rw [List.length_append]
        omega
      cases hg : goodE (ev xs j) with
      | false =>
        have HG := rbytes_bad (ev xs j) (wr.alloc (.cells (evA (ev xs j)) 26)) hg
        have HQ : Hid (allE xs = []) := all_bad hjx hg
        have eq := eql_n22 0 0
        clear hall hjx hc hg ho hrg hlen
        generalize ev xs j = x at HG B2 Ba E2 c0 c1 c2 c3 c4 c5 c6 c7 c8 c9 c10 c11 c12 c13 c14
        unfold evA at HG B2
        go_wp2_with (go_at_call 13; (with_reducible refine HG.mono ?_); rintro r w3 ⟨rfl, hb3⟩)
        go_ret
        exact ⟨_, rfl, by rw [HQ.out]; exact own_nil _ _, B2.trans (hb3.mono B2.size)⟩
      | true =>
        have HG1 : Hid (goodE (ev xs j) = true) := hg
        have HB := rbytes_any (ev xs j) (wr.alloc (.cells (evA (ev xs j)) 26)) hg hrg
        have hbl := byt_len (ev xs j)
        have hbp : Hid (0 < (byt (ev xs j)).length) := byt_pos (ev xs j)
        have HS : Hid (numL n ++ (xs.take j).flatMap byt ++ byt (ev xs j) = numL n ++ (xs.take (j + 1)).flatMap byt) := by rw [flat_step hjx, List.append_assoc]; exact Hid.mk rfl
        have HA : Hid (∀ i, i < j + 1 → goodE (ev xs i) = true) := fun i hi => by
          by_cases e : i = j
          · rw [e]; exact HG1.out
          · exact HALL.out i (by omega)
        clear hall hjx hc hg hrg HG1
        generalize byt (ev xs j) = news at *
        generalize ev xs j = x at HB B2 Ba E2 c0 c1 c2 c3 c4 c5 c6 c7 c8 c9 c10 c11 c12 c13 c14
        obtain ⟨bs, hbs⟩ : ∃ bs, Hid (numL n ++ (xs.take j).flatMap byt = bs) := ⟨_, rfl⟩
        rw [hbs.out] at ho hlen HS
        have HO := Hid.mk ho
        have HBa := Hid.mk Ba
        clear ho
        unfold evA at HB B2
        go_wp2_with (first
          | (go_at_call 13; (with_reducible refine HB.mono ?_); rintro r w4 ⟨v4, rfl, ho4, hb4⟩; obtain ⟨ad4, k4, rfl, hy4⟩ := own_some ho4 hbp.out; have eq := eql_s22 ad4 news.length k4; have B4 := B2.trans (hb4.mono B2.size); have ho5 := (HO.out.below HBa.out).below hb4)
          | (at_builtin; refine wpList_bown rfl _ _ rfl w.heap.size _ bs rfl ho5 _ _ _ _ news rfl rfl hy4 (by omega) B4.size ?_; intro v6 w6 ho6 hb6))
        go_roundw
        case rel => exact ⟨j + 1, by omega, by simp, by rw [← HS.out]; exact ho6, HA.out, B4.trans hb6⟩
        case measure =>
          simp [intOf]
          omega
    · obtain rfl : j = n := by omega
      have HQ : Hid (allE xs = numL j ++ xs.flatMap byt) := by
        refine Hid.mk ?_
        rw [← hN.out]
        exact all_good HL.out (fun i hi => hall i (by rw [← hN.out]; exact hi))
      rw [List.take_of_length_le (by rw [hN.out]; exact Nat.le_refl _)] at ho
      have HO := Hid.mk ho
      clear hall ho
      go_wp2_with fail
      go_ret
      exact ⟨_, rfl, by rw [HQ.out]; exact HO.out, hb⟩
end Go.Proofs.YteiidkojofaamaaDoor
