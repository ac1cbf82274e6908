/- All: the program's. -/
import Derived.Test.YteiidkojofaamaaDoorEBytes
namespace Go.Proofs.YteiidkojofaamaaDoor
open Go Go.RowKit

theorem byt_pos (e : Ev) : 0 < (byt e).length := by simp [byt]
theorem flat_step {xs : List Ev} {j : Nat} (h : j < xs.length) : (xs.take (j + 1)).flatMap byt = (xs.take j).flatMap byt ++ byt (ev xs j) := by
  obtain ⟨hj, e⟩ := List.getElem?_eq_some_iff.1 (ev_get h)
  rw [List.take_succ_eq_append_getElem hj, List.flatMap_append, e]
  simp
theorem flat_bound : ∀ xs : List Ev, (xs.flatMap byt).length ≤ 155 * xs.length
  | [] => by simp
  | e :: xs => by
    have h1 := flat_bound xs
    have h2 := byt_len e
    rw [List.flatMap_cons, List.length_append, List.length_cons]
    omega
theorem all_bad {xs : List Ev} {j : Nat} (h : j < xs.length) (hg : goodE (ev xs j) = false) : allE xs = [] := by
  unfold allE
  rw [if_neg]
  rintro ⟨_, h2⟩
  have := List.all_eq_true.1 h2 _ (ev_mem h)
  rw [hg] at this
  cases this
theorem all_good {xs : List Ev} (hn : xs.length ≤ 1024) (h : ∀ i, i < xs.length → goodE (ev xs i) = true) : allE xs = numL xs.length ++ xs.flatMap byt := by
  unfold allE
  rw [if_pos]
  refine ⟨hn, List.all_eq_true.2 fun e he => ?_⟩
  obtain ⟨i, hi, rfl⟩ := List.getElem_of_mem he
  have := h i hi
  rwa [ev_of (List.getElem?_eq_getElem hi)] at this
set_option maxHeartbeats 4000000 in
set_option maxRecDepth 100000 in
theorem all_any {w : World} {a : Option Addr} {xs : List Ev} (c : Nat) (hx : EV w a xs) (hR : ∀ e ∈ xs, RgE e) (hT : Tab w) (hn : xs.length ≤ 1024) :
    Calls Tryd.prog 25 #[.slice a xs.length c] w fun r w' => ∃ v, r = .returned v ∧ Own w' w.heap.size v (allE xs) ∧ Below w.heap.size w w' := by
  obtain ⟨n, hN⟩ : ∃ n, Hid (xs.length = n) := ⟨_, rfl⟩
  have hn' : n ≤ 1024 := by rw [← hN.out]; exact hn
  have HL : Hid (xs.length ≤ 1024) := hn
  have hni : (n : Int) ≤ 1024 := by omega
  have HN := cnum (w := w) (B := 0) (a := none) (c := 0) (bs := []) (.inl ⟨rfl, rfl⟩) n (by omega) (by simp)
  simp only [List.length_nil, List.nil_append] at HN
  rw [hN.out]
  clear hn
  go_enter Tryd.func25, Tryd.ntmps25
  go_wp2_with (go_at_call 58; (with_reducible refine HN.mono ?_); rintro r w1 ⟨v1, rfl, ho1, hb1⟩)
  go_loopw [15, 3, 5] (fun v15 v3 _ wr => ∃ j : Nat, j ≤ n ∧ v15 = .int .i64 j ∧ Own wr w.heap.size v3 (numL n ++ (xs.take j).flatMap byt) ∧ (∀ i, i < j → goodE (ev xs i) = true) ∧ Below w.heap.size w wr) (fun v15 _ _ _ => 1024 - (intOf v15).toNat)
  case atStart => exact ⟨0, Nat.zero_le _, rfl, by simpa using ho1, fun i hi => by omega, hb1⟩
  case round =>
    obtain ⟨j, hj, rfl, ho, hall, hb⟩ := hrel
    by_cases hlt : j < n
    · have hjx : j < xs.length := by rw [hN.out]; exact hlt
      obtain ⟨b, o, rfl, hc⟩ := hx.below hb j hjx
      obtain ⟨c0, c1, c2, c3, c4, c5, c6, c7, c8, c9, c10, c11, c12, c13, c14⟩ := hc.cells
      have hlt' : (j : Int) < (n : Int) := by omega
      have HALL : Hid (∀ i, i < j → goodE (ev xs i) = true) := hall
      have HJ : Hid (j < xs.length) := hjx
      have B2 : Below w.heap.size w (wr.alloc (.cells (evA (ev xs j)) 26)) := hb.alloc hb.size _
      have Ba : Below wr.heap.size wr (wr.alloc (.cells (evA (ev xs j)) 26)) := (Below.refl _ wr).alloc (Nat.le_refl _) _
      have E2 : Cel (wr.alloc (.cells (evA (ev xs j)) 26)) wr.heap.size (evA (ev xs j)) 26 := Cel.new wr _ 26
      have hrg := hR _ (ev_mem hjx)
      have hlen : (numL n ++ (xs.take j).flatMap byt).length ≤ 200000 := by
        have h1 := numL_len n
        have h2 := flat_bound (xs.take j)
        rw [List.length_take] at h2
        rw [List.length_append]
        omega
      have HG := good_any (ev xs j) _ (hT.on B2)
      cases hg : goodE (ev xs j) with
      | false =>
        have HQ : Hid (allE xs = []) := all_bad hjx hg
        rw [hg] at HG
        clear hall hjx hc hg ho hrg
        generalize ev xs j = x at HG B2 Ba E2 c0 c1 c2 c3 c4 c5 c6 c7 c8 c9 c10 c11 c12 c13 c14
        unfold evA at HG B2
        go_wp2_with (go_at_call 8; (with_reducible refine HG.mono ?_); rintro r w3 ⟨rfl, hb3⟩)
        go_ret
        exact ⟨_, rfl, by rw [HQ.out]; exact own_nil _ _, B2.trans (hb3.mono B2.size)⟩
      | true =>
        rw [hg] at HG
        have HG1 : Hid (goodE (ev xs j) = true) := hg
        have HB : ∀ W, Below w.heap.size w W → Calls Tryd.prog 12 #[.agg (evA (ev xs j))] W fun r w' => ∃ v, r = .returned v ∧ Own w' W.heap.size v (byt (ev xs j)) ∧ Below W.heap.size W w' := fun W h => bytes_any (ev xs j) W (hT.on h) hg hrg
        have hbl := byt_len (ev xs j)
        have HS : Hid (numL n ++ (xs.take j).flatMap byt ++ byt (ev xs j) = numL n ++ (xs.take (j + 1)).flatMap byt) := by rw [flat_step hjx, List.append_assoc]; exact Hid.mk rfl
        have HA : Hid (∀ i, i < j + 1 → goodE (ev xs i) = true) := fun i hi => by
          by_cases e : i = j
          · rw [e]; exact HG1.out
          · exact HALL.out i (by omega)
        clear hall hjx hc hg hrg HG1
        generalize byt (ev xs j) = news at *
        generalize ev xs j = x at HG HB B2 Ba E2 c0 c1 c2 c3 c4 c5 c6 c7 c8 c9 c10 c11 c12 c13 c14
        have q : ∀ i v, (evA x)[i]? = some v → ∀ W, Below (wr.alloc (.cells (evA x) 26)).heap.size (wr.alloc (.cells (evA x) 26)) W → W.cell? ⟨wr.heap.size, i, none⟩ = some v := fun i v hv W hW => (E2.below hW).cell hv
        obtain ⟨bs, hbs⟩ : ∃ bs, Hid (numL n ++ (xs.take j).flatMap byt = bs) := ⟨_, rfl⟩
        rw [hbs.out] at ho hlen HS
        have HO := Hid.mk ho
        have Q := Hid.mk q
        have HBa := Hid.mk Ba
        clear q ho
        unfold evA at HG HB B2
        go_wp2_with (first
          | (go_at_call 8; (with_reducible refine HG.mono ?_); rintro r w3 ⟨rfl, hb3⟩; have B3 := B2.trans (hb3.mono B2.size); have y0 : w3.cell? ⟨wr.heap.size, 0, none⟩ = some (.int .i64 x.kd) := Q.out 0 _ rfl w3 hb3; have y1 : w3.cell? ⟨wr.heap.size, 1, none⟩ = some (.int .i64 x.ac) := Q.out 1 _ rfl w3 hb3; have y2 : w3.cell? ⟨wr.heap.size, 2, none⟩ = some (.int .i64 x.th) := Q.out 2 _ rfl w3 hb3; have y3 : w3.cell? ⟨wr.heap.size, 3, none⟩ = some (.int .i64 x.va) := Q.out 3 _ rfl w3 hb3; have y4 : w3.cell? ⟨wr.heap.size, 4, none⟩ = some (.int .i64 x.pg) := Q.out 4 _ rfl w3 hb3; have y5 : w3.cell? ⟨wr.heap.size, 5, none⟩ = some (.int .i64 x.pc) := Q.out 5 _ rfl w3 hb3; have y6 : w3.cell? ⟨wr.heap.size, 6, none⟩ = some (.int .i64 (x.rs 0)) := Q.out 6 _ rfl w3 hb3; have y7 : w3.cell? ⟨wr.heap.size, 7, none⟩ = some (.int .i64 (x.rs 1)) := Q.out 7 _ rfl w3 hb3; have y8 : w3.cell? ⟨wr.heap.size, 8, none⟩ = some (.int .i64 (x.rs 2)) := Q.out 8 _ rfl w3 hb3; have y9 : w3.cell? ⟨wr.heap.size, 9, none⟩ = some (.int .i64 (x.rs 3)) := Q.out 9 _ rfl w3 hb3; have y10 : w3.cell? ⟨wr.heap.size, 10, none⟩ = some (.int .i64 (x.rs 4)) := Q.out 10 _ rfl w3 hb3; have y11 : w3.cell? ⟨wr.heap.size, 11, none⟩ = some (.int .i64 (x.rs 5)) := Q.out 11 _ rfl w3 hb3; have y12 : w3.cell? ⟨wr.heap.size, 12, none⟩ = some (.int .i64 (x.rs 6)) := Q.out 12 _ rfl w3 hb3; have y13 : w3.cell? ⟨wr.heap.size, 13, none⟩ = some (.int .i64 (x.rs 7)) := Q.out 13 _ rfl w3 hb3; have y14 : w3.cell? ⟨wr.heap.size, 14, none⟩ = some (.int .i64 x.dp) := Q.out 14 _ rfl w3 hb3)
          | (go_at_call 12; (with_reducible refine (HB _ B3).mono ?_); rintro r w4 ⟨v4, rfl, ho4, hb4⟩; obtain ⟨a4, k4, rfl, hy4⟩ := ho4.byts; have B4 := B3.trans (hb4.mono B3.size); have ho5 := ((HO.out.below HBa.out).below hb3).below hb4)
          | (at_builtin; refine wpList_bown rfl _ _ rfl w.heap.size _ bs rfl ho5 _ _ _ _ news rfl rfl hy4 (by omega) B4.size ?_; intro v6 w6 ho6 hb6))
        go_roundw
        case rel => exact ⟨j + 1, by omega, by simp, by rw [← HS.out]; exact ho6, HA.out, B4.trans hb6⟩
        case measure =>
          simp [intOf]
          omega
    · obtain rfl : j = n := by omega
      have HQ : Hid (allE xs = numL j ++ xs.flatMap byt) := by
        refine Hid.mk ?_
        rw [← hN.out]
        exact all_good HL.out (fun i hi => hall i (by rw [← hN.out]; exact hi))
      rw [List.take_of_length_le (by rw [hN.out]; exact Nat.le_refl _)] at ho
      have HO := Hid.mk ho
      clear hall ho
      go_wp2_with fail
      go_ret
      exact ⟨_, rfl, by rw [HQ.out]; exact HO.out, hb⟩
end Go.Proofs.YteiidkojofaamaaDoor
