/- Contracts of New. -/
import Derived.Test.YtmjjghhlalaeiaaTick
namespace Go.Proofs.Ytmjjghhlalaeiaa
open Go.RowKit

theorem wnew_none (a : Int) (hm : inN 4096 (a - 1) = false) (w : World) :
    Calls Try.prog 9 #[.int .i64 a] w fun e w' => e = .returned (.pointer none) ∧ w' = w := by
  unfold inN at hm
  simp at hm
  by_cases h1 : a < 1
  · go_enter Try.func9, Try.ntmps9
    go_wp2_with fail
    go_ret
    exact ⟨rfl, rfl⟩
  · have h2 : 4096 < a := by omega
    go_enter Try.func9, Try.ntmps9
    go_wp2_with fail
    go_ret
    exact ⟨rfl, rfl⟩

/-- A wheel's cells on the way: behind m rows. -/
def rowsV (m G N c PB : Nat) : List Value := .int .i64 0 :: .slice (some ⟨G, 0, none⟩) N c :: ((List.range 64).map (fun i => if i < m then iv i else .int .i64 0) ++ [.pointer (some ⟨PB, 0, none⟩)])
theorem rowsV_end (G N c PB : Nat) : rowsV 64 G N c PB = whV 0 G N c PB := by
  unfold rowsV whV
  congr 3
theorem rowsV_set {m G N c PB : Nat} (hm : m < 64) : (rowsV m G N c PB).set (2 + m) (iv m) = rowsV (m + 1) G N c PB := by
  unfold rowsV
  rw [show 2 + m = (m + 1) + 1 by omega, List.set_cons_succ, List.set_cons_succ, List.set_append_left _ _ (by simpa using hm)]
  congr 3
  exact set_range (fun x hx => by
    by_cases h : x < m
    · rw [if_pos h, if_pos (by omega)]
    · rw [if_neg h, if_neg (by omega)]) (by rw [if_pos (by omega)])

theorem rows_cells (G N c PB : Nat) : (Try.zeroCells57.setIfInBounds 1 (.slice (some ⟨G, 0, none⟩) N c)).setIfInBounds 66 (.pointer (some ⟨PB, 0, none⟩)) = (rowsV 0 G N c PB).toArray := by kernel_rfl
theorem rows_laid {W : World} {B G N c PB : Nat} (h : W.heap[B]? = some (.cells ((Try.zeroCells57.setIfInBounds 1 (.slice (some ⟨G, 0, none⟩) N c)).setIfInBounds 66 (.pointer (some ⟨PB, 0, none⟩))) 57 (0, 0))) : Row W B 57 (rowsV 0 G N c PB) := by
  rw [rows_cells] at h
  exact ⟨_, h, fun j v hv => by simpa using hv⟩
theorem LQ.nodup5 {w : World} {P : Pl} {N L : Nat} {ls : List (List Nat)} (h : LQ w P N L ls) : [P.B, P.n, P.p, P.w, P.c].Nodup := by
  obtain ⟨_, _, h, _⟩ := h
  exact h.nd

/-- What is laid ahead of the rows. -/
def Laid (w : World) (N : Nat) (v : Value) (W : World) : Prop := ∃ T : Wp, v = .pointer (some ⟨T.B, 0, none⟩) ∧ Row W T.B 57 (rowsV 0 T.G N T.c T.P.B) ∧ Row W T.G 3 ((List.replicate N (0 : Int)).map (Value.int .i64)) ∧ LQ W T.P N 64 (List.replicate 64 []) ∧ T.S.Nodup ∧ (∀ k ∈ T.S, w.heap.size ≤ k) ∧ Below w.heap.size w W
theorem laidA {w w2 : World} {P : Pl} {N : Nat} (hl : LQ w2 P N 64 (List.replicate 64 [])) (hk : ∀ k ∈ [P.B, P.n, P.p, P.w, P.c], (w.alloc (.cells (madeCells #[.int .i64 0] N) 3)).drew.heap.size ≤ k) (hb : Below (w.alloc (.cells (madeCells #[.int .i64 0] N) 3)).drew.heap.size (w.alloc (.cells (madeCells #[.int .i64 0] N) 3)).drew w2) :
    Laid w N (.pointer (some ⟨w2.heap.size, 0, none⟩)) (w2.alloc (.cells ((Try.zeroCells57.setIfInBounds 1 (.slice (some ⟨w.heap.size, 0, none⟩) N N)).setIfInBounds 66 (.pointer (some ⟨P.B, 0, none⟩))) 57)) := by
  have e : (w.alloc (.cells (madeCells #[.int .i64 0] N) 3)).drew.heap.size = w.heap.size + 1 := by
    show (w.alloc (.cells (madeCells #[.int .i64 0] N) 3)).heap.size = _
    simp
  rw [e] at hk
  have hs := hb.size
  rw [e] at hs
  have hlt := fun k hk => hl.lt5 (k := k) hk
  have hnd := hl.nodup5
  have hB0 : Below w.heap.size w (w.alloc (.cells (madeCells #[.int .i64 0] N) 3)).drew := ((Below.refl _ w).alloc (Nat.le_refl _) _).drew
  have hB1 := hB0.trans (hb.mono (by omega))
  refine ⟨⟨w2.heap.size, w.heap.size, N, P⟩, rfl, rows_laid (heap_alloc_new w2 _), ?_, hl.below ((Below.refl _ _).alloc (Nat.le_refl _) _), ?_, ?_, hB1.alloc (by omega) _⟩
  · refine row_made (n := N) ((Below.heap_alloc _ _ _ (by show w.heap.size < _; omega)).trans ((hb.block _ (by show w.heap.size < _; omega)).trans ?_)) (by simp)
    exact heap_alloc_new w _
  · refine List.nodup_cons.2 ⟨fun e => ?_, List.nodup_cons.2 ⟨fun e => ?_, hnd⟩⟩
    · rcases List.mem_cons.1 e with e | e
      · have e' : w2.heap.size = w.heap.size := e
        omega
      · have e' : w2.heap.size < w2.heap.size := hlt _ e
        omega
    · have e' : w.heap.size + 1 ≤ w.heap.size := hk _ e
      omega
  · intro k hk'
    rcases List.mem_cons.1 hk' with e | e
    · have e' : k = w2.heap.size := e
      omega
    · rcases List.mem_cons.1 e with e | e
      · have e' : k = w.heap.size := e
        omega
      · have := hk k e
        omega
theorem laidB {w w2 : World} {P : Pl} {N : Nat} (hl : LQ w2 P N 64 (List.replicate 64 [])) (hk : ∀ k ∈ [P.B, P.n, P.p, P.w, P.c], w.drew.heap.size ≤ k) (hb : Below w.drew.heap.size w.drew w2) :
    Laid w N (.pointer (some ⟨w2.heap.size + 1, 0, none⟩)) ((w2.alloc (.cells (madeCells #[.int .i64 0] N) 3)).alloc (.cells ((Try.zeroCells57.setIfInBounds 1 (.slice (some ⟨w2.heap.size, 0, none⟩) N N)).setIfInBounds 66 (.pointer (some ⟨P.B, 0, none⟩))) 57)) := by
  have e : w.drew.heap.size = w.heap.size := rfl
  rw [e] at hk
  have hs := hb.size
  rw [e] at hs
  have hlt := fun k hk => hl.lt5 (k := k) hk
  have hnd := hl.nodup5
  have hB1 : Below w.heap.size w w2 := (Below.refl _ w).drew.trans hb
  have es : (w2.alloc (.cells (madeCells #[.int .i64 0] N) 3)).heap.size = w2.heap.size + 1 := by simp
  refine ⟨⟨w2.heap.size + 1, w2.heap.size, N, P⟩, rfl, rows_laid ?_, ?_, hl.below (((Below.refl _ _).alloc (Nat.le_refl _) _).alloc (by simp) _), ?_, ?_, (hB1.alloc (by omega) _).alloc (by rw [es]; omega) _⟩
  · have := heap_alloc_new (w2.alloc (.cells (madeCells #[.int .i64 0] N) 3)) (.cells ((Try.zeroCells57.setIfInBounds 1 (.slice (some ⟨w2.heap.size, 0, none⟩) N N)).setIfInBounds 66 (.pointer (some ⟨P.B, 0, none⟩))) 57)
    rwa [es] at this
  · exact row_made (n := N) ((Below.heap_alloc _ _ _ (by rw [es]; show w2.heap.size < _; omega)).trans (heap_alloc_new w2 _)) (by simp)
  · refine List.nodup_cons.2 ⟨fun e => ?_, List.nodup_cons.2 ⟨fun e => ?_, hnd⟩⟩
    · rcases List.mem_cons.1 e with e | e
      · have e' : w2.heap.size + 1 = w2.heap.size := e
        omega
      · have e' : w2.heap.size + 1 < w2.heap.size := hlt _ e
        omega
    · have e' : w2.heap.size < w2.heap.size := hlt _ e
      omega
  · intro k hk'
    rcases List.mem_cons.1 hk' with e | e
    · have e' : k = w2.heap.size + 1 := e
      omega
    · rcases List.mem_cons.1 e with e | e
      · have e' : k = w2.heap.size := e
        omega
      · exact hk k e

theorem rowsV_get {m G N c PB : Nat} (hm : m < 64) : (rowsV m G N c PB)[2 + m]? = some (.int .i64 0) := by
  unfold rowsV
  rw [show 2 + m = (m + 1) + 1 by omega, List.getElem?_cons_succ, List.getElem?_cons_succ, List.getElem?_append_left (by simpa using hm), List.getElem?_map, List.getElem?_range hm]
  simp
theorem wq_new {W : World} {T : Wp} {N : Nat} (hr : Row W T.B 57 (rowsV 64 T.G N T.c T.P.B)) (hg : Row W T.G 3 ((List.replicate N (0 : Int)).map (Value.int .i64))) (hl : LQ W T.P N 64 (List.replicate 64 [])) (hnd : T.S.Nodup) : WQ W T N 0 (List.replicate N 0) := by
  have h0 : ∀ t, wt (List.replicate N 0) t = 0 := fun t => by
    unfold wt
    rw [List.getD_eq_getElem?_getD, List.getElem?_replicate]
    split <;> rfl
  have hr' : Row W T.B 57 (whV 0 T.G N T.c T.P.B) := rowsV_end T.G N T.c T.P.B ▸ hr
  have hnd' : T.B ∉ T.five ∧ T.G ∉ T.five ∧ T.B ≠ T.G := by
    have h1 : (T.B :: T.G :: T.five).Nodup := hnd
    have h2 := List.nodup_cons.1 h1
    have h3 := List.nodup_cons.1 h2.2
    exact ⟨fun e => h2.1 (List.mem_cons_of_mem _ e), h3.1, fun e => h2.1 (e ▸ List.mem_cons_self)⟩
  have hM : WM W T N 0 (List.replicate N (0 : Int)) (List.replicate 64 []) := ⟨hr', hg, List.length_replicate, hl, hnd'.1, hnd'.2.1, hnd'.2.2⟩
  refine ⟨⟨_, _, hM, List.length_replicate, ?_, ?_, ?_, ?_⟩, fun t ht => absurd (h0 t) ht⟩
  · intro t _ ht
    exact absurd (h0 t) ht
  · intro i q hq t ht
    obtain ⟨_, e⟩ := List.getElem?_eq_some_iff.1 hq
    rw [List.getElem_replicate] at e
    subst e
    exact absurd ht List.not_mem_nil
  · intro t ht
    exact absurd (h0 t) ht
  · intro t ht
    exact absurd (h0 t) ht

set_option maxRecDepth 100000 in
set_option maxHeartbeats 4000000 in
theorem wnew_some (N : Nat) (h1 : 1 ≤ N) (h2 : N ≤ 4096) (w : World) :
    Calls Try.prog 9 #[.int .i64 N] w fun e w' => ∃ T : Wp, e = .returned (.pointer (some ⟨T.B, 0, none⟩)) ∧ WQ w' T N 0 (List.replicate N 0) ∧ (∀ k ∈ T.S, w.heap.size ≤ k) ∧ Below w.heap.size w w' := by
  have m1 := mk_int N (by omega)
  have HN : ∀ W, _ := fun W => new_some N 64 h1 h2 (by omega) (by omega) W
  have a1 : (1 : Int) ≤ (N : Int) := by omega
  have a2 : (N : Int) ≤ 4096 := by omega
  go_enter Try.func9, Try.ntmps9
  go_upto_region 3 with fail
  go_cut [3] from 12 to 18 (fun s3 wx => Laid w N s3 wx)
  case first =>
    go_region_with (go_at_call 26; refine (HN _).mono ?_; rintro e w2 ⟨P, rfl, hl, hk, hb⟩)
    all_goals
      go_wp2_with fail
      go_meet
      case rel =>
        first
        | exact laidA hl hk hb
        | exact laidB hl hk hb
  case rest =>
    obtain ⟨T, rfl, hr, hg, hl, hnd, hk, hb⟩ := hcut
    clear m1 HN
    have hbk := hk T.B (by simp [Wp.S])
    have hother : ∀ (W : World) (p : Addr) (v : Value), p.block = T.B → LQ W T.P N 64 (List.replicate 64 []) → Row W T.G 3 ((List.replicate N (0 : Int)).map (Value.int .i64)) → LQ (W.setCell p v) T.P N 64 (List.replicate 64 []) ∧ Row (W.setCell p v) T.G 3 ((List.replicate N (0 : Int)).map (Value.int .i64)) := fun W p v hp hl hg => by
      have h1 : (T.B :: T.G :: T.five).Nodup := hnd
      have h2 := (List.nodup_cons.1 h1).1
      refine ⟨hl.but ((But.refl [T.B] W).set (p := p) (by simp [hp]) _) (fun k hk e => ?_), hg.put (Below.heap_setCell _ _ _ _ (by rw [hp]; exact fun e => h2 (e ▸ List.mem_cons_self)))⟩
      obtain rfl := List.mem_singleton.1 e
      exact h2 (List.mem_cons_of_mem _ hk)
    go_wp2_with fail
    go_loopw [18] (fun v wr => ∃ l : Nat, l ≤ 4 ∧ v = .int .i64 l ∧ Row wr T.B 57 (rowsV (16 * l) T.G N T.c T.P.B) ∧ Row wr T.G 3 ((List.replicate N (0 : Int)).map (Value.int .i64)) ∧ LQ wr T.P N 64 (List.replicate 64 []) ∧ Below w.heap.size w wr) (fun v _ => 4 - (intOf v).toNat)
    case atStart => exact ⟨0, by omega, rfl, hr, hg, hl, hb⟩
    case round =>
      clear hr hg hl hb
      obtain ⟨l, hl4, rfl, hr, hg, hl, hb⟩ := hrel
      by_cases hlt : l < 4
      · have hlt' : (l : Int) < 4 := by omega
        have hl0 : (0 : Int) ≤ (l : Int) := by omega
        go_wp2_with fail
        go_loopw [21] (fun v wr' => ∃ j : Nat, j ≤ 16 ∧ v = .int .i64 j ∧ Row wr' T.B 57 (rowsV (16 * l + j) T.G N T.c T.P.B) ∧ Row wr' T.G 3 ((List.replicate N (0 : Int)).map (Value.int .i64)) ∧ LQ wr' T.P N 64 (List.replicate 64 []) ∧ Below w.heap.size w wr') (fun v _ => 16 - (intOf v).toNat)
        case atStart => exact ⟨0, by omega, rfl, hr, hg, hl, hb⟩
        case round =>
          clear hr hg hl hb
          obtain ⟨j, hj, rfl, hr, hg, hl, hb⟩ := hrel
          by_cases hjl : j < 16
          · have hj' : (j : Int) < 16 := by omega
            have hj0 : (0 : Int) ≤ (j : Int) := by omega
            have hm : 16 * l + j < 64 := by omega
            have cx : wr.cell? ⟨T.B, 2 + l * 16 + j, none⟩ = some (.int .i64 0) := by
              have := hr.cell (rowsV_get hm)
              rwa [show 2 + (16 * l + j) = 2 + l * 16 + j by omega] at this
            have fx := hr.fz (2 + l * 16 + j)
            go_wp2_with fail
            go_roundw
            case rel =>
              have ev : ((l : Int) * 16 + (j : Int)) = ((16 * l + j : Nat) : Int) := by omega
              obtain ⟨hl', hg'⟩ := hother wr ⟨T.B, 2 + l * 16 + j, none⟩ (.int .i64 ((l : Int) * 16 + (j : Int))) rfl hl hg
              refine ⟨j + 1, by omega, by simp, ?_, hg', hl', hb.setCell hbk _⟩
              have := hr.set (2 + (16 * l + j)) (iv (16 * l + j))
              rw [rowsV_set hm] at this
              rw [ev, show 2 + l * 16 + j = 2 + (16 * l + j) by omega]
              exact this
            case measure =>
              simp [intOf]
              omega
          · obtain rfl : j = 16 := by omega
            go_wp2_with fail
            go_roundw
            case rel => exact ⟨l + 1, by omega, by simp, hr, hg, hl, hb⟩
            case measure =>
              simp [intOf]
              omega
      · obtain rfl : l = 4 := by omega
        go_wp2_with fail
        go_ret
        exact ⟨T, rfl, wq_new hr hg hl hnd, hk, hb⟩
end Go.Proofs.Ytmjjghhlalaeiaa
