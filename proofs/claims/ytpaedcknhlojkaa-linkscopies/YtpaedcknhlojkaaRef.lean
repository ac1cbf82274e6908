/- The reference's Links in memory; contracts of its New, list, thing, Where, may, All. -/
import Derived.Test.YtpaedcknhlojkaaMovesWalk
namespace Go.Proofs.Ytpaedcknhlojkaa
open Go.RowKit

/-- The reference's Links at M, its rows' slices in LB; rows lie from block lo on. -/
structure RL (w : World) (lo M LB N L : Nat) (ls : List (List Nat)) : Prop where
  m : w.heap[M]? = some (.cells #[.int .i64 N, .slice (some ⟨LB, 0, none⟩) L L] 59 (0, 0))
  l : ∃ vs : List Value, w.heap[LB]? = some (.cells vs.toArray 33 (0, 0)) ∧ vs.length = L ∧ ∀ (i : Nat) (q : List Nat), ls[i]? = some q → ∃ v, vs[i]? = some v ∧ RowI w lo v (ints q)
  ok : Ok N L ls
  n : N ≤ 4096
  ll : L ≤ 4096
  ml : M < lo
  bl : LB < lo
  ne : M ≠ LB
  lo : lo ≤ w.heap.size

section
variable {w w' : World} {lo M LB N L : Nat} {ls : List (List Nat)}
theorem RL.but {S : List Nat} (h : RL w lo M LB N L ls) (hb : But S w w') (hS : ∀ x ∈ S, x < lo ∧ x ≠ M ∧ x ≠ LB) : RL w' lo M LB N L ls := by
  obtain ⟨vs, h1, h2, h3⟩ := h.l
  have s := h.lo
  have s1 := h.ml
  have s2 := h.bl
  refine ⟨(hb.block M (by omega) (fun e => (hS M e).2.1 rfl)).trans h.m, ⟨vs, (hb.block LB (by omega) (fun e => (hS LB e).2.2 rfl)).trans h1, h2, fun i q hq => ?_⟩, h.ok, h.n, h.ll, h.ml, h.bl, h.ne, Nat.le_trans h.lo hb.size⟩
  obtain ⟨v, e, hr⟩ := h3 i q hq
  exact ⟨v, e, hr.but hb (fun x hx => (hS x hx).1)⟩
theorem RL.keep (h : RL w lo M LB N L ls) (hb : But [] w w') : RL w' lo M LB N L ls := h.but hb (by simp)
theorem RL.below (h : RL w lo M LB N L ls) (hb : Below w.heap.size w w') : RL w' lo M LB N L ls := h.keep (.of_below hb)
theorem RL.c0 (h : RL w lo M LB N L ls) : w.cell? ⟨M, 0, none⟩ = some (.int .i64 N) := by simp [World.cell?, h.m]
theorem RL.c1 (h : RL w lo M LB N L ls) : w.cell? ⟨M, 1, none⟩ = some (.slice (some ⟨LB, 0, none⟩) L L) := by simp [World.cell?, h.m]
theorem RL.fz (h : RL w lo M LB N L ls) (j : Nat) : w.frozen? ⟨LB, j, none⟩ = false := by
  obtain ⟨vs, h1, _⟩ := h.l
  simp [World.frozen?, h1]
/-- A list's slice. -/
theorem RL.row (h : RL w lo M LB N L ls) {i : Nat} {q : List Nat} (hq : ls[i]? = some q) : ∃ a c, w.cell? ⟨LB, i, none⟩ = some (.slice a q.length c) ∧ RowI w lo (.slice a q.length c) (ints q) := by
  obtain ⟨vs, h1, h2, h3⟩ := h.l
  obtain ⟨v, e, hr⟩ := h3 i q hq
  obtain ⟨a, c, rfl, _⟩ := hr.open'
  rw [ints_len] at e hr
  exact ⟨a, c, by simp [World.cell?, h1, e], hr⟩
/-- A list's slice becomes another one. -/
theorem RL.put {w1 : World} (h : RL w lo M LB N L ls) (hb : But [] w w1) {i : Nat} {q' : List Nat} {v' : Value} (hi : i < L) (hr : RowI w1 lo v' (ints q')) (ho : Ok N L (ls.set i q')) :
    RL (w1.setCell ⟨LB, i, none⟩ v') lo M LB N L (ls.set i q') ∧ But [LB] w (w1.setCell ⟨LB, i, none⟩ v') := by
  have h1 := h.keep hb
  obtain ⟨vs, k1, k2, k3⟩ := h1.l
  have hb2 : But [LB] w1 (w1.setCell ⟨LB, i, none⟩ v') := (But.refl _ _).set (p := ⟨LB, i, none⟩) (by simp) _
  have hlo := h.bl
  refine ⟨⟨(Below.heap_setCell w1 ⟨LB, i, none⟩ _ M h.ne).trans h1.m, ⟨vs.set i v', ?_, by simpa using k2, fun j q hq => ?_⟩, ho, h.n, h.ll, h.ml, h.bl, h.ne, Nat.le_trans h1.lo hb2.size⟩, (hb.wide).trans hb2⟩
  · have := heap_setCell_same w1 LB i _ 33 v' k1
    rw [this]
    simp
  · rcases get_set hq with ⟨rfl, rfl⟩ | ⟨hj, hq'⟩
    · exact ⟨v', List.getElem?_set_self (by omega), hr.but hb2 (by simpa using hlo)⟩
    · obtain ⟨v, e, hr'⟩ := k3 j q hq'
      exact ⟨v, by rw [List.getElem?_set_ne (Ne.symm hj)]; exact e, hr'.but hb2 (by simpa using hlo)⟩
end

theorem info33 : (Try.prog.info? 33).map (fun i => (i.zero, i.size, i.bytes)) = some (some (.slice none 0 0), 1, 24) := by kernel_rfl
theorem mk_rows (n : Nat) (hn : n ≤ 8192) (W : World) : (Instr.makeSlice 57 (.int .i64 n) (.int .i64 n)).run Try.prog W = .ok (.slice (some ⟨W.heap.size, 0, none⟩) n n) (W.alloc (.cells (madeCells #[.slice none 0 0] n) 33)) := by
  obtain ⟨i0, hi, hz0, hz1, hz2⟩ := info_parts info33
  have h := run_make (P := Try.prog) W 57 33 i0 (.slice none 0 0) Try.underlying57 hi hz0 .i64 .i64 n n (by omega) (Int.le_refl _) (by rw [hz2]; omega) (by omega)
  simpa [hz1, show (Value.slice none 0 0).cells = #[.slice none 0 0] from rfl] using h

theorem rnew_none (a b : Int) (hm : (inN 4096 (a - 1) && inN 4096 (b - 1)) = false) (w : World) :
    Calls Try.prog 10 #[.int .i64 a, .int .i64 b] w fun e w' => e = .returned (.pointer none) ∧ w' = w := by
  unfold inN at hm
  simp at hm
  by_cases h1 : a < 1
  · go_enter Try.func10, Try.ntmps10
    go_wp2_with fail
    go_ret
    exact ⟨rfl, rfl⟩
  · by_cases h2 : 4096 < a
    · go_enter Try.func10, Try.ntmps10
      go_wp2_with fail
      go_ret
      exact ⟨rfl, rfl⟩
    · by_cases h3 : b < 1
      · go_enter Try.func10, Try.ntmps10
        go_wp2_with fail
        go_ret
        exact ⟨rfl, rfl⟩
      · have h4 : 4096 < b := by omega
        go_enter Try.func10, Try.ntmps10
        go_wp2_with fail
        go_ret
        exact ⟨rfl, rfl⟩

theorem rl_new (w : World) (N L : Nat) (h2 : N ≤ 4096) (h4 : L ≤ 4096) : RL ((w.alloc (.cells (madeCells #[.slice none 0 0] L) 33)).alloc (.cells #[.int .i64 N, .slice (some ⟨w.heap.size, 0, none⟩) L L] 59)) (w.heap.size + 2) (w.heap.size + 1) w.heap.size N L (List.replicate L []) := by
  refine ⟨?_, ⟨List.replicate L (.slice none 0 0), ?_, by simp, fun i q hq => ?_⟩, Ok.none, h2, h4, by omega, by omega, by omega, by simp⟩
  · have := heap_alloc_new (w.alloc (.cells (madeCells #[.slice none 0 0] L) 33)) (.cells #[.int .i64 N, .slice (some ⟨w.heap.size, 0, none⟩) L L] 59)
    rwa [World.size_alloc] at this
  · rw [Below.heap_alloc _ _ _ (by simp), heap_alloc_new]
    have e : madeCells #[.slice none 0 0] L = (List.replicate L (Value.slice none 0 0)).toArray := by
      apply Array.ext'
      rw [toList_madeCells_one]
    rw [e]
  · obtain ⟨hi, e⟩ := List.getElem?_eq_some_iff.1 hq
    simp at e hi
    subst e
    exact ⟨.slice none 0 0, List.getElem?_replicate_of_lt hi, World.ownsRow_nil _ _ _ _⟩

theorem rnew_some (N L : Nat) (h1 : 1 ≤ N) (h2 : N ≤ 4096) (h3 : 1 ≤ L) (h4 : L ≤ 4096) (w : World) :
    Calls Try.prog 10 #[.int .i64 N, .int .i64 L] w fun e w' => ∃ lo M LB, e = .returned (.pointer (some ⟨M, 0, none⟩)) ∧ RL w' lo M LB N L (List.replicate L []) ∧ w.heap.size ≤ M ∧ w.heap.size ≤ LB ∧ Below w.heap.size w w' := by
  have m3 := mk_rows L (by omega)
  have a1 : (1 : Int) ≤ (N : Int) := by omega
  have a2 : (N : Int) ≤ 4096 := by omega
  have a3 : (1 : Int) ≤ (L : Int) := by omega
  have a4 : (L : Int) ≤ 4096 := by omega
  go_enter Try.func10, Try.ntmps10
  go_wp2_with fail
  go_ret
  exact ⟨_, _, _, by simp, rl_new w N L h2 h4, by simp, Nat.le_refl _, ((Below.refl _ w).alloc (Nat.le_refl _) _).alloc (by simp) _⟩

section
variable {w : World} {lo M LB N L : Nat} {ls : List (List Nat)}

theorem rlist_any (h : RL w lo M LB N L ls) (t : Int) :
    Calls Try.prog 34 #[.pointer (some ⟨M, 0, none⟩), .int .i64 t] w fun e w' => e = .returned (.bool (inN L t)) ∧ w' = w := by
  have c1 := h.c1
  unfold inN
  by_cases h0 : 0 ≤ t
  · have e : decide (0 ≤ t ∧ t < (L : Int)) = decide (t < (L : Int)) := by simp [h0]
    rw [e]
    clear e
    go_enter Try.func34, Try.ntmps34
    go_wp2_with fail
    go_ret
    exact ⟨rfl, rfl⟩
  · have e : decide (0 ≤ t ∧ t < (L : Int)) = false := by simp [h0]
    rw [e]
    clear e
    have h1 : t < 0 := by omega
    go_enter Try.func34, Try.ntmps34
    go_wp2_with fail
    go_ret
    exact ⟨rfl, rfl⟩

theorem rthing_any (h : RL w lo M LB N L ls) (t : Int) :
    Calls Try.prog 46 #[.pointer (some ⟨M, 0, none⟩), .int .i64 t] w fun e w' => e = .returned (.bool (inN N t)) ∧ w' = w := by
  have c0 := h.c0
  unfold inN
  by_cases h0 : 0 ≤ t
  · have e : decide (0 ≤ t ∧ t < (N : Int)) = decide (t < (N : Int)) := by simp [h0]
    rw [e]
    clear e
    go_enter Try.func46, Try.ntmps46
    go_wp2_with fail
    go_ret
    exact ⟨rfl, rfl⟩
  · have e : decide (0 ≤ t ∧ t < (N : Int)) = false := by simp [h0]
    rw [e]
    clear e
    have h1 : t < 0 := by omega
    go_enter Try.func46, Try.ntmps46
    go_wp2_with fail
    go_ret
    exact ⟨rfl, rfl⟩

/-- Where a number stands, from list k on. -/
def whFi : List (List Nat) → Int → Int → Int
  | [], _, _ => -1
  | q :: r, t, k => if t ∈ ints q then k else whFi r t (k + 1)
theorem whFi_eq (t : Int) : ∀ (ls : List (List Nat)) (k : Int), whFi ls t k = if 0 ≤ t then whF ls t.toNat k else -1
  | [], k => by simp [whFi, whF]
  | q :: r, k => by
    unfold whFi
    rw [whFi_eq t r (k + 1)]
    by_cases h : 0 ≤ t
    · rw [if_pos h, if_pos h]
      show _ = (if t.toNat ∈ q then k else whF r t.toNat (k + 1))
      have e : t ∈ ints q ↔ t.toNat ∈ q := by
        unfold ints
        rw [List.mem_map]
        constructor
        · rintro ⟨x, hx, rfl⟩
          simpa using hx
        · intro hx
          exact ⟨t.toNat, hx, by omega⟩
      simp only [e]
    · rw [if_neg h, if_neg h]
      have e : t ∉ ints q := by
        unfold ints
        rw [List.mem_map]
        rintro ⟨x, _, rfl⟩
        omega
      rw [if_neg e]
theorem wI_eq (ls : List (List Nat)) (t : Int) : wI ls t = whFi ls t 0 := by rw [whFi_eq]; rfl
theorem whFi_step {ls : List (List Nat)} {i : Nat} {q : List Nat} (h : ls[i]? = some q) (t : Int) : whFi (ls.drop i) t i = if t ∈ ints q then (i : Int) else whFi (ls.drop (i + 1)) t ((i + 1 : Nat) : Int) := by
  obtain ⟨hi, e⟩ := List.getElem?_eq_some_iff.1 h
  rw [List.drop_eq_getElem_cons hi, whFi, e]
  simp

set_option maxHeartbeats 1000000 in
theorem rwhere_any (h : RL w lo M LB N L ls) (t : Int) :
    Calls Try.prog 13 #[.pointer (some ⟨M, 0, none⟩), .int .i64 t] w fun e w' => e = .returned (.int .i64 (wI ls t)) ∧ w' = w := by
  have c1 := h.c1
  have hll := h.ll
  have hw := wI_eq ls t
  generalize wI ls t = y at *
  go_enter Try.func13, Try.ntmps13
  go_wp2_with fail
  go_loopw [14, 5, 6, 8] (fun v _ _ _ wr => ∃ i : Nat, i ≤ L ∧ v = .int .i64 i ∧ wr = w ∧ Hid (y = whFi (ls.drop i) t i)) (fun v _ _ _ _ => 4096 - (intOf v).toNat)
  case atStart => exact ⟨0, by omega, rfl, rfl, hw⟩
  case round =>
    clear hw
    obtain ⟨i, hi, rfl, hw, hf⟩ := hrel
    subst wr
    by_cases hlt : i < L
    · have hq := h.ok.at hlt
      obtain ⟨a, c, hc, hr⟩ := h.row hq
      have hs := whFi_step hq t
      rw [← hf.out] at hs
      have HS : Hid (y = if t ∈ ints (lsI ls (i : Int)) then (i : Int) else whFi (ls.drop (i + 1)) t ((i + 1 : Nat) : Int)) := hs
      have hle := h.ok.short hq
      have hN := h.n
      have hia := hr.at
      clear hs hf hq hr
      generalize lsI ls (i : Int) = q at *
      have hlt' : (i : Int) < (L : Int) := by omega
      go_wp2_with fail
      go_loopw [21, 8] (fun v _ wr => ∃ j : Nat, j ≤ q.length ∧ v = .int .i64 j ∧ wr = w ∧ t ∉ ints (q.take j)) (fun v _ _ => 4096 - (intOf v).toNat)
      case atStart => exact ⟨0, by omega, rfl, rfl, by simp [ints]⟩
      case round =>
        obtain ⟨j, hj, rfl, hw, hf⟩ := hrel
        subst wr
        by_cases hjq : j < q.length
        · obtain ⟨g, rfl, cx⟩ := hia j (q[j] : Nat) (by rw [ints, List.getElem?_map, List.getElem?_eq_getElem hjq]; rfl)
          have hjq' : (j : Int) < (q.length : Int) := by omega
          have ht : ints (q.take (j + 1)) = ints (q.take j) ++ [(q[j] : Int)] := by
            rw [List.take_add_one, List.getElem?_eq_getElem hjq]
            simp only [Option.toList_some, ints, List.map_append, List.map_cons, List.map_nil]
          have hmem : ((q[j] : Nat) : Int) ∈ ints q := List.mem_map.2 ⟨q[j], List.getElem_mem hjq, rfl⟩
          generalize ((q[j] : Nat) : Int) = x at *
          by_cases hxt : x = t
          · subst hxt
            have HY : Hid (y = (i : Int)) := by have := HS.out; rw [if_pos hmem] at this; exact this
            clear HS hf hia
            go_wp2_with fail
            go_ret
            exact ⟨by rw [HY.out]; rfl, rfl⟩
          · have hxt' : (x == t) = false := by simpa using hxt
            have hf' : t ∉ ints (q.take (j + 1)) := by
              rw [ht]
              simp [hf, Ne.symm hxt]
            clear ht hmem
            go_wp2_with fail
            go_roundw
            case rel => exact ⟨j + 1, by omega, by simp, trivial, hf'⟩
            case measure =>
              simp [intOf]
              omega
        · obtain rfl : j = q.length := by omega
          have HY : Hid (y = whFi (ls.drop (i + 1)) t ((i + 1 : Nat) : Int)) := by
            have := HS.out
            rw [List.take_length] at hf
            rw [if_neg hf] at this
            exact this
          clear HS hia hf
          go_wp2_with fail
          go_roundw
          case rel => exact ⟨i + 1, by omega, by simp, trivial, HY⟩
          case measure =>
            simp [intOf]
            omega
    · obtain rfl : L = i := by omega
      have HY : Hid (y = -1) := by
        have := hf.out
        rw [List.drop_eq_nil_of_le (by rw [h.ok.len]; omega)] at this
        exact this
      clear hf
      go_wp2_with fail
      go_ret
      exact ⟨by rw [HY.out]; rfl, rfl⟩
end

end Go.Proofs.Ytpaedcknhlojkaa
