/- The document's queue as it lies in memory. -/
import Derived.Test.YtlnfabjgcecebaaGreatRdM
import Derived.Test.YtlnfabjgcecebaaGreatJ7
import Derived.Test.YtlnfabjgcecebaaGreatJ9
import Derived.Deep.RegionHeld3
namespace Go.Proofs.YtlnfabjgcecebaaGreat.Rd
open Go Go.RowKit Go.Proofs.YtlnfabjgcecebaaGreat.Big Go.Proofs.YtlnfabjgcecebaaGreat.Str Go.Proofs.YtlnfabjgcecebaaGreat.Hp

theorem mid_rw {xs : List Rw} {i : Nat} {a : Rw} (h : xs[i]? = some a) : ∃ u v, xs = u ++ a :: v ∧ u.length = i ∧ ∀ b, xs.set i b = u ++ b :: v := by
  obtain ⟨hi, e⟩ := List.getElem?_eq_some_iff.1 h
  have e0 : xs = xs.take i ++ a :: xs.drop (i + 1) := by
    rw [← e, ← List.drop_eq_getElem_cons hi, List.take_append_drop]
  have hl : (xs.take i).length = i := by rw [List.length_take]; omega
  refine ⟨xs.take i, xs.drop (i + 1), e0, hl, fun b => ?_⟩
  exact List.set_eq_take_append_cons_drop.trans (by rw [if_pos hi])
/-- Rows as cells. -/
def cl4 (r : Rw) : List Value := [.int .i64 r.1, .int .i64 r.2.1, .int .i64 r.2.2.1, .int .i64 r.2.2.2]
def flat4 (xs : List Rw) : List Value := xs.flatMap cl4
theorem flat4_cons (r : Rw) (xs : List Rw) : flat4 (r :: xs) = cl4 r ++ flat4 xs := rfl
theorem flat4_app (xs ys : List Rw) : flat4 (xs ++ ys) = flat4 xs ++ flat4 ys := by simp [flat4]
theorem flat4_len : ∀ xs : List Rw, (flat4 xs).length = xs.length * 4
  | [] => rfl
  | r :: xs => by
    rw [flat4_cons, List.length_append, flat4_len xs, List.length_cons]
    show 4 + _ = _
    omega
theorem flat4_get {xs : List Rw} {i k : Nat} (h : i < xs.length) (hk : k < 4) : (flat4 xs)[i * 4 + k]? = (cl4 (rw xs i))[k]? := by
  obtain ⟨u, v, e, hu, _⟩ := mid_rw (rw_get h)
  generalize rw xs i = r at *
  have hl : (flat4 u).length = i * 4 := by rw [flat4_len, hu]
  rw [e, flat4_app, flat4_cons, List.getElem?_append_right (by omega), hl, show i * 4 + k - i * 4 = k by omega, List.getElem?_append_left (by show k < 4; exact hk)]
theorem flat4_set {xs : List Rw} {i : Nat} (h : i < xs.length) (r : Rw) : flat4 (xs.set i r) = ((((flat4 xs).set (i * 4) (.int .i64 r.1)).set (i * 4 + 1) (.int .i64 r.2.1)).set (i * 4 + 2) (.int .i64 r.2.2.1)).set (i * 4 + 3) (.int .i64 r.2.2.2) := by
  obtain ⟨u, v, e, hu, hs⟩ := mid_rw (rw_get h)
  have hl : (flat4 u).length = i * 4 := by rw [flat4_len, hu]
  rw [hs]
  conv => rhs; rw [e]
  rw [flat4_app, flat4_cons, flat4_app, flat4_cons]
  rw [List.set_append_right _ _ (by omega), List.set_append_right _ _ (by omega), List.set_append_right _ _ (by omega), List.set_append_right _ _ (by omega), hl]
  simp [cl4]
theorem flat4_new (n : Nat) : flat4 (List.replicate n z4) = List.replicate (n * 4) (.int .i64 0) := by
  induction n with
  | zero => rfl
  | succ n ih =>
    rw [List.replicate_succ, flat4_cons, ih, show (n + 1) * 4 = 4 + n * 4 by omega, ← List.replicate_append_replicate]
    rfl

/-- The document's queue: its own block M, the rows' block G. -/
structure RQ (w : World) (M G N : Nat) (σ : Qs) : Prop where
  b : ∃ c, N ≤ c ∧ c ≤ maxLen ∧ w.heap[M]? = some (.cells #[.int .i64 σ.now, .slice (some ⟨G, 0, none⟩) N c] 42 (0, 0))
  g : Row w G 57 (flat4 σ.L)
  ne : M ≠ G
  len : σ.L.length = N
  n1 : 1 ≤ N
  n2 : N ≤ 4096
section
variable {w w' : World} {M G N : Nat} {σ : Qs}
theorem RQ.c0 (h : RQ w M G N σ) : w.cell? ⟨M, 0, none⟩ = some (.int .i64 σ.now) := by
  obtain ⟨c, _, _, hb⟩ := h.b
  simp [World.cell?, hb]
theorem RQ.c1 (h : RQ w M G N σ) : ∃ c, N ≤ c ∧ c ≤ maxLen ∧ w.cell? ⟨M, 1, none⟩ = some (.slice (some ⟨G, 0, none⟩) N c) := by
  obtain ⟨c, h1, h2, hb⟩ := h.b
  exact ⟨c, h1, h2, by simp [World.cell?, hb]⟩
theorem RQ.fm (h : RQ w M G N σ) (j : Nat) : w.frozen? ⟨M, j, none⟩ = false := by
  obtain ⟨c, _, _, hb⟩ := h.b
  simp [World.frozen?, hb]
theorem RQ.ltM (h : RQ w M G N σ) : M < w.heap.size := by
  obtain ⟨c, _, _, hb⟩ := h.b
  exact (Array.getElem?_eq_some_iff.1 hb).1
theorem RQ.r (h : RQ w M G N σ) {i k : Nat} (hi : i < N) (hk : k < 4) : w.cell? ⟨G, i * 4 + k, none⟩ = (cl4 (rw σ.L i))[k]? := by
  have e := flat4_get (xs := σ.L) (i := i) (k := k) (by rw [h.len]; exact hi) hk
  obtain ⟨v, hv⟩ : ∃ v, (cl4 (rw σ.L i))[k]? = some v := ⟨_, List.getElem?_eq_getElem (by show k < 4; exact hk)⟩
  rw [hv] at e ⊢
  exact h.g.cell e
theorem RQ.r0 (h : RQ w M G N σ) {i : Nat} (hi : i < N) : w.cell? ⟨G, i * 4, none⟩ = some (.int .i64 (rw σ.L i).1) := h.r (k := 0) hi (by omega)
theorem RQ.r1 (h : RQ w M G N σ) {i : Nat} (hi : i < N) : w.cell? ⟨G, i * 4 + 1, none⟩ = some (.int .i64 (rw σ.L i).2.1) := h.r (k := 1) hi (by omega)
theorem RQ.r2 (h : RQ w M G N σ) {i : Nat} (hi : i < N) : w.cell? ⟨G, i * 4 + 2, none⟩ = some (.int .i64 (rw σ.L i).2.2.1) := h.r (k := 2) hi (by omega)
theorem RQ.r3 (h : RQ w M G N σ) {i : Nat} (hi : i < N) : w.cell? ⟨G, i * 4 + 3, none⟩ = some (.int .i64 (rw σ.L i).2.2.2) := h.r (k := 3) hi (by omega)
theorem RQ.put (h : RQ w M G N σ) (hM : w'.heap[M]? = w.heap[M]?) (hG : w'.heap[G]? = w.heap[G]?) : RQ w' M G N σ := by
  obtain ⟨c, h1, h2, hb⟩ := h.b
  exact ⟨⟨c, h1, h2, hM.trans hb⟩, h.g.put hG, h.ne, h.len, h.n1, h.n2⟩
theorem RQ.but {S : List Nat} (h : RQ w M G N σ) (hb : But S w w') (hM : M ∉ S) (hG : G ∉ S) : RQ w' M G N σ := h.put (hb.block _ h.ltM hM) (hb.block _ h.g.lt hG)
theorem RQ.keep (h : RQ w M G N σ) (hb : But [] w w') : RQ w' M G N σ := h.but hb (by simp) (by simp)
theorem RQ.below (h : RQ w M G N σ) (hb : Below w.heap.size w w') : RQ w' M G N σ := h.keep (.of_below hb)
/-- Another row is stored. -/
theorem RQ.row (h : RQ w M G N σ) {i : Nat} (hi : i < N) (r : Rw) : RQ ((((w.setCell ⟨G, i * 4, none⟩ (.int .i64 r.1)).setCell ⟨G, i * 4 + 1, none⟩ (.int .i64 r.2.1)).setCell ⟨G, i * 4 + 2, none⟩ (.int .i64 r.2.2.1)).setCell ⟨G, i * 4 + 3, none⟩ (.int .i64 r.2.2.2)) M G N ⟨σ.now, σ.L.set i r⟩ := by
  obtain ⟨c, h1, h2, hb⟩ := h.b
  have hu : But [G] w ((((w.setCell ⟨G, i * 4, none⟩ (.int .i64 r.1)).setCell ⟨G, i * 4 + 1, none⟩ (.int .i64 r.2.1)).setCell ⟨G, i * 4 + 2, none⟩ (.int .i64 r.2.2.1)).setCell ⟨G, i * 4 + 3, none⟩ (.int .i64 r.2.2.2)) :=
    ((((But.refl [G] w).set (p := ⟨G, i * 4, none⟩) (by simp) _).set (p := ⟨G, i * 4 + 1, none⟩) (by simp) _).set (p := ⟨G, i * 4 + 2, none⟩) (by simp) _).set (p := ⟨G, i * 4 + 3, none⟩) (by simp) _
  refine ⟨⟨c, h1, h2, (hu.block _ h.ltM (by simpa using h.ne)).trans hb⟩, ?_, h.ne, by rw [List.length_set]; exact h.len, h.n1, h.n2⟩
  rw [flat4_set (by rw [h.len]; exact hi)]
  exact (((h.g.set _ _).set _ _).set _ _).set _ _
/-- Another now. -/
theorem RQ.nw (h : RQ w M G N σ) (x : Int) : RQ (w.setCell ⟨M, 0, none⟩ (.int .i64 x)) M G N ⟨x, σ.L⟩ := by
  obtain ⟨c, h1, h2, hb⟩ := h.b
  refine ⟨⟨c, h1, h2, ?_⟩, h.g.other (fun e => h.ne e.symm) _ _, h.ne, h.len, h.n1, h.n2⟩
  have := heap_setCell_same w M 0 _ 42 (.int .i64 x) hb
  rw [this]
  rfl
/-- From w to w' only M, G turned. -/
def ButMG (M G : Nat) (w w' : World) : Prop := But [M, G] w w'

theorem row_any (h : RQ w M G N σ) (id : Int) :
    Calls Tryz.prog 49 #[.pointer (some ⟨M, 0, none⟩), .int .i64 id] w fun e w' => e = .returned (.pointer (if inB σ id = true then some ⟨G, id.toNat * 4, none⟩ else none)) ∧ w' = w := by
  obtain ⟨c, h1, h2, c1⟩ := h.c1
  have hl := h.len
  by_cases h3 : id < 0
  · rw [show inB σ id = false by unfold inB; simp; omega]
    go_enter Tryz.func49, Tryz.ntmps49
    go_wp2_with fail
    go_ret
    exact ⟨rfl, rfl⟩
  · by_cases h4 : (N : Int) ≤ id
    · rw [show inB σ id = false by unfold inB; simp; omega]
      go_enter Tryz.func49, Tryz.ntmps49
      go_wp2_with fail
      go_ret
      exact ⟨rfl, rfl⟩
    · obtain ⟨k, rfl⟩ := Int.eq_ofNat_of_zero_le (show 0 ≤ id by omega)
      have hk : k < N := by omega
      have hk' : (k : Int) < (N : Int) := by omega
      rw [inB_of (by omega)]
      rw [if_pos rfl, show (k : Int).toNat = k by omega]
      clear hl h4 h3
      go_enter Tryz.func49, Tryz.ntmps49
      go_wp2_with fail
      go_ret
      exact ⟨rfl, rfl⟩
theorem state_any (h : RQ w M G N σ) (id : Int) :
    Calls Tryz.prog 34 #[.pointer (some ⟨M, 0, none⟩), .int .i64 id] w fun e w' => e = .returned (.int .i64 (rwI σ id).1) ∧ w' = w := by
  have R := row_any h id
  cases hi : inB σ id
  · rw [hi] at R
    rw [rwI_no hi]
    go_enter Tryz.func34, Tryz.ntmps34
    go_wp2_with (first | (go_at_call 49; (with_reducible refine R.mono ?_); rintro e w1 ⟨rfl, rfl⟩))
    go_ret
    exact ⟨rfl, rfl⟩
  · obtain ⟨k, rfl, hk⟩ := inB_out hi
    have c0 := h.r0 (i := k) (by rw [← h.len]; exact hk)
    rw [hi] at R
    rw [if_pos rfl, show (k : Int).toNat = k by omega] at R
    rw [rwI_of hk]
    go_enter Tryz.func34, Tryz.ntmps34
    go_wp2_with (first | (go_at_call 49; (with_reducible refine R.mono ?_); rintro e w1 ⟨rfl, rfl⟩))
    go_ret
    exact ⟨rfl, rfl⟩
end
end Go.Proofs.YtlnfabjgcecebaaGreat.Rd
