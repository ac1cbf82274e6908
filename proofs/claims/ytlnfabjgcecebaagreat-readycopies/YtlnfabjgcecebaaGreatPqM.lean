/- The program's queue as it lies in memory. -/
import Derived.Test.YtlnfabjgcecebaaGreatRdX
namespace Go.Proofs.YtlnfabjgcecebaaGreat.Pq
open Go Go.RowKit Go.Proofs.YtlnfabjgcecebaaGreat.Str Go.Proofs.YtlnfabjgcecebaaGreat.Rd
open Go.Proofs.YtlnfabjgcecebaaGreat.Hp (Step Disj HQ)

theorem str_z : strI 0 = 0 := str_bad rfl
/-- A row as the program has it: a stride stands for the tickets. -/
def pr (r : Rw) : Rw := (r.1, strI r.2.1, r.2.2.1, r.2.2.2)
theorem pr_z : pr z4 = z4 := by
  show ((0 : Int), strI 0, (0 : Int), (0 : Int)) = (0, 0, 0, 0)
  rw [str_z]
def pL (L : List Rw) : List Rw := L.map pr
theorem pL_len (L : List Rw) : (pL L).length = L.length := List.length_map ..
theorem pL_rw (L : List Rw) (i : Nat) : rw (pL L) i = pr (rw L i) := rw_map pr_z i
theorem pL_set (L : List Rw) (i : Nat) (r : Rw) : pL (L.set i r) = (pL L).set i (pr r) := List.map_set
theorem pL_new (n : Nat) : pL (List.replicate n z4) = List.replicate n z4 := by
  unfold pL
  rw [List.map_replicate, pr_z]

/-- A queue of the program's: its own block B, the rows' block G, its heap at H with blocks TH. -/
structure QM (w : World) (B G H : Nat) (TH : List Nat) (N : Nat) (σ : Qs) (q : List Hp.Th) : Prop where
  b : ∃ c, N ≤ c ∧ c ≤ maxLen ∧ w.heap[B]? = some (.cells #[.slice (some ⟨G, 0, none⟩) N c, .pointer (some ⟨H, 0, none⟩), .int .i64 σ.now] 39 (0, 0))
  g : Hp.Row w G 53 (flat4 (pL σ.L))
  h : HQ w H TH N q
  ne : B ≠ G
  bh : B ∉ TH
  gh : G ∉ TH
  len : σ.L.length = N
/-- At rest: just those that wait stand in the heap. -/
def PQ (w : World) (B : Nat) (T : List Nat) (N : Nat) (σ : Qs) : Prop := ∃ G H TH, T = B :: G :: TH ∧ QM w B G H TH N σ (qL σ)

section
variable {w w' : World} {B G H N : Nat} {TH TH' : List Nat} {σ : Qs} {q q' : List Hp.Th}
theorem QM.c0 (h : QM w B G H TH N σ q) : ∃ c, N ≤ c ∧ c ≤ maxLen ∧ w.cell? ⟨B, 0, none⟩ = some (.slice (some ⟨G, 0, none⟩) N c) := by
  obtain ⟨c, h1, h2, hb⟩ := h.b
  exact ⟨c, h1, h2, by simp [World.cell?, hb]⟩
theorem QM.c1 (h : QM w B G H TH N σ q) : w.cell? ⟨B, 1, none⟩ = some (.pointer (some ⟨H, 0, none⟩)) := by
  obtain ⟨c, _, _, hb⟩ := h.b
  simp [World.cell?, hb]
theorem QM.c2 (h : QM w B G H TH N σ q) : w.cell? ⟨B, 2, none⟩ = some (.int .i64 σ.now) := by
  obtain ⟨c, _, _, hb⟩ := h.b
  simp [World.cell?, hb]
theorem QM.fb (h : QM w B G H TH N σ q) (j : Nat) : w.frozen? ⟨B, j, none⟩ = false := by
  obtain ⟨c, _, _, hb⟩ := h.b
  simp [World.frozen?, hb]
theorem QM.ltB (h : QM w B G H TH N σ q) : B < w.heap.size := by
  obtain ⟨c, _, _, hb⟩ := h.b
  exact (Array.getElem?_eq_some_iff.1 hb).1
theorem QM.r (h : QM w B G H TH N σ q) {i k : Nat} (hi : i < N) (hk : k < 4) : w.cell? ⟨G, i * 4 + k, none⟩ = (cl4 (pr (rw σ.L i)))[k]? := by
  have e := flat4_get (xs := pL σ.L) (i := i) (k := k) (by rw [pL_len, h.len]; exact hi) hk
  rw [pL_rw] at e
  obtain ⟨v, hv⟩ : ∃ v, (cl4 (pr (rw σ.L i)))[k]? = some v := ⟨_, List.getElem?_eq_getElem (by show k < 4; exact hk)⟩
  rw [hv] at e ⊢
  exact h.g.cell e
theorem QM.r0 (h : QM w B G H TH N σ q) {i : Nat} (hi : i < N) : w.cell? ⟨G, i * 4, none⟩ = some (.int .i64 (rw σ.L i).1) := h.r (k := 0) hi (by omega)
theorem QM.r1 (h : QM w B G H TH N σ q) {i : Nat} (hi : i < N) : w.cell? ⟨G, i * 4 + 1, none⟩ = some (.int .i64 (strI (rw σ.L i).2.1)) := h.r (k := 1) hi (by omega)
theorem QM.r2 (h : QM w B G H TH N σ q) {i : Nat} (hi : i < N) : w.cell? ⟨G, i * 4 + 2, none⟩ = some (.int .i64 (rw σ.L i).2.2.1) := h.r (k := 2) hi (by omega)
theorem QM.r3 (h : QM w B G H TH N σ q) {i : Nat} (hi : i < N) : w.cell? ⟨G, i * 4 + 3, none⟩ = some (.int .i64 (rw σ.L i).2.2.2) := h.r (k := 3) hi (by omega)
theorem QM.fg (h : QM w B G H TH N σ q) (j : Nat) : w.frozen? ⟨G, j, none⟩ = false := h.g.fz j
theorem QM.n1 (h : QM w B G H TH N σ q) : 1 ≤ N := h.h.sizes.1
theorem QM.n2 (h : QM w B G H TH N σ q) : N ≤ 4096 := h.h.sizes.2.1
theorem QM.lt (h : QM w B G H TH N σ q) : ∀ x ∈ B :: G :: TH, x < w.heap.size := by
  intro x hx
  rcases List.mem_cons.1 hx with rfl | hx
  · exact h.ltB
  · rcases List.mem_cons.1 hx with rfl | hx
    · exact h.g.lt
    · exact h.h.lt x hx
theorem QM.but {S : List Nat} (h : QM w B G H TH N σ q) (hb : Hp.But S w w') (hS : Disj (B :: G :: TH) S) : QM w' B G H TH N σ q := by
  obtain ⟨c, h1, h2, e⟩ := h.b
  exact ⟨⟨c, h1, h2, (hb.block _ h.ltB (hS B (by simp))).trans e⟩, h.g.put (hb.block _ h.g.lt (hS G (by simp))), h.h.but hb (fun x hx => hS x (by simp [hx])), h.ne, h.bh, h.gh, h.len⟩
theorem QM.keep (h : QM w B G H TH N σ q) (hb : Hp.But [] w w') : QM w' B G H TH N σ q := h.but hb (by simp [Disj])
theorem QM.below (h : QM w B G H TH N σ q) (hb : Below w.heap.size w w') : QM w' B G H TH N σ q := h.keep (.of_below hb)
theorem QM.drew (h : QM w B G H TH N σ q) : QM w.drew B G H TH N σ q := h.keep (Hp.But.refl [] w).drew
/-- The heap turns. -/
theorem QM.heap (h : QM w B G H TH N σ q) (h' : HQ w' H TH' N q') (st : Step TH w TH' w') : QM w' B G H TH' N σ q' := by
  obtain ⟨c, h1, h2, e⟩ := h.b
  refine ⟨⟨c, h1, h2, (st.but.block _ h.ltB h.bh).trans e⟩, h.g.put (st.but.block _ h.g.lt h.gh), h', h.ne, fun hx => ?_, fun hx => ?_, h.len⟩
  · rcases st.new B hx with e | e
    · exact h.bh e
    · have := h.ltB
      omega
  · rcases st.new G hx with e | e
    · exact h.gh e
    · have := h.g.lt
      omega
theorem wide2 (B G : Nat) (st : Step TH w TH' w') : Step (B :: G :: TH) w (B :: G :: TH') w' := st.right [B, G]
/-- The rows turn. -/
theorem QM.gs (h : QM w B G H TH N σ q) {L : List Rw} (hb : Hp.But [G] w w') (hg : Hp.Row w' G 53 (flat4 (pL L))) (hl : L.length = σ.L.length) : QM w' B G H TH N ⟨σ.now, L⟩ q := by
  obtain ⟨c, h1, h2, e⟩ := h.b
  exact ⟨⟨c, h1, h2, (hb.block _ h.ltB (by simpa using h.ne)).trans e⟩, hg, h.h.but hb (fun x hx hy => h.gh (by simp at hy; exact hy ▸ hx)), h.ne, h.bh, h.gh, by show L.length = N; rw [hl]; exact h.len⟩
theorem QM.fld (h : QM w B G H TH N σ q) {L : List Rw} (hl : L.length = σ.L.length) (j : Nat) (v : Value) (e : flat4 (pL L) = (flat4 (pL σ.L)).set j v) : QM (w.setCell ⟨G, j, none⟩ v) B G H TH N ⟨σ.now, L⟩ q :=
  h.gs ((Hp.But.refl [G] w).set (p := ⟨G, j, none⟩) (by simp) _) (by rw [e]; exact h.g.set _ _) hl
theorem QM.f0 (h : QM w B G H TH N σ q) {i : Nat} (hi : i < N) (x : Int) : QM (w.setCell ⟨G, i * 4, none⟩ (.int .i64 x)) B G H TH N ⟨σ.now, σ.L.set i (x, (rw σ.L i).2)⟩ q :=
  h.fld (by simp) _ _ (by
    have := flat4_f0 (xs := pL σ.L) (i := i) (by rw [pL_len, h.len]; exact hi) x
    rw [pL_rw] at this
    rw [pL_set]
    exact this)
theorem QM.f2 (h : QM w B G H TH N σ q) {i : Nat} (hi : i < N) (x : Int) : QM (w.setCell ⟨G, i * 4 + 2, none⟩ (.int .i64 x)) B G H TH N ⟨σ.now, σ.L.set i ((rw σ.L i).1, (rw σ.L i).2.1, x, (rw σ.L i).2.2.2)⟩ q :=
  h.fld (by simp) _ _ (by
    have := flat4_f2 (xs := pL σ.L) (i := i) (by rw [pL_len, h.len]; exact hi) x
    rw [pL_rw] at this
    rw [pL_set]
    exact this)
theorem QM.f3 (h : QM w B G H TH N σ q) {i : Nat} (hi : i < N) (x : Int) : QM (w.setCell ⟨G, i * 4 + 3, none⟩ (.int .i64 x)) B G H TH N ⟨σ.now, σ.L.set i ((rw σ.L i).1, (rw σ.L i).2.1, (rw σ.L i).2.2.1, x)⟩ q :=
  h.fld (by simp) _ _ (by
    have := flat4_f3 (xs := pL σ.L) (i := i) (by rw [pL_len, h.len]; exact hi) x
    rw [pL_rw] at this
    rw [pL_set]
    exact this)
/-- A whole row is stored. -/
theorem QM.row (h : QM w B G H TH N σ q) {i : Nat} (hi : i < N) (r : Rw) : QM ((((w.setCell ⟨G, i * 4, none⟩ (.int .i64 r.1)).setCell ⟨G, i * 4 + 1, none⟩ (.int .i64 (strI r.2.1))).setCell ⟨G, i * 4 + 2, none⟩ (.int .i64 r.2.2.1)).setCell ⟨G, i * 4 + 3, none⟩ (.int .i64 r.2.2.2)) B G H TH N ⟨σ.now, σ.L.set i r⟩ q := by
  refine h.gs (((((Hp.But.refl [G] w).set (p := ⟨G, i * 4, none⟩) (by simp) _).set (p := ⟨G, i * 4 + 1, none⟩) (by simp) _).set (p := ⟨G, i * 4 + 2, none⟩) (by simp) _).set (p := ⟨G, i * 4 + 3, none⟩) (by simp) _) ?_ (by simp)
  rw [pL_set, flat4_set (by rw [pL_len, h.len]; exact hi)]
  exact (((h.g.set _ _).set _ _).set _ _).set _ _
/-- Another now. -/
theorem QM.nw (h : QM w B G H TH N σ q) (x : Int) : QM (w.setCell ⟨B, 2, none⟩ (.int .i64 x)) B G H TH N ⟨x, σ.L⟩ q := by
  obtain ⟨c, h1, h2, e⟩ := h.b
  refine ⟨⟨c, h1, h2, ?_⟩, h.g.other (fun e => h.ne e.symm) _ _, h.h.but (S := [B]) ((Hp.But.refl [B] w).set (p := ⟨B, 2, none⟩) (by simp) _) (fun y hx hy => h.bh (by simp at hy; exact hy ▸ hx)), h.ne, h.bh, h.gh, h.len⟩
  have := heap_setCell_same w B 2 _ 39 (.int .i64 x) e
  rw [this]
  rfl
theorem butG (w : World) (B : Nat) (TH : List Nat) {G : Nat} (j : Nat) (v : Value) : Hp.But (B :: G :: TH) w (w.setCell ⟨G, j, none⟩ v) := (Hp.But.refl _ w).set (by simp) v
theorem butB (w : World) (G : Nat) (TH : List Nat) {B : Nat} (j : Nat) (v : Value) : Hp.But (B :: G :: TH) w (w.setCell ⟨B, j, none⟩ v) := (Hp.But.refl _ w).set (by simp) v

theorem made_any (h : QM w B G H TH N σ q) : Calls Tryz.prog 30 #[.pointer (some ⟨B, 0, none⟩)] w fun e w' => e = .returned (.bool true) ∧ w' = w := by
  have c1 := h.c1
  go_enter Tryz.func30, Tryz.ntmps30
  go_wp2_with fail
  go_ret
  exact ⟨rfl, rfl⟩
theorem ask_any (h : QM w B G H TH N σ q) (id : Int) :
    Calls Tryz.prog 42 #[.pointer (some ⟨B, 0, none⟩), .int .i64 id] w fun e w' => e = .returned (.int .i64 (if inB σ id = true then 0 else 8)) ∧ w' = w := by
  have M := made_any h
  obtain ⟨c, h1, h2, c0⟩ := h.c0
  have hl := h.len
  by_cases h3 : id < 0
  · rw [show inB σ id = false by unfold inB; simp; omega]
    go_enter Tryz.func42, Tryz.ntmps42
    go_wp2_with (first | (go_at_call 30; (with_reducible refine M.mono ?_); rintro e w1 ⟨rfl, rfl⟩))
    go_ret
    exact ⟨rfl, rfl⟩
  · by_cases h4 : (N : Int) ≤ id
    · rw [show inB σ id = false by unfold inB; simp; omega]
      go_enter Tryz.func42, Tryz.ntmps42
      go_wp2_with (first | (go_at_call 30; (with_reducible refine M.mono ?_); rintro e w1 ⟨rfl, rfl⟩))
      go_ret
      exact ⟨rfl, rfl⟩
    · rw [show inB σ id = true by unfold inB; simp; omega]
      go_enter Tryz.func42, Tryz.ntmps42
      go_wp2_with (first | (go_at_call 30; (with_reducible refine M.mono ?_); rintro e w1 ⟨rfl, rfl⟩))
      go_ret
      exact ⟨rfl, rfl⟩
end
end Go.Proofs.YtlnfabjgcecebaaGreat.Pq
