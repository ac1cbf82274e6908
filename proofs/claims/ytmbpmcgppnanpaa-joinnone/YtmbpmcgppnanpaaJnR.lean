/- The document's Ends as they lie in memory; place, State. -/
import Derived.Test.YtmbpmcgppnanpaaJnM
import Derived.Test.YtmbpmcgppnanpaaTailB
namespace Go.Proofs.Ytmbpmcgppnanpaa.Jn
open Go Go.RowKit Go.Proofs.Ytmbpmcgppnanpaa.Bs
open Go.Proofs.Ytmbpmcgppnanpaa.Ids (right indexI ageI idI rindex_any)

/-- A row of ids, in a block of R that is none of F. -/
def RowF (w : World) (F R : List Nat) (v : Value) (q : List Int) : Prop := RowI w 0 v q ∧ ∀ g, v.ownBlock = some g → g ∈ R ∧ g ∉ F
/-- Numbers of a slice, as they are read. -/
def Rd (w : World) (v : Value) (xs : List Int) : Prop := ∃ a c, v = .slice a xs.length c ∧ ∀ j x, xs[j]? = some x → ∃ g, a = some ⟨g, 0, none⟩ ∧ w.cell? ⟨g, j, none⟩ = some (.int .i64 x)
theorem rlow {w : World} {base : Nat} {v : Value} {q : List Int} (h : RowI w base v q) : ∀ x, v.ownBlock = some x → base ≤ x ∧ x < w.heap.size := fun x e => World.ownsRow.lt h x e
theorem rrd {w : World} {base : Nat} {v : Value} {q : List Int} (h : RowI w base v q) : Rd w v q := by
  obtain ⟨a, c, e, -, -, -, hc⟩ := h.shape
  exact ⟨a, c, e, hc⟩
theorem Rd.below {w w' : World} {v : Value} {xs : List Int} (h : Rd w v xs) (hb : Below w.heap.size w w') : Rd w' v xs := by
  obtain ⟨a, c, e, hc⟩ := h
  refine ⟨a, c, e, fun j x hx => ?_⟩
  obtain ⟨g, e1, e2⟩ := hc j x hx
  exact ⟨g, e1, cell_on hb e2⟩
/-- A row's cells. -/
def cel (r : Rw) (v : Value) : Nat → Value
  | 0 => .int .i64 r.id
  | 1 => .bool r.en
  | 2 => .int .i64 r.va
  | _ => v
def upd (vs : Nat → Value) (i : Nat) (v : Value) : Nat → Value := fun k => if k = i then v else vs k
theorem upd_upd (vs : Nat → Value) (i : Nat) (u v : Value) : upd (upd vs i u) i v = upd vs i v := by
  funext k
  unfold upd
  split <;> rfl
theorem upd_same (vs : Nat → Value) (i : Nat) (v : Value) : upd vs i v i = v := if_pos rfl
def Blk (w : World) (G n : Nat) (σ : St) (vs : Nat → Value) : Prop := ∃ cur : Array Value, w.heap[G]? = some (.cells cur 74 (0, 0)) ∧ ∀ i k, i < n → k < 4 → cur[i * 4 + k]? = some (cel (rw σ i) (vs i) k)
section
variable {w w' : World} {G n : Nat} {σ : St} {vs : Nat → Value}
theorem Blk.lt (h : Blk w G n σ vs) : G < w.heap.size := by
  obtain ⟨cur, h, _⟩ := h
  exact (Array.getElem?_eq_some_iff.1 h).1
theorem Blk.cell (h : Blk w G n σ vs) {i k : Nat} (hi : i < n) (hk : k < 4) : w.cell? ⟨G, i * 4 + k, none⟩ = some (cel (rw σ i) (vs i) k) := by
  obtain ⟨cur, h, q⟩ := h
  simp [World.cell?, h, q i k hi hk]
theorem Blk.fz (h : Blk w G n σ vs) (j : Nat) : w.frozen? ⟨G, j, none⟩ = false := by
  obtain ⟨cur, h, _⟩ := h
  simp [World.frozen?, h]
theorem Blk.put (h : Blk w G n σ vs) (e : w'.heap[G]? = w.heap[G]?) : Blk w' G n σ vs := by
  obtain ⟨cur, h, k⟩ := h
  exact ⟨cur, e.trans h, k⟩
theorem Blk.set (h : Blk w G n σ vs) (hl : σ.length = n) {i k : Nat} (hi : i < n) (hk : k < 4) {r : Rw} {v : Value} (hr : ∀ j, j < 4 → j ≠ k → cel r v j = cel (rw σ i) (vs i) j) : Blk (w.setCell ⟨G, i * 4 + k, none⟩ (cel r v k)) G n (σ.set i r) (upd vs i v) := by
  obtain ⟨cur, h, q⟩ := h
  refine ⟨_, heap_setCell_same w G (i * 4 + k) _ _ _ h, fun i' k' hi' hk' => ?_⟩
  have hs : rw (σ.set i r) i' = if i' = i then r else rw σ i' := getD_set (by rw [hl]; exact hi)
  rw [hs]
  have hlt := (Array.getElem?_eq_some_iff.1 (q i k hi hk)).1
  by_cases e : i' = i
  · subst e
    rw [if_pos rfl, upd_same]
    by_cases e2 : k' = k
    · subst e2
      simp [hlt]
    · rw [hr k' hk' e2, ← q i' k' hi hk', Array.getElem?_setIfInBounds_ne (by omega)]
  · rw [if_neg e]
    unfold upd
    rw [if_neg e, ← q i' k' hi' hk', Array.getElem?_setIfInBounds_ne (by omega)]
end
structure RM (w : World) (M G : Nat) (R : List Nat) (n : Nat) (vs : Nat → Value) (σ : St) : Prop where
  b : ∃ c, w.heap[M]? = some (.cells #[.slice (some ⟨G, 0, none⟩) n c] 59 (0, 0))
  g : Blk w G n σ vs
  rw : ∀ o, o < n → RowF w [M, G] R (vs o) (rw σ o).q
  ne : M ≠ G
  fr : M ∈ R ∧ G ∈ R
  lt : ∀ x ∈ R, x < w.heap.size
  ll : σ.length = n
/-- The document's ends, all their blocks being R. -/
def RQ (w : World) (M : Nat) (R : List Nat) (n : Nat) (σ : St) : Prop := Ok n σ ∧ ∃ G vs, RM w M G R n vs σ

section
variable {w w' w1 : World} {M G n : Nat} {R R' F : List Nat} {vs : Nat → Value} {σ : St} {q : List Int} {v : Value}
theorem RowF.put (h : RowF w F R v q) (hb : ∀ g ∈ R, g ∉ F → w'.heap[g]? = w.heap[g]?) : RowF w' F R v q :=
  ⟨ownsRow_put h.1 (fun k e => hb k (h.2 k e).1 (h.2 k e).2), h.2⟩
theorem RowF.more (h : RowF w F R v q) (hR : ∀ x ∈ R, x ∈ R') : RowF w F R' v q := ⟨h.1, fun g e => ⟨hR g (h.2 g e).1, (h.2 g e).2⟩⟩
theorem RowF.rd (h : RowF w F R v q) : Rd w v q := rrd h.1
theorem RowF.nil (w : World) (F R : List Nat) : RowF w F R (.slice none 0 0) [] := ⟨⟨by simp, .inl ⟨rfl, rfl⟩⟩, fun g e => by cases e⟩
/-- A row of the call's own. -/
theorem RowF.own {lo : Nat} (h : RowI w lo v q) (hF : ∀ x ∈ F, x < lo) : RowF w F (v.ownBlock.toList ++ R) v q := by
  refine ⟨⟨h.1, h.2.imp id (fun ⟨g, cap, cur, h1, h2, h3⟩ => ⟨g, cap, cur, h1, Nat.zero_le _, h3⟩)⟩, fun g e => ⟨by rw [e]; simp, fun hg => ?_⟩⟩
  have := (rlow h g e).1
  have := hF g hg
  omega
theorem RM.c0 (h : RM w M G R n vs σ) : ∃ c, w.cell? ⟨M, 0, none⟩ = some (.slice (some ⟨G, 0, none⟩) n c) := by
  obtain ⟨c, hb⟩ := h.b
  exact ⟨c, by simp [World.cell?, hb]⟩
theorem RM.r0 (h : RM w M G R n vs σ) {i : Nat} (hi : i < n) : w.cell? ⟨G, i * 4, none⟩ = some (.int .i64 (Jn.rw σ i).id) := h.g.cell (k := 0) hi (by omega)
theorem RM.r1 (h : RM w M G R n vs σ) {i : Nat} (hi : i < n) : w.cell? ⟨G, i * 4 + 1, none⟩ = some (.bool (Jn.rw σ i).en) := h.g.cell (k := 1) hi (by omega)
theorem RM.r2 (h : RM w M G R n vs σ) {i : Nat} (hi : i < n) : w.cell? ⟨G, i * 4 + 2, none⟩ = some (.int .i64 (Jn.rw σ i).va) := h.g.cell (k := 2) hi (by omega)
theorem RM.r3 (h : RM w M G R n vs σ) {i : Nat} (hi : i < n) : w.cell? ⟨G, i * 4 + 3, none⟩ = some (vs i) := h.g.cell (k := 3) hi (by omega)
theorem RM.fz (h : RM w M G R n vs σ) (j : Nat) : w.frozen? ⟨G, j, none⟩ = false := h.g.fz j
theorem RM.put (h : RM w M G R n vs σ) (hb : ∀ x ∈ R, w'.heap[x]? = w.heap[x]?) (hs : w.heap.size ≤ w'.heap.size) : RM w' M G R n vs σ := by
  obtain ⟨c, e⟩ := h.b
  exact ⟨⟨c, (hb _ h.fr.1).trans e⟩, h.g.put (hb _ h.fr.2), fun o ho => (h.rw o ho).put (fun g hg _ => hb g hg), h.ne, h.fr, fun x hx => by have := h.lt x hx; omega, h.ll⟩
theorem RM.out {S' : List Nat} (h : RM w M G R n vs σ) (hb : But S' w w') (hS : Disj R S') : RM w' M G R n vs σ :=
  h.put (fun x hx => hb.block x (h.lt x hx) (hS x hx)) hb.size
theorem RM.keep (h : RM w M G R n vs σ) (hb : But [] w w') : RM w' M G R n vs σ := h.out hb (by simp [Disj])
theorem RM.below (h : RM w M G R n vs σ) (hb : Below w.heap.size w w') : RM w' M G R n vs σ := h.keep (.of_below hb)
theorem RM.more (h : RM w M G R n vs σ) (hR : ∀ x ∈ R, x ∈ R') (hl : ∀ x ∈ R', x < w.heap.size) : RM w M G R' n vs σ :=
  ⟨h.b, h.g, fun o ho => (h.rw o ho).more hR, h.ne, ⟨hR _ h.fr.1, hR _ h.fr.2⟩, hl, h.ll⟩
/-- A cell of a row is stored. -/
theorem RM.set (h : RM w M G R n vs σ) {i k : Nat} (hi : i < n) (hk : k < 4) {r : Rw} {v : Value} (hr : ∀ j, j < 4 → j ≠ k → cel r v j = cel (Jn.rw σ i) (vs i) j) (hv : RowF w [M, G] R v r.q) : RM (w.setCell ⟨G, i * 4 + k, none⟩ (cel r v k)) M G R n (upd vs i v) (σ.set i r) := by
  obtain ⟨c, e⟩ := h.b
  have hz : (w.setCell ⟨G, i * 4 + k, none⟩ (cel r v k)).heap.size = w.heap.size := by simp [World.setCell]
  have hF : ∀ g ∈ R, g ∉ [M, G] → (w.setCell ⟨G, i * 4 + k, none⟩ (cel r v k)).heap[g]? = w.heap[g]? := fun g _ hg => Below.heap_setCell w ⟨G, i * 4 + k, none⟩ _ g (fun e => hg (by simp [e]))
  refine ⟨⟨c, (Below.heap_setCell w ⟨G, i * 4 + k, none⟩ _ M h.ne).trans e⟩, h.g.set h.ll hi hk hr, fun o ho => ?_, h.ne, h.fr, fun y hy => by rw [hz]; exact h.lt y hy, by rw [List.length_set]; exact h.ll⟩
  have hs : Jn.rw (σ.set i r) o = if o = i then r else Jn.rw σ o := getD_set (by rw [h.ll]; exact hi)
  rw [hs]
  unfold upd
  by_cases e : o = i
  · subst e
    rw [if_pos rfl, if_pos rfl]
    exact hv.put hF
  · rw [if_neg e, if_neg e]
    exact (h.rw o ho).put hF
theorem rw_set_same {i : Nat} {r : Rw} (hl : σ.length = n) (hi : i < n) : Jn.rw (σ.set i r) i = r := (getD_set (by rw [hl]; exact hi)).trans (if_pos rfl)
/-- A whole row is stored; its waiters are none. -/
theorem RM.row (h : RM w M G R n vs σ) {i : Nat} (hi : i < n) (a : Int) (b : Bool) (c : Int) : RM ((((w.setCell ⟨G, i * 4, none⟩ (.int .i64 a)).setCell ⟨G, i * 4 + 1, none⟩ (.bool b)).setCell ⟨G, i * 4 + 2, none⟩ (.int .i64 c)).setCell ⟨G, i * 4 + 3, none⟩ (.slice none 0 0)) M G R n (upd vs i (.slice none 0 0)) (σ.set i ⟨a, b, c, []⟩) := by
  have hv := h.rw i hi
  have h1 := h.set (k := 0) hi (by omega) (r := ⟨a, (Jn.rw σ i).en, (Jn.rw σ i).va, (Jn.rw σ i).q⟩) (v := vs i) (fun j hj hne => by match j, hj, hne with | 1, _, _ => rfl | 2, _, _ => rfl | 3, _, _ => rfl) hv
  have h2 := h1.set (k := 1) hi (by omega) (r := ⟨a, b, (Jn.rw σ i).va, (Jn.rw σ i).q⟩) (v := vs i) (fun j hj hne => by rw [rw_set_same h.ll hi, upd_same]; match j, hj, hne with | 0, _, _ => rfl | 2, _, _ => rfl | 3, _, _ => rfl) (by have := h1.rw i hi; rw [rw_set_same h.ll hi, upd_same] at this; exact this)
  rw [List.set_set, upd_upd] at h2
  have h3 := h2.set (k := 2) hi (by omega) (r := ⟨a, b, c, (Jn.rw σ i).q⟩) (v := vs i) (fun j hj hne => by rw [rw_set_same h.ll hi, upd_same]; match j, hj, hne with | 0, _, _ => rfl | 1, _, _ => rfl | 3, _, _ => rfl) (by have := h2.rw i hi; rw [rw_set_same h.ll hi, upd_same] at this; exact this)
  rw [List.set_set, upd_upd] at h3
  have h4 := h3.set (k := 3) hi (by omega) (r := ⟨a, b, c, []⟩) (v := .slice none 0 0) (fun j hj hne => by rw [rw_set_same h.ll hi, upd_same]; match j, hj, hne with | 0, _, _ => rfl | 1, _, _ => rfl | 2, _, _ => rfl | j + 3, h1, h2 => exact absurd (show j + 3 = 3 by omega) h2) (RowF.nil _ _ _)
  rw [List.set_set, upd_upd] at h4
  exact h4
theorem RM.step4 (h : RM w M G R n vs σ) (i : Nat) (a b c d : Value) : Step R w R ((((w.setCell ⟨G, i * 4, none⟩ a).setCell ⟨G, i * 4 + 1, none⟩ b).setCell ⟨G, i * 4 + 2, none⟩ c).setCell ⟨G, i * 4 + 3, none⟩ d) :=
  Step.same (((((But.refl R w).set (p := ⟨G, i * 4, none⟩) h.fr.2 _).set (p := ⟨G, i * 4 + 1, none⟩) h.fr.2 _).set (p := ⟨G, i * 4 + 2, none⟩) h.fr.2 _).set (p := ⟨G, i * 4 + 3, none⟩) h.fr.2 _)
theorem RM.grow (h : RM w M G R n vs σ) (hb : But [] w w1) (hv : RowI w1 w.heap.size v q) : RM w1 M G (v.ownBlock.toList ++ R) n vs σ ∧ RowF w1 [M, G] (v.ownBlock.toList ++ R) v q ∧ Step R w (v.ownBlock.toList ++ R) w1 := by
  have hz := hb.size
  have hlow := rlow hv
  refine ⟨(h.keep hb).more (fun x hx => by simp [hx]) (fun x hx => ?_), RowF.own hv (fun x hx => ?_), hb.wide, fun x hx => ?_⟩
  · rcases List.mem_append.1 hx with hx | hx
    · exact (hlow x (by simpa using hx)).2
    · have := h.lt x hx
      omega
  · simp only [List.mem_cons, List.not_mem_nil, or_false] at hx
    rcases hx with rfl | rfl
    · exact h.lt _ h.fr.1
    · exact h.lt _ h.fr.2
  · rcases List.mem_append.1 hx with hx | hx
    · exact .inr (hlow x (by simpa using hx)).1
    · exact .inl hx
theorem RM.storeW (h : RM w M G R n vs σ) (hb : But [] w w1) (hv : RowI w1 w.heap.size v q) {i : Nat} (hi : i < n) :
    RM (w1.setCell ⟨G, i * 4 + 3, none⟩ v) M G (v.ownBlock.toList ++ R) n (upd vs i v) (σ.set i ⟨(Jn.rw σ i).id, (Jn.rw σ i).en, (Jn.rw σ i).va, q⟩) ∧ Step R w (v.ownBlock.toList ++ R) (w1.setCell ⟨G, i * 4 + 3, none⟩ v) := by
  obtain ⟨h1, h2, h3⟩ := h.grow hb hv
  exact ⟨h1.set (k := 3) hi (by omega) (r := ⟨(Jn.rw σ i).id, (Jn.rw σ i).en, (Jn.rw σ i).va, q⟩) (v := v) (fun j hj hne => by match j, hj, hne with | 0, _, _ => rfl | 1, _, _ => rfl | 2, _, _ => rfl | j + 3, h1, h2 => exact absurd (show j + 3 = 3 by omega) h2) h2,
    h3.trans (Step.same ((But.refl [] w1).wide.set (p := ⟨G, i * 4 + 3, none⟩) (by have := h.fr.2; simp [this]) _))⟩
theorem RQ.out {S' : List Nat} (h : RQ w M R n σ) (hb : But S' w w') (hS : Disj R S') : RQ w' M R n σ := by
  obtain ⟨hok, G, vs, h⟩ := h
  exact ⟨hok, G, vs, h.out hb hS⟩
theorem RQ.keep (h : RQ w M R n σ) (hb : But [] w w') : RQ w' M R n σ := h.out hb (by simp [Disj])
theorem RQ.lt (h : RQ w M R n σ) : ∀ x ∈ R, x < w.heap.size := by
  obtain ⟨hok, G, vs, h⟩ := h
  exact h.lt
theorem RQ.ok (h : RQ w M R n σ) : Ok n σ := h.1
end
section
set_option maxRecDepth 100000
variable {w w' : World} {M G n : Nat} {R : List Nat} {vs : Nat → Value} {σ : St}
theorem place_any (h : RM w M G R n vs σ) (id : Int) (hi : id ≤ 9223372036854775807) : Calls Try.prog 44 #[.pointer (some ⟨M, 0, none⟩), .int .i64 id] w fun e w' => e = .returned (.int .i64 (plc σ id)) ∧ w' = w := by
  obtain ⟨c, c0⟩ := h.c0
  have I := rindex_any id hi w
  unfold plc
  rw [h.ll]
  by_cases e : (n : Int) ≤ indexI id
  · rw [if_pos e]
    generalize indexI id = x at *
    go_enter Try.func44, Try.ntmps44
    go_wp2_with (first | (go_at_call 60; (with_reducible refine I.mono ?_); rintro e w1 ⟨rfl, hw⟩; subst w1))
    go_ret
    exact ⟨rfl, rfl⟩
  · rw [if_neg e]
    generalize indexI id = x at *
    go_enter Try.func44, Try.ntmps44
    go_wp2_with (first | (go_at_call 60; (with_reducible refine I.mono ?_); rintro e w1 ⟨rfl, hw⟩; subst w1))
    go_ret
    exact ⟨rfl, rfl⟩
theorem state_any (h : RM w M G R n vs σ) (ho : Ok n σ) (id : Int) (hi : id ≤ 9223372036854775807) : Calls Try.prog 27 #[.pointer (some ⟨M, 0, none⟩), .int .i64 id] w fun e w' => e = .returned (.int .i64 (stI σ id)) ∧ w' = w := by
  obtain ⟨c, c0⟩ := h.c0
  have I := place_any h id hi
  have hn := ho.n2
  unfold stI
  by_cases e : plc σ id < 0
  · rw [if_pos e]
    generalize plc σ id = x at *
    go_enter Try.func27, Try.ntmps27
    go_wp2_with (first | (go_at_call 44; (with_reducible refine I.mono ?_); rintro e w1 ⟨rfl, hw⟩; subst w1))
    go_ret
    exact ⟨rfl, rfl⟩
  rw [if_neg e]
  obtain ⟨k, e1, hk, -, -⟩ := ho.plc e
  have hk' : (k : Int) < (n : Int) := by omega
  have hat : at_ σ id = rw σ k := by unfold at_; rw [e1]; rfl
  have r0 := h.r0 hk
  have r1 := h.r1 hk
  rw [hat]
  rw [e1] at I
  clear e e1 hat
  by_cases e2 : (rw σ k).id = id
  · rw [if_neg (not_not_intro e2)]
    rw [e2] at r0
    cases e3 : (rw σ k).en
    · rw [e3] at r1
      clear e2 e3
      go_enter Try.func27, Try.ntmps27
      go_wp2_with (first | (go_at_call 44; (with_reducible refine I.mono ?_); rintro e w1 ⟨rfl, hw⟩; subst w1))
      go_ret
      exact ⟨rfl, rfl⟩
    · rw [e3] at r1
      clear e2 e3
      go_enter Try.func27, Try.ntmps27
      go_wp2_with (first | (go_at_call 44; (with_reducible refine I.mono ?_); rintro e w1 ⟨rfl, hw⟩; subst w1))
      go_ret
      exact ⟨rfl, rfl⟩
  · rw [if_pos e2]
    have e3 : ((rw σ k).id != id) = true := by simpa using e2
    generalize (rw σ k).id = y at *
    clear e2
    go_enter Try.func27, Try.ntmps27
    go_wp2_with (first | (go_at_call 44; (with_reducible refine I.mono ?_); rintro e w1 ⟨rfl, hw⟩; subst w1))
    go_ret
    exact ⟨rfl, rfl⟩
end
end Go.Proofs.Ytmbpmcgppnanpaa.Jn
