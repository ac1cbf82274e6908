/- What calls turn of a device; the contract of Start. -/
import Derived.Test.YtdhgffnlocgfkaaDel
import Derived.Deep.CutRange
namespace Go.Proofs.Ytdhgffnlocgfkaa
open Go.RowKit

theorem But.own {a b : World} {row : Option Nat} (hg : a.grownBy b row) : But row.toList a b :=
  ⟨hg.os, hg.tape, hg.output, hg.size, fun k hk hs => hg.block k hk (fun e => hs (by simp [← e]))⟩

section
variable {w w2 : World} {B N la dn : Nat} {v v' : Value} {xs ys : List Rq}
theorem DM.setLa (h : DM w B N v la dn xs) {x : Int} (l' : Nat) (hx : x = l') : DM (w.setCell ⟨B, 1, none⟩ (.int .i64 x)) B N v l' dn xs := by
  subst hx
  refine ⟨?_, h.h.put (fun k hk => Below.heap_setCell w ⟨B, 1, none⟩ _ k (fun e => h.vb (by rw [hk, e]))), h.vb, h.n1, h.n2⟩
  have := heap_setCell_same w B 1 _ 54 (.int .i64 l') h.b
  rw [this]
  simp
theorem DM.setDn (h : DM w B N v la dn xs) {x : Int} (d' : Nat) (hx : x = d') : DM (w.setCell ⟨B, 2, none⟩ (.int .i64 x)) B N v la d' xs := by
  subst hx
  refine ⟨?_, h.h.put (fun k hk => Below.heap_setCell w ⟨B, 2, none⟩ _ k (fun e => h.vb (by rw [hk, e]))), h.vb, h.n1, h.n2⟩
  have := heap_setCell_same w B 2 _ 54 (.int .i64 d') h.b
  rw [this]
  simp
/-- Another row. -/
theorem DM.row (h : DM w B N v la dn xs) (hb : But v.ownBlock.toList w w2) (ho : Ow w2 29 0 v' ys) (hv : v'.ownBlock = v.ownBlock ∨ ∀ x, v'.ownBlock = some x → w.heap.size ≤ x) :
    DM (w2.setCell ⟨B, 3, none⟩ v') B N v' la dn ys ∧ Step (bks B v) w (bks B v') (w2.setCell ⟨B, 3, none⟩ v') ∧ w2.cell? ⟨B, 3, none⟩ = some v ∧ w2.frozen? ⟨B, 3, none⟩ = false := by
  have lB := h.lt (x := B) bks_B
  have nB : v'.ownBlock ≠ some B := fun e => hv.elim (fun e1 => h.vb (e1.symm.trans e)) (fun e1 => by have := e1 _ e; omega)
  have eB : w2.heap[B]? = _ := (hb.block B lB (fun e => h.vb (by simpa using e))).trans h.b
  refine ⟨⟨?_, ho.put (fun x hx => Below.heap_setCell w2 ⟨B, 3, none⟩ _ x (fun e => nB (by rw [hx, e]))), nB, h.n1, h.n2⟩, ⟨(hb.mono (fun x hx => bks_v (by simpa using hx))).set (p := ⟨B, 3, none⟩) bks_B _, fun x hx => ?_⟩, ?_, ?_⟩
  · have := heap_setCell_same w2 B 3 _ 54 v' eB
    rw [this]
    simp
  · rcases bks_out hx with rfl | hx
    · exact .inl bks_B
    · rcases hv with e | e
      · exact .inl (bks_v (e ▸ hx))
      · exact .inr (e x hx)
  · simp [World.cell?, eB]
  · simp [World.frozen?, eB]
theorem DM.shape (h : DM w B N v la dn xs) : ∃ a c, v = .slice a xs.length c ∧ RV w a xs ∧ xs.length ≤ c ∧ ((a = none ∧ xs.length = 0 ∧ c = 0) ∨ ∃ g, a = some ⟨g, 0, none⟩ ∧ g ≠ B) := by
  obtain ⟨a, c, e, h1, h2, h3⟩ := h.h.sl
  refine ⟨a, c, e, h2, h1, h3.imp id (fun ⟨g, e2, _⟩ => ⟨g, e2, fun e3 => h.vb (by rw [e, e2, e3]; rfl)⟩)⟩
theorem At5.setId {b o : Nat} {r : Rq} (h : At5 w b o r) (x : Int) : At5 (w.setCell ⟨b, o, none⟩ (.int .i64 x)) b o (x, r.2) := by
  obtain ⟨h0, h1, h2, h3, h4⟩ := h
  have ne : ∀ j, 0 < j → (⟨b, o, none⟩ : Addr) ≠ ⟨b, o + j, none⟩ := fun j hj e => by
    have := congrArg Addr.off e
    simp at this
    omega
  exact ⟨World.cell?_setCell_same _ _ _ h0, (World.cell?_setCell_other _ _ _ _ (ne 1 (by omega))).trans h1, (World.cell?_setCell_other _ _ _ _ (ne 2 (by omega))).trans h2, (World.cell?_setCell_other _ _ _ _ (ne 3 (by omega))).trans h3, (World.cell?_setCell_other _ _ _ _ (ne 4 (by omega))).trans h4⟩
theorem bks_one {S : List Nat} (h : ∀ x ∈ S, x = B) : ∀ x ∈ S, x ∈ bks B v := fun x hx => by rw [h x hx]; exact bks_B
end

section
variable {w : World} {B N la dn : Nat} {T : List Nat} {xs : List Rq}

set_option maxHeartbeats 2000000 in
theorem start_any (h : DQ w B T N la dn xs) (hla : la ≤ 100000) (i s t k z : Int) :
    Calls Try.prog 16 #[.pointer (some ⟨B, 0, none⟩), .agg #[.int .i64 i, .int .i64 s, .int .i64 t, .int .i64 k, .int .i64 z]] w fun e w' => e = .returned (.tuple #[.int .i64 (staI N la xs (i, s, t, k, z)), .int .i64 (staE N xs (i, s, t, k, z))]) ∧ ∃ T', DQ w' B T' N (staL N la xs (i, s, t, k, z)) dn (staX N la xs (i, s, t, k, z)) ∧ Step T w T' w' := by
  have hO := h.ok.sta (N := N) (i, s, t, k, z)
  obtain ⟨v, rfl, hm, hl, ho⟩ := h
  have hL := sta_len (la := la) hl (i, s, t, k, z)
  have hma := hm.keep ((But.refl [] w).alloc (.cells #[.int .i64 i, .int .i64 s, .int .i64 t, .int .i64 k, .int .i64 z] 29))
  have ha5 := at5_new w i s t k z 29
  have sa : Step (bks B v) w (bks B v) (w.alloc (.cells #[.int .i64 i, .int .i64 s, .int .i64 t, .int .i64 k, .int .i64 z] 29)) := Step.keep ((But.refl [] w).alloc _)
  have MA := made_any hma
  have GA := fun W => good_any i s t k z W
  have hlB := hm.lt (x := B) bks_B
  obtain ⟨sl, c, rfl, -, -, -⟩ := hm.shape
  rcases sta_cases N xs (i, s, t, k, z) with ⟨e, hg⟩ | ⟨e, hg, hlt⟩ | ⟨e, hg, hlt⟩
  · simp only [staI, staL, staX, e] at hO hL ⊢
    rw [hg] at GA
    go_enter Try.func16, Try.ntmps16
    go_wp2_with (first
      | (go_at_call 29; refine MA.mono ?_; rintro e w1 ⟨rfl, hw⟩; subst w1)
      | (go_at_call 30; refine (GA _).mono ?_; rintro e w1 ⟨rfl, b1⟩))
    go_ret2
    exact ⟨rfl, _, ⟨_, rfl, hma.keep (.of_below b1), hl, ho⟩, sa.trans (Step.keep (.of_below b1))⟩
  · simp only [staI, staL, staX, e] at hO hL ⊢
    rw [hg] at GA
    have hK : ∀ W1, Below (w.alloc (.cells #[.int .i64 i, .int .i64 s, .int .i64 t, .int .i64 k, .int .i64 z] 29)).heap.size (w.alloc (.cells #[.int .i64 i, .int .i64 s, .int .i64 t, .int .i64 k, .int .i64 z] 29)) W1 → DM W1 B N (.slice sl xs.length c) la dn xs := fun W1 b1 => hma.keep (.of_below b1)
    have he : ((xs.length : Int) == (N : Int)) = true := by simp; omega
    go_enter Try.func16, Try.ntmps16
    go_wp2_with (first
      | (go_at_call 29; refine MA.mono ?_; rintro e w1 ⟨rfl, hw⟩; subst w1)
      | (go_at_call 30; refine (GA _).mono ?_; rintro e w1 ⟨rfl, b1⟩; have k1 := hK _ b1; have c0 := k1.c0; have c3 := k1.c3))
    go_quiet (fail)
    go_wp2_with fail
    go_ret2
    exact ⟨rfl, _, ⟨_, rfl, k1.keep ((But.refl [] _).drewN _), hl, ho⟩, (sa.trans (Step.keep (.of_below b1))).trans (Step.keep ((But.refl [] _).drewN _))⟩
  · simp only [staI, staL, staX, e, if_true] at hO hL ⊢
    rw [hg] at GA
    have he : ((xs.length : Int) == (N : Int)) = false := by simp; omega
    have hwr : IntKind.i64.wrap ((la : Int) + 1) = (la : Int) + 1 := by rw [IntKind.wrap_i64]; omega
    have hla' : (la : Int) ≤ 100000 := by omega
    have hn4 := hm.n2
    have hK : ∀ W1, Below (w.alloc (.cells #[.int .i64 i, .int .i64 s, .int .i64 t, .int .i64 k, .int .i64 z] 29)).heap.size (w.alloc (.cells #[.int .i64 i, .int .i64 s, .int .i64 t, .int .i64 k, .int .i64 z] 29)) W1 → DM W1 B N (.slice sl xs.length c) la dn xs ∧ At5 W1 w.heap.size 0 (i, s, t, k, z) ∧ (∀ j, W1.frozen? ⟨w.heap.size, j, none⟩ = false) := fun W1 b1 => ⟨hma.keep (.of_below b1), ha5.below b1, fun j => by
      rw [b1.frozen (p := ⟨w.heap.size, j, none⟩) (by simp)]
      simp [go_sem]⟩
    go_enter Try.func16, Try.ntmps16
    go_wp2_with (first
      | (go_at_call 29; refine MA.mono ?_; rintro e w1 ⟨rfl, hw⟩; subst w1)
      | (go_at_call 30; refine (GA _).mono ?_; rintro e w1 ⟨rfl, b1⟩; obtain ⟨k1, a1, f1⟩ := hK _ b1; have c0 := k1.c0; have c1 := k1.c1; have c3 := k1.c3; have fb := k1.fb 1; obtain ⟨a10, a11, a12, a13, a14⟩ := a1; have f10 := f1 0))
    go_quiet (fail)
    go_upto_region 9 with fail
    have n0 : w.heap.size ∉ bks B (.slice sl xs.length c) := fun e => by have := hm.lt e; omega
    have k2 := (k1.keep ((But.refl [] _).drewN nq)).setLa (x := (la : Int) + 1) (la + 1) (by simp)
    have k3 := k2.but (S := [w.heap.size]) ((But.refl _ _).set (p := ⟨w.heap.size, 0, none⟩) (by simp) (.int .i64 ((la : Int) + 1))) (fun x hx hy => n0 (by simp at hy; rw [← hy]; exact hx))
    have a1 : At5 w1 w.heap.size 0 (i, s, t, k, z) := ⟨a10, a11, a12, a13, a14⟩
    have a2 := ((a1.but ((But.refl [] _).drewN nq) (by simp)).but (S := [B]) ((But.refl _ _).set (p := ⟨B, 1, none⟩) (by simp) (.int .i64 ((la : Int) + 1))) (by simp; omega)).setId ((la : Int) + 1)
    have s2 : Step (bks B (.slice sl xs.length c)) w (bks B (.slice sl xs.length c)) (((w1.drewN nq).setCell ⟨B, 1, none⟩ (.int .i64 ((la : Int) + 1))).setCell ⟨w.heap.size, 0, none⟩ (.int .i64 ((la : Int) + 1))) := by
      have b2 := ((sa.trans (Step.keep (.of_below b1))).but.drewN nq).set (p := ⟨B, 1, none⟩) bks_B (.int .i64 ((la : Int) + 1))
      exact Step.same (b2.trans_new ((But.refl [w.heap.size] _).set (p := ⟨w.heap.size, 0, none⟩) (by simp) _) (fun x hx => by simp at hx; exact .inr (by omega)))
    clear k2 a1 a10 a11 a12 a13 a14 c0 c1 c3 fb f10 f1 b1 k1 hK MA GA ha5 hma sa
    generalize (((w1.drewN nq).setCell ⟨B, 1, none⟩ (.int .i64 ((la : Int) + 1))).setCell ⟨w.heap.size, 0, none⟩ (.int .i64 ((la : Int) + 1))) = W at *
    obtain ⟨a10, a11, a12, a13, a14⟩ := a2.but (S := []) (But.refl [] W).drew (by simp)
    have hr1 := rv_one W.drew ((la : Int) + 1) s t k z 29
    have k4 := k3.drew.keep ((But.refl [] W.drew).alloc (.cells #[.int .i64 ((la : Int) + 1), .int .i64 s, .int .i64 t, .int .i64 k, .int .i64 z] 29))
    have c3 := k3.drew.c3
    have c3a := (k3.keep ((But.refl [] W).alloc (.cells #[.int .i64 ((la : Int) + 1), .int .i64 s, .int .i64 t, .int .i64 k, .int .i64 z] 29))).c3
    have s4 := s2.trans (Step.keep ((But.refl [] W).drew.alloc (.cells #[.int .i64 ((la : Int) + 1), .int .i64 s, .int .i64 t, .int .i64 k, .int .i64 z] 29)))
    go_region_law (refine step_app29 rfl _ _ rfl 0 (.slice sl xs.length c) xs rfl k4.h _ _ _ [((la : Int) + 1, s, t, k, z)] rfl rfl hr1 (by omega) (Nat.zero_le _) ?_; intro v5 w5 ho5 hg5 hv5; obtain ⟨k5, s5, f0, f1⟩ := k4.row (But.own hg5) ho5 (hv5.imp id (fun e x hx => by rw [e] at hx; cases hx; exact Nat.le_refl _)); obtain ⟨a5, c5, rfl⟩ := ho5.at_ (n := xs.length + 1) (by simp))
    all_goals
      have x0 : w5.cell? ⟨w.heap.size, 0, none⟩ = some (.int .i64 ((la : Int) + 1)) := (But.own hg5).cell' ((a2.but (S := []) ((But.refl [] W).drew.alloc (.cells #[.int .i64 ((la : Int) + 1), .int .i64 s, .int .i64 t, .int .i64 k, .int .i64 z] 29)) (by simp)).1) (fun e => n0 (bks_v (by simpa using e)))
      go_wp2_with fail
      go_ret2
      exact ⟨rfl, _, ⟨_, rfl, k5, hL, hO⟩, s4.trans s5⟩
end
end Go.Proofs.Ytdhgffnlocgfkaa
