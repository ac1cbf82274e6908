/- The document's Join. -/
import Derived.Test.YtmbpmcgppnanpaaJnS
namespace Go.Proofs.Ytmbpmcgppnanpaa.Jn
open Go Go.RowKit Go.Proofs.Ytmbpmcgppnanpaa.Bs
open Go.Proofs.Ytmbpmcgppnanpaa.Ids (right indexI ageI idI rindex_any)
set_option linter.unusedSimpArgs false

section
variable {σ : St} {id t : Int}
theorem joinE_8 (h : plc σ t < 0) : joinE σ id t = 8 := by unfold joinE; rw [if_pos h]
theorem joinE_5 (h : ¬ plc σ t < 0) (h2 : 0 ≤ atP σ (plc σ t) ∨ t = id) : joinE σ id t = 5 := by unfold joinE; rw [if_neg h, if_pos h2]
theorem joinE_4 (h : ¬ plc σ t < 0) (h2 : ¬ (0 ≤ atP σ (plc σ t) ∨ t = id)) (h3 : stI σ id = 0) : joinE σ id t = 4 := by unfold joinE; rw [if_neg h, if_neg h2, if_pos h3]
theorem joinE_0 (h : ¬ plc σ t < 0) (h2 : ¬ (0 ≤ atP σ (plc σ t) ∨ t = id)) (h3 : stI σ id ≠ 0) : joinE σ id t = 0 := by unfold joinE; rw [if_neg h, if_neg h2, if_neg h3]
theorem joinB_no (h : joinE σ id t ≠ 0) : joinB σ id t = false ∧ joinV σ id t = 0 ∧ joinS σ id t = σ := by
  have e : joinB σ id t = false := decide_eq_false (fun e => h e.1)
  exact ⟨e, by unfold joinV; rw [e]; rfl, by unfold joinS; rw [if_neg (fun e => h e.1)]⟩
theorem st_cases {σ : St} {id : Int} : stI σ id = 0 ∨ stI σ id = 1 ∨ stI σ id = 2 := by
  unfold stI
  repeat' split
  all_goals simp
end
theorem Ok.st2 {σ : St} {n : Nat} (h : Ok n σ) {id : Int} (hs : stI σ id = 2) : ∃ i : Nat, Jn.plc σ id = i ∧ i < n ∧ at_ σ id = rw σ i := by
  unfold stI at hs
  split at hs
  · omega
  next h1 =>
  obtain ⟨i, e1, e2, -, -⟩ := h.plc h1
  exact ⟨i, e1, e2, by unfold at_; rw [e1, Int.toNat_natCast]⟩
section
set_option maxRecDepth 100000
variable {w w' : World} {M n : Nat} {R R' : List Nat} {σ : St}
set_option maxHeartbeats 4000000 in
theorem join_any (hQ : RQ w M R n σ) (id t : Int) (hi : id ≤ 9223372036854775807) (ht : t ≤ 9223372036854775807) :
    Calls Try.prog 25 #[.pointer (some ⟨M, 0, none⟩), .int .i64 id, .int .i64 t] w fun e w' => e = .returned (.tuple #[.int .i64 (joinV σ id t), .bool (joinB σ id t), .int .i64 (joinE σ id t)]) ∧ ∃ R', RQ w' M R' n (joinS σ id t) ∧ Step R w R' w' := by
  obtain ⟨hok, G, vs, h⟩ := (show RQ w M R n σ from hQ)
  obtain ⟨c, c0⟩ := h.c0
  have I := place_any h t ht
  have A := fun p => at_any h hok p
  have S := fun w1 (hb : Below w.heap.size w w1) => state_any (h.below hb) hok id hi
  have hn := hok.n2
  have hok2 := hok.join id t
  by_cases e : plc σ t < 0
  · have eE := joinE_8 (id := id) e
    obtain ⟨eB, eV, eS⟩ := joinB_no (by rw [eE]; omega : joinE σ id t ≠ 0)
    rw [eB, eV, eS, eE]
    clear hok2 eE eB eV eS A S
    generalize plc σ t = x at *
    go_enter Try.func25, Try.ntmps25
    go_wp2_with (first | (go_at_call 44; (with_reducible refine I.mono ?_); rintro e w1 ⟨rfl, hw⟩; subst w1))
    go_ret3
    exact ⟨rfl, R, hQ, Step.refl _ _⟩
  obtain ⟨p, e1, hp, -, -⟩ := hok.plc e
  rw [e1] at I
  replace A := A p
  by_cases e2 : 0 ≤ atP σ p
  · have eE := joinE_5 (id := id) e (.inl (by rw [e1]; exact e2))
    obtain ⟨eB, eV, eS⟩ := joinB_no (by rw [eE]; omega : joinE σ id t ≠ 0)
    rw [eB, eV, eS, eE]
    clear hok2 eE eB eV eS S e e1
    generalize atP σ p = x at *
    go_enter Try.func25, Try.ntmps25
    go_wp2_with (first
      | (go_at_call 44; (with_reducible refine I.mono ?_); rintro e w1 ⟨rfl, hw⟩; subst w1)
      | (go_at_call 50; (with_reducible refine A.mono ?_); rintro e w1 ⟨rfl, hb1⟩))
    go_ret3
    exact ⟨rfl, R, hQ.keep (.of_below hb1), Step.keep (.of_below hb1)⟩
  by_cases e3 : t = id
  · have eE := joinE_5 (id := id) e (.inr e3)
    obtain ⟨eB, eV, eS⟩ := joinB_no (by rw [eE]; omega : joinE σ id t ≠ 0)
    rw [eB, eV, eS, eE]
    clear hok2 eE eB eV eS S e e1
    subst e3
    generalize atP σ p = x at *
    go_enter Try.func25, Try.ntmps25
    go_wp2_with (first
      | (go_at_call 44; (with_reducible refine I.mono ?_); rintro e w1 ⟨rfl, hw⟩; subst w1)
      | (go_at_call 50; (with_reducible refine A.mono ?_); rintro e w1 ⟨rfl, hb1⟩))
    go_ret3
    exact ⟨rfl, R, hQ.keep (.of_below hb1), Step.keep (.of_below hb1)⟩
  have e4 : (t == id) = false := by simpa using e3
  have e23 : ¬ (0 ≤ atP σ (plc σ t) ∨ t = id) := by rw [e1]; exact fun h => h.elim e2 e3
  rcases (st_cases : stI σ id = 0 ∨ stI σ id = 1 ∨ stI σ id = 2) with s0 | s1 | s2
  · have eE := joinE_4 e e23 s0
    obtain ⟨eB, eV, eS⟩ := joinB_no (by rw [eE]; omega : joinE σ id t ≠ 0)
    rw [eB, eV, eS, eE]
    rw [s0] at S
    clear hok2 eE eB eV eS e e1 e3 e23 s0
    generalize atP σ p = x at *
    go_enter Try.func25, Try.ntmps25
    go_wp2_with (first
      | (go_at_call 44; (with_reducible refine I.mono ?_); rintro e w1 ⟨rfl, hw⟩; subst w1)
      | (go_at_call 50; (with_reducible refine A.mono ?_); rintro e w1 ⟨rfl, hb1⟩; replace S := S _ hb1)
      | (go_at_call 27; (with_reducible refine S.mono ?_); rintro e w2 ⟨rfl, hw⟩; subst w2))
    go_ret3
    exact ⟨rfl, R, hQ.keep (.of_below hb1), Step.keep (.of_below hb1)⟩
  · have eE := joinE_0 e e23 (by rw [s1]; omega)
    have eB : joinB σ id t = false := decide_eq_false (fun e => by have := e.2; omega)
    have eV : joinV σ id t = 0 := by unfold joinV; rw [eB]; rfl
    rw [eB, eV, eE]
    unfold joinS at hok2 ⊢
    rw [if_pos ⟨eE, s1⟩] at hok2 ⊢
    obtain ⟨k, f1, hk, -, -, hat, f5, f6⟩ := hok.st1 s1
    rw [f1, hat, Int.toNat_natCast] at hok2 ⊢
    rw [s1] at S
    have hk' : (k : Int) < (n : Int) := by omega
    have P : ∀ w1 j, Below w.heap.size w w1 → Calls Try.prog 44 #[.pointer (some ⟨M, 0, none⟩), .int .i64 id] (w1.drewN j) fun e w' => e = .returned (.int .i64 k) ∧ w' = w1.drewN j := fun w1 j hb => by
      rw [← f1]
      exact place_any ((h.below hb).keep ((But.refl [] w1).drewN j)) id hi
    have hv := h.rw k hk
    have hr := hv.1
    have r3 := h.r3 hk
    obtain ⟨sa, sc, e7, -⟩ := hv.rd
    rw [e7] at r3 hr
    replace hr := RowI.reads hr
    have hlen := hok.qlen hk
    have KS : ∀ w1, Below w.heap.size w w1 → w1.cell? ⟨M, 0, none⟩ = some (.slice (some ⟨G, 0, none⟩) n c) ∧ w1.cell? ⟨G, k * 4 + 3, none⟩ = some (.slice sa (rw σ k).q.length sc) ∧ w1.frozen? ⟨G, k * 4 + 3, none⟩ = false := fun w1 hb => ⟨cell_on hb c0, cell_on hb r3, (h.below hb).fz _⟩
    have FIN : ∀ w1 w3 v3, Below w.heap.size w w1 → But [] w1 w3 → RowI w3 w1.heap.size v3 ((rw σ k).q ++ [t]) → ∃ R', RQ (w3.setCell ⟨G, k * 4 + 3, none⟩ v3) M R' n (σ.set k ⟨(rw σ k).id, (rw σ k).en, (rw σ k).va, (rw σ k).q ++ [t]⟩) ∧ Step R w R' (w3.setCell ⟨G, k * 4 + 3, none⟩ v3) := fun w1 w3 v3 hb hb3 hr3 => by
      obtain ⟨h4, s4⟩ := (h.below hb).storeW hb3 hr3 hk
      exact ⟨_, ⟨hok2, _, _, h4⟩, (Step.keep (.of_below hb)).trans s4⟩
    have OW : ∀ (w1 : World) j, ((w1.drewN j).alloc (.cells #[] 3)).ownsRow w1.heap.size 3 1 (.slice (some ⟨w1.heap.size, 0, none⟩) 0 0) 0 (([] : List Int).map (Value.int .i64)) := fun w1 j => own_none (w1.drewN j)
    have HR : ∀ (w1 : World) j, Below w.heap.size w w1 → Reads ((w1.drewN j).alloc (.cells #[] 3)) sa sc (rw σ k).q := fun w1 j hb => hr.but ((((But.of_below hb).drewN j)).alloc _)
    have BB : ∀ (w1 : World) j, But [] w1 ((w1.drewN j).alloc (.cells #[] 3)) := fun w1 j => ((But.refl [] w1).drewN j).alloc _
    clear hok2 eE eB eV e e1 e3 e23 s1 f1 hat f5 f6 hr hv e7 r3 c0
    generalize σ.set k ⟨(rw σ k).id, (rw σ k).en, (rw σ k).va, (rw σ k).q ++ [t]⟩ = σ2 at *
    generalize (rw σ k).q = q at *
    generalize atP σ p = x at *
    go_enter Try.func25, Try.ntmps25
    go_wp2_with (first
      | (go_at_call 44; (with_reducible refine I.mono ?_); rintro e w1 ⟨rfl, hw⟩; subst w1)
      | (go_at_call 50; (with_reducible refine A.mono ?_); rintro e w1 ⟨rfl, hb1⟩; replace S := S _ hb1; replace P := fun j => P _ j hb1; obtain ⟨k0, k2, k3⟩ := KS _ hb1; replace FIN := fun w3 v3 => FIN _ w3 v3 hb1; replace OW := OW w1; replace HR := fun j => HR w1 j hb1; replace BB := BB w1)
      | (go_at_call 27; (with_reducible refine S.mono ?_); rintro e w2 ⟨rfl, hw⟩; subst w2))
    go_quiet (first | (go_at_call 44; exact Calls.quiet_of_same (P _)))
    replace OW := OW nq
    replace HR := HR nq
    replace BB := BB nq
    have k4 := BB.cell k2
    go_wp2_with (first
      | (at_builtin; refine wpList_app rfl (.tmp 51) (.tmp 55) rfl w1.heap.size _ 0 [] rfl OW _ _ _ q rfl rfl HR (by omega) (by simp) ?_; intro v2 w2 ho2 hg2; rw [Nat.zero_add, List.nil_append] at ho2; have hb2 := BB.grown hg2 (fun k e => by cases e; exact Nat.le_refl _); obtain ⟨sa2, sc2, rfl⟩ := own_shape ho2)
      | (at_builtin; refine wpList_app1 rfl (.tmp 56) (.tmp 58) rfl w1.heap.size _ q rfl (ho2.alloc _) _ _ t rfl (reads_one _ _) (by omega) (by have := hb2.size; simp; omega) ?_; intro v3 w3 hr3 hg3 ha3; have hb3 := (hb2.alloc (.cells #[.int .i64 t] 3)).grown hg3 (fun k e => (ho2.lt k e).1); obtain ⟨g1, g2, g3⟩ := KS _ (hb1.trans (hb3.below hb1.size (by simp))); obtain ⟨sa3, sc3, rfl⟩ := own_shape hr3))
    go_ret3
    obtain ⟨R2, r1, r2⟩ := FIN _ _ hb3 hr3
    rw [show (q ++ [t]).length = q.length + 1 by simp] at r1 r2
    exact ⟨rfl, R2, r1, r2⟩
  · have eE := joinE_0 e e23 (by rw [s2]; omega)
    have eB : joinB σ id t = true := decide_eq_true ⟨eE, s2⟩
    have eV : joinV σ id t = (at_ σ id).va := by unfold joinV; rw [eB]; rfl
    have eS : joinS σ id t = σ := by unfold joinS; rw [if_neg (fun e => by have := e.2; omega)]
    rw [eB, eV, eS, eE]
    obtain ⟨k, f1, hk, hat⟩ := hok.st2 s2
    have hk' : (k : Int) < (n : Int) := by omega
    rw [hat]
    rw [s2] at S
    have P : ∀ w1 j, Below w.heap.size w w1 → Calls Try.prog 44 #[.pointer (some ⟨M, 0, none⟩), .int .i64 id] (w1.drewN j) fun e w' => e = .returned (.int .i64 k) ∧ w' = w1.drewN j := fun w1 j hb => by
      rw [← f1]
      exact place_any ((h.below hb).keep ((But.refl [] w1).drewN j)) id hi
    have KS : ∀ w1, Below w.heap.size w w1 → w1.cell? ⟨M, 0, none⟩ = some (.slice (some ⟨G, 0, none⟩) n c) ∧ w1.cell? ⟨G, k * 4 + 2, none⟩ = some (.int .i64 (rw σ k).va) := fun w1 hb => ⟨cell_on hb c0, cell_on hb (h.r2 hk)⟩
    clear hok2 eE eB eV eS e e1 e3 e23 s2 f1 hat
    generalize atP σ p = x at *
    generalize (rw σ k).va = va at *
    go_enter Try.func25, Try.ntmps25
    go_wp2_with (first
      | (go_at_call 44; (with_reducible refine I.mono ?_); rintro e w1 ⟨rfl, hw⟩; subst w1)
      | (go_at_call 50; (with_reducible refine A.mono ?_); rintro e w1 ⟨rfl, hb1⟩; replace S := S _ hb1; replace P := fun j => P _ j hb1; obtain ⟨k0, k2⟩ := KS _ hb1)
      | (go_at_call 27; (with_reducible refine S.mono ?_); rintro e w2 ⟨rfl, hw⟩; subst w2))
    go_quiet (first | (go_at_call 44; exact Calls.quiet_of_same (P _)))
    go_wp2_with fail
    go_ret3
    exact ⟨rfl, R, hQ.keep ((But.of_below hb1).drewN _), Step.keep ((But.of_below hb1).drewN _)⟩
end
end Go.Proofs.Ytmbpmcgppnanpaa.Jn
