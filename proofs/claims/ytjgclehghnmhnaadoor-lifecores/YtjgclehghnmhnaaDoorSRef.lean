/- The reference's Slots in memory; contracts of its New, Take, Live, Free. -/
import Derived.Test.YtjgclehghnmhnaaDoorSApp
namespace Go.Proofs.YtjgclehghnmhnaaDoor
open Go.RowKit

/-- The reference's Slots: block M has two slices; block A the ages, block T who is taken. -/
structure RS (w : World) (M A T n : Nat) (ag : List Nat) (tk : List Bool) : Prop where
  m : ∃ ca ct, w.heap[M]? = some (.cells #[.slice (some ⟨A, 0, none⟩) n ca, .slice (some ⟨T, 0, none⟩) n ct] 98 (0, 0))
  a : Row w A 3 (ag.map (fun x : Nat => Value.int .i64 x))
  t : Row w T 4 (tk.map Value.bool)
  ma : M ≠ A
  mt : M ≠ T
  at' : A ≠ T
  al : ag.length = n
  tl : tk.length = n
  le : n ≤ 4096
  ab : ∀ x ∈ ag, x ≤ 2147483647

section
variable {w w' : World} {M A T n : Nat} {ag : List Nat} {tk : List Bool}
theorem RS.ltM (h : RS w M A T n ag tk) : M < w.heap.size := by
  obtain ⟨_, _, e⟩ := h.m
  exact (Array.getElem?_eq_some_iff.1 e).1
theorem RS.c0 (h : RS w M A T n ag tk) : ∃ ca, w.cell? ⟨M, 0, none⟩ = some (.slice (some ⟨A, 0, none⟩) n ca) := by
  obtain ⟨ca, _, e⟩ := h.m
  exact ⟨ca, by simp [World.cell?, e]⟩
theorem RS.c1 (h : RS w M A T n ag tk) : ∃ ct, w.cell? ⟨M, 1, none⟩ = some (.slice (some ⟨T, 0, none⟩) n ct) := by
  obtain ⟨_, ct, e⟩ := h.m
  exact ⟨ct, by simp [World.cell?, e]⟩
theorem RS.ca (h : RS w M A T n ag tk) {j x : Nat} (hx : ag[j]? = some x) : w.cell? ⟨A, j, none⟩ = some (.int .i64 x) := h.a.cell (by rw [List.getElem?_map, hx]; rfl)
theorem RS.ct (h : RS w M A T n ag tk) {j : Nat} {x : Bool} (hx : tk[j]? = some x) : w.cell? ⟨T, j, none⟩ = some (.bool x) := h.t.cell (by rw [List.getElem?_map, hx]; rfl)
theorem RS.put (h : RS w M A T n ag tk) (hm : w'.heap[M]? = w.heap[M]?) (ha : w'.heap[A]? = w.heap[A]?) (ht : w'.heap[T]? = w.heap[T]?) : RS w' M A T n ag tk :=
  ⟨h.m.imp fun _ ⟨ct, e⟩ => ⟨ct, hm.trans e⟩, h.a.put ha, h.t.put ht, h.ma, h.mt, h.at', h.al, h.tl, h.le, h.ab⟩
theorem RS.but {S : List Nat} (h : RS w M A T n ag tk) (hb : But S w w') (h1 : M ∉ S) (h2 : A ∉ S) (h3 : T ∉ S) : RS w' M A T n ag tk :=
  h.put (hb.block M h.ltM h1) (hb.block A h.a.lt h2) (hb.block T h.t.lt h3)
theorem RS.keep (h : RS w M A T n ag tk) (hb : But [] w w') : RS w' M A T n ag tk := h.but hb (by simp) (by simp) (by simp)
theorem RS.drawn (h : RS w M A T n ag tk) (k : Drawn w w') : RS w' M A T n ag tk := h.keep k.but
theorem RS.setA (h : RS w M A T n ag tk) (j : Nat) {x : Nat} (hx : x ≤ 2147483647) : RS (w.setCell ⟨A, j, none⟩ (.int .i64 x)) M A T n (ag.set j x) tk := by
  refine ⟨h.m.imp fun _ ⟨ct, e⟩ => ⟨ct, (Below.heap_setCell w ⟨A, j, none⟩ _ M h.ma).trans e⟩, ?_, h.t.put (Below.heap_setCell w ⟨A, j, none⟩ _ T (Ne.symm h.at')), h.ma, h.mt, h.at', by simpa using h.al, h.tl, h.le, ?_⟩
  · rw [List.map_set]
    exact h.a.set j _
  · intro y hy
    rcases List.mem_or_eq_of_mem_set hy with hy | rfl
    · exact h.ab y hy
    · exact hx
theorem RS.setT (h : RS w M A T n ag tk) (j : Nat) (x : Bool) : RS (w.setCell ⟨T, j, none⟩ (.bool x)) M A T n ag (tk.set j x) := by
  refine ⟨h.m.imp fun _ ⟨ct, e⟩ => ⟨ct, (Below.heap_setCell w ⟨T, j, none⟩ _ M h.mt).trans e⟩, h.a.put (Below.heap_setCell w ⟨T, j, none⟩ _ A h.at'), ?_, h.ma, h.mt, h.at', h.al, by simpa using h.tl, h.le, h.ab⟩
  rw [List.map_set]
  exact h.t.set j _
theorem RS.at (h : RS w M A T n ag tk) {j : Nat} (hj : j < n) : ∃ x t, ag[j]? = some x ∧ tk[j]? = some t :=
  ⟨_, _, List.getElem?_eq_getElem (by rw [h.al]; exact hj), List.getElem?_eq_getElem (by rw [h.tl]; exact hj)⟩

theorem rnew_none (m : Int) (hm : m < 1 ∨ 4096 < m) (w : World) :
    Calls Tryd.prog 30 #[.int .i64 m] w fun e w' => e = .returned (.pointer none) ∧ w' = w := by
  by_cases h : m < 1
  · go_enter Tryd.func30, Tryd.ntmps30
    go_wp2_with fail
    go_ret
    exact ⟨rfl, rfl⟩
  · have h2 : 4096 < m := by omega
    go_enter Tryd.func30, Tryd.ntmps30
    go_wp2_with fail
    go_ret
    exact ⟨rfl, rfl⟩

theorem info4 : (Tryd.prog.info? 4).map (fun i => (i.zero, i.size, i.bytes)) = some (some (.bool false), 1, 1) := by kernel_rfl
theorem mk_bool (n : Nat) (hn : n ≤ 4096) (W : World) : (Instr.makeSlice 96 (.int .i64 n) (.int .i64 n)).run Tryd.prog W = .ok (.slice (some ⟨W.heap.size, 0, none⟩) n n) (W.alloc (.cells (madeCells #[.bool false] n) 4)) := by
  obtain ⟨i0, hi, hz0, hz1, hz2⟩ := info_parts info4
  have h := run_make (P := Tryd.prog) W 96 4 i0 (.bool false) Tryd.underlying96 hi hz0 .i64 .i64 n n (by omega) (Int.le_refl _) (by rw [hz2]; omega) (by omega)
  simpa [hz1, show (Value.bool false).cells = #[.bool false] from rfl] using h

theorem heap3 (w : World) (o1 o2 o3 : Obj) : (((w.alloc o1).alloc o2).alloc o3).heap[w.heap.size]? = some o1 ∧ (((w.alloc o1).alloc o2).alloc o3).heap[w.heap.size + 1]? = some o2 ∧ (((w.alloc o1).alloc o2).alloc o3).heap[w.heap.size + 1 + 1]? = some o3 ∧ Below w.heap.size w (((w.alloc o1).alloc o2).alloc o3) := by
  have e2 := heap_alloc_new (w.alloc o1) o2
  have e3 := heap_alloc_new ((w.alloc o1).alloc o2) o3
  simp only [World.size_alloc] at e2 e3
  refine ⟨?_, ?_, e3, (((Below.refl _ w).alloc (Nat.le_refl _) _).alloc (by simp) _).alloc (by simp; omega) _⟩
  · rw [Below.heap_alloc _ _ _ (by simp; omega), Below.heap_alloc _ _ _ (by simp), heap_alloc_new]
  · rw [Below.heap_alloc _ _ _ (by simp), e2]
theorem row_made {W : World} {G n : Nat} {t : TypeId} {z : Value} (h : W.heap[G]? = some (.cells (madeCells #[z] n) t)) : Row W G t (List.replicate n z) :=
  ⟨_, h, fun j v hv => by rw [← Array.getElem?_toList, toList_madeCells_one]; exact hv⟩

set_option maxHeartbeats 2000000 in
theorem rnew_some (n : Nat) (h1 : 1 ≤ n) (h2 : n ≤ 4096) (w : World) :
    Calls Tryd.prog 30 #[.int .i64 n] w fun e w' => ∃ M A T, e = .returned (.pointer (some ⟨M, 0, none⟩)) ∧ RS w' M A T n (List.replicate n 0) (List.replicate n false) ∧ w.heap.size ≤ M ∧ w.heap.size ≤ A ∧ w.heap.size ≤ T ∧ Below w.heap.size w w' := by
  have hm1 := mk_int n h2
  have hm2 := mk_bool n h2
  have hn1 : ¬ (n : Int) < 1 := by omega
  have hn2 : ¬ 4096 < (n : Int) := by omega
  go_enter Tryd.func30, Tryd.ntmps30
  go_wp2_with fail
  go_region
  · obtain ⟨e1, e2, e3, hb⟩ := heap3 w (.cells (madeCells #[.int .i64 0] n) 3) (.cells (madeCells #[.bool false] n) 4) (.cells #[.slice (some ⟨w.heap.size, 0, none⟩) n n, .slice (some ⟨w.heap.size + 1, 0, none⟩) n n] 98)
    go_wp2_with fail
    go_ret
    refine ⟨w.heap.size + 1 + 1, w.heap.size, w.heap.size + 1, rfl, ⟨⟨n, n, e3⟩, ?_, ?_, by omega, by omega, by omega, by simp, by simp, h2, fun x hx => by simp at hx; omega⟩, by omega, Nat.le_refl _, by omega, hb.drew⟩
    · have := row_made e1
      rw [List.map_replicate]
      exact this
    · have := row_made e2
      rw [List.map_replicate]
      exact this
  · obtain ⟨e1, e2, e3, hb⟩ := heap3 w (.cells (madeCells #[.bool false] n) 4) (.cells (madeCells #[.int .i64 0] n) 3) (.cells #[.slice (some ⟨w.heap.size + 1, 0, none⟩) n n, .slice (some ⟨w.heap.size, 0, none⟩) n n] 98)
    go_wp2_with fail
    go_ret
    refine ⟨w.heap.size + 1 + 1, w.heap.size + 1, w.heap.size, rfl, ⟨⟨n, n, e3⟩, ?_, ?_, by omega, by omega, by omega, by simp, by simp, h2, fun x hx => by simp at hx; omega⟩, by omega, by omega, Nat.le_refl _, hb.drew⟩
    · have := row_made e2
      rw [List.map_replicate]
      exact this
    · have := row_made e1
      rw [List.map_replicate]
      exact this

set_option maxHeartbeats 2000000 in
theorem rlive_any (h : RS w M A T n ag tk) (id : Int) (h1 : id ≤ 9223372036854775807) :
    Calls Tryd.prog 80 #[.pointer (some ⟨M, 0, none⟩), .int .i64 id] w fun e w' => e = .returned (.bool (liveB ag tk id)) ∧ Drawn w w' := by
  have hI := rindex_any id h1
  have hA := rage_any id h1
  obtain ⟨ca, c0⟩ := h.c0
  obtain ⟨ct, c1⟩ := h.c1
  unfold liveB
  by_cases hr : right id
  · have ea : ageI id = id / 65536 := by unfold ageI; rw [if_pos hr]
    have ei : indexI id = ((ix id : Nat) : Int) := by unfold indexI; rw [if_pos hr, ix_eq]
    rw [ea] at hA
    rw [ei] at hI
    rw [decide_eq_true hr, Bool.true_and]
    clear ea ei hr h1
    generalize id / 65536 = y at hA ⊢
    generalize ix id = j at hI ⊢
    have hj0 : (0 : Int) ≤ (j : Int) := by omega
    by_cases hj : j < n
    · have hj' : (j : Int) < (n : Int) := by omega
      obtain ⟨x, t, hx, ht⟩ := h.at hj
      have hc := h.ca hx
      have hd := h.ct ht
      rw [hx, ht]
      dsimp only
      have ec : (y == (x : Int)) = ((x : Int) == y) := by rw [Bool.eq_iff_iff]; simp; omega
      rw [ec]
      cases t
      · go_enter Tryd.func80, Tryd.ntmps80
        go_wp2_with (go_at_call 78; refine (hI _).mono ?_; rintro e w' ⟨rfl, hw⟩; subst w')
        go_quiet (first | (go_at_call 79; exact Calls.quiet_of_same (hA _)))
        go_wp2_with fail
        go_ret
        exact ⟨rfl, _, rfl⟩
      · go_enter Tryd.func80, Tryd.ntmps80
        go_wp2_with (go_at_call 78; refine (hI _).mono ?_; rintro e w' ⟨rfl, hw⟩; subst w')
        go_quiet (first | (go_at_call 79; exact Calls.quiet_of_same (hA _)))
        go_wp2_with fail
        go_ret
        exact ⟨rfl, _, rfl⟩
    · have hj' : decide ((j : Int) < (n : Int)) = false := decide_eq_false (by omega)
      have hx : ag[j]? = none := List.getElem?_eq_none (by rw [h.al]; omega)
      have ht : tk[j]? = none := List.getElem?_eq_none (by rw [h.tl]; omega)
      rw [hx, ht]
      go_enter Tryd.func80, Tryd.ntmps80
      go_wp2_with (go_at_call 78; refine (hI _).mono ?_; rintro e w' ⟨rfl, hw⟩; subst w')
      go_quiet (fail)
      go_wp2_with fail
      go_ret
      exact ⟨rfl, _, rfl⟩
  · have ei : indexI id = -1 := by unfold indexI; rw [if_neg hr]
    rw [ei] at hI
    rw [decide_eq_false hr, Bool.false_and, Bool.false_and]
    go_enter Tryd.func80, Tryd.ntmps80
    go_wp2_with (go_at_call 78; refine (hI _).mono ?_; rintro e w' ⟨rfl, hw⟩; subst w')
    go_quiet (fail)
    go_wp2_with fail
    go_ret
    exact ⟨rfl, _, rfl⟩

set_option maxHeartbeats 2000000 in
theorem rfree_any (hrs : RS w M A T n ag tk) (id : Int) (h1 : id ≤ 9223372036854775807) :
    Calls Tryd.prog 71 #[.pointer (some ⟨M, 0, none⟩), .int .i64 id] w fun e w' => e = .returned (.int .i64 (freeE ag tk id)) ∧ RS w' M A T n ag (freeT ag tk id) ∧ But [T] w w' := by
  have hI := rindex_any id h1
  have hA := rage_any id h1
  have hL : ∀ W, Drawn w W → Calls Tryd.prog 80 #[.pointer (some ⟨M, 0, none⟩), .int .i64 id] W fun e w' => e = .returned (.bool (liveB ag tk id)) ∧ Drawn W w' := fun W hd => rlive_any (hrs.drawn hd) id h1
  obtain ⟨ca, c0⟩ := hrs.c0
  obtain ⟨ct, c1⟩ := hrs.c1
  cases hk : knownB ag id
  · have e : liveB ag tk id = false := by
      cases hv : liveB ag tk id
      · rfl
      · rw [live_known hv] at hk; cases hk
    unfold freeE freeT
    rw [hk, e]
    by_cases hr : right id
    · have ea : ageI id = id / 65536 := by unfold ageI; rw [if_pos hr]
      have ei : indexI id = ((ix id : Nat) : Int) := by unfold indexI; rw [if_pos hr, ix_eq]
      rw [ea] at hA
      rw [ei] at hI
      unfold knownB at hk
      rw [decide_eq_true hr, Bool.true_and] at hk
      clear ea ei hr h1 hL e
      generalize id / 65536 = y at hA hk
      generalize ix id = j at hI hk
      have hj0 : decide ((j : Int) < 0) = false := decide_eq_false (by omega)
      have hj00 : (0 : Int) ≤ (j : Int) := by omega
      by_cases hj : j < n
      · have hj' : decide ((n : Int) ≤ (j : Int)) = false := decide_eq_false (by omega)
        have hj'' : (j : Int) < (n : Int) := by omega
        obtain ⟨x, t, hx, ht⟩ := hrs.at hj
        have hc := hrs.ca hx
        rw [hx] at hk
        have hgt : decide ((x : Int) < y) = true := decide_eq_true (by simpa using hk)
        clear hk hx ht
        go_enter Tryd.func71, Tryd.ntmps71
        go_wp2_with (go_at_call 78; refine (hI _).mono ?_; rintro e w' ⟨rfl, hw⟩; subst w')
        go_quiet (first | (go_at_call 79; exact Calls.quiet_of_same (hA _)))
        go_wp2_with fail
        go_ret
        exact ⟨rfl, hrs.drawn ⟨_, rfl⟩, Drawn.but ⟨_, rfl⟩⟩
      · have hj' : decide ((n : Int) ≤ (j : Int)) = true := decide_eq_true (by omega)
        clear hk
        go_enter Tryd.func71, Tryd.ntmps71
        go_wp2_with (go_at_call 78; refine (hI _).mono ?_; rintro e w' ⟨rfl, hw⟩; subst w')
        go_quiet (fail)
        go_wp2_with fail
        go_ret
        exact ⟨rfl, hrs.drawn ⟨_, rfl⟩, Drawn.but ⟨_, rfl⟩⟩
    · have ei : indexI id = -1 := by unfold indexI; rw [if_neg hr]
      rw [ei] at hI
      clear hk e hL
      go_enter Tryd.func71, Tryd.ntmps71
      go_wp2_with (go_at_call 78; refine (hI _).mono ?_; rintro e w' ⟨rfl, hw⟩; subst w')
      go_quiet (fail)
      go_wp2_with fail
      go_ret
      exact ⟨rfl, hrs.drawn ⟨_, rfl⟩, Drawn.but ⟨_, rfl⟩⟩
  · obtain ⟨hr, x, hx, hle⟩ := known_iff hk
    have ea : ageI id = id / 65536 := by unfold ageI; rw [if_pos hr]
    have ei : indexI id = ((ix id : Nat) : Int) := by unfold indexI; rw [if_pos hr, ix_eq]
    rw [ea] at hA
    rw [ei] at hI
    unfold freeE freeT
    rw [hk]
    clear hk ea ei hr h1
    have hj : ix id < n := by rw [← hrs.al]; exact (List.getElem?_eq_some_iff.1 hx).1
    generalize liveB ag tk id = b at hL
    generalize id / 65536 = y at hA hle
    generalize ix id = j at hI hj hx ⊢
    have hj0 : decide ((j : Int) < 0) = false := decide_eq_false (by omega)
    have hj00 : (0 : Int) ≤ (j : Int) := by omega
    have hj' : decide ((n : Int) ≤ (j : Int)) = false := decide_eq_false (by omega)
    have hj'' : (j : Int) < (n : Int) := by omega
    have hc := hrs.ca hx
    have hgt : decide ((x : Int) < y) = false := decide_eq_false (by omega)
    obtain ⟨_, t, _, ht⟩ := hrs.at hj
    clear hx hle
    have H1 : Aside (∀ W, Drawn w W → W.cell? ⟨M, 1, none⟩ = some (.slice (some ⟨T, 0, none⟩) n ct) ∧ W.cell? ⟨T, j, none⟩ = some (.bool t) ∧ W.frozen? ⟨T, j, none⟩ = false ∧ RS (W.setCell ⟨T, j, none⟩ (.bool false)) M A T n ag (tk.set j false)) :=
      fun W hd => ⟨But.cell' (S := []) hd.but c1 (by simp), (hrs.drawn hd).ct ht, (hrs.drawn hd).t.fz j, (hrs.drawn hd).setT j false⟩
    clear ht
    cases b
    · go_enter Tryd.func71, Tryd.ntmps71
      go_wp2_with (go_at_call 78; refine (hI _).mono ?_; rintro e w' ⟨rfl, hw⟩; subst w')
      go_quiet (first | (go_at_call 79; exact Calls.quiet_of_same (hA _)))
      go_wp2_with (go_at_call 80; refine (hL _ ⟨_, rfl⟩).mono ?_; rintro e w3 ⟨rfl, hd3⟩; replace hd3 : Drawn w w3 := Drawn.trans ⟨_, rfl⟩ hd3)
      go_ret
      exact ⟨rfl, hrs.drawn hd3, hd3.but⟩
    · go_enter Tryd.func71, Tryd.ntmps71
      go_wp2_with (go_at_call 78; refine (hI _).mono ?_; rintro e w' ⟨rfl, hw⟩; subst w')
      go_quiet (first | (go_at_call 79; exact Calls.quiet_of_same (hA _)))
      go_wp2_with (go_at_call 80; refine (hL _ ⟨_, rfl⟩).mono ?_; rintro e w3 ⟨rfl, hd3⟩; replace hd3 : Drawn w w3 := Drawn.trans ⟨_, rfl⟩ hd3; obtain ⟨x1, x2, x3, x4⟩ := H1.out w3 hd3)
      go_ret
      exact ⟨rfl, x4, hd3.but.set (p := ⟨T, j, none⟩) (by simp) _⟩
end
end Go.Proofs.YtjgclehghnmhnaaDoor
