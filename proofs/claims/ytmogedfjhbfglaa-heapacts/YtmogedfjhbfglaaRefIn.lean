/- Contract of the reference's in. -/
import Derived.Test.YtmogedfjhbfglaaRefOut
import Derived.Deep.CutBlock
namespace Go.Proofs.Ytmogedfjhbfglaa
open Go.RowKit
set_option linter.unusedSimpArgs false

theorem Reads.grown {w w' : World} {row : Option Nat} {b o : Nat} {c : Nat} {xs : List Int} (h : Reads w (some ⟨b, o, none⟩) c xs) (hg : w.grownBy w' row) (hr : row ≠ some b) : Reads w' (some ⟨b, o, none⟩) c xs := by
  rcases h with ⟨e, _⟩ | ⟨ad, e, hc⟩
  · cases e
  · refine .inr ⟨ad, e, fun j x hx => ?_⟩
    have h1 := hc j x hx
    have hb : (ad.add j).block = b := by cases e; rw [WideShapes.add_plain]
    refine (World.cell?_of_block (hg.block _ (World.block_lt_of_cell? w _ h1) ?_)).trans h1
    rw [hb]
    exact fun e => hr e.symm
theorem RowI.ways {w : World} {v : Value} {zs : List Int} (h : RowI w 0 v zs) : (v = .slice none 0 0 ∧ zs = []) ∨ ∃ g c, v = .slice (some ⟨g, 0, none⟩) zs.length c ∧ zs.length ≤ c ∧ IntsR w (some ⟨g, 0, none⟩) zs := by
  rcases h.2 with ⟨e, h0⟩ | ⟨g, cap, cur, e, _, _, hc, _⟩
  · exact .inl ⟨e, List.eq_nil_of_length_eq_zero h0⟩
  · rw [e] at h
    exact .inr ⟨g, cap, e, hc, h.at⟩
theorem parts_in {w : World} {g c i : Nat} {zs : List Int} (hi : i ≤ zs.length) (hz : IntsR w (some ⟨g, 0, none⟩) zs) (hc : zs.length ≤ c) {ad : Addr} (hd : ad = (if c = i then (⟨g, 0, none⟩ : Addr) else ⟨g, i, none⟩)) :
    Reads w (some ⟨g, 0, none⟩) c (zs.take i) ∧ Reads w (some ad) (c - i) (zs.drop i) := by
  refine ⟨.inr ⟨_, rfl, fun j y hy => ?_⟩, .inr ⟨_, rfl, fun j y hy => ?_⟩⟩
  · have hj : j < i := by have := (List.getElem?_eq_some_iff.1 hy).1; rw [List.length_take] at this; omega
    rw [List.getElem?_take_of_lt hj] at hy
    obtain ⟨g', e, hcc⟩ := hz j y hy
    cases e
    rw [WideShapes.add_plain, Nat.zero_add]
    exact hcc
  · rw [List.getElem?_drop] at hy
    have hj := (List.getElem?_eq_some_iff.1 hy).1
    rw [hd, if_neg (by omega), WideShapes.add_plain]
    obtain ⟨g', e, hcc⟩ := hz _ y hy
    cases e
    exact hcc

section
variable {w : World} {M N : Nat} {q : List Th} {vi vk : Value}

set_option maxHeartbeats 4000000 in
theorem rin_aux (h : RM w M N vi vk q) (hl : q.length < N) (id : Nat) (key : Int) (S0 : List Nat) (hS0 : S0 = rbs M vi vk) :
    Calls Try.prog 42 #[.pointer (some ⟨M, 0, none⟩), .int .i64 (id : Int), .int .i64 key] w fun e w' => e = .returned (.tuple #[]) ∧ ∃ vi' vk', RM w' M N vi' vk' (insq (id, key) q) ∧ Step S0 w (rbs M vi' vk') w' := by
  have hmx : Try.prog.follows .mixedOrders = true := by kernel_rfl
  have hN := h.n2
  have hq4 : q.length ≤ 4096 := by omega
  obtain ⟨ai, ci, rfl, hxi, -⟩ := h.si
  obtain ⟨ak, ck, rfl, hxk, -⟩ := h.sk
  have c1 := h.c1
  have c2 := h.c2
  go_enter Try.func42, Try.ntmps42
  go_upto_block 0 with fail
  go_cut [6] from 7 to 48 (fun s6 wx => ∃ i : Nat, i ≤ q.length ∧ s6 = .int .i64 i ∧ wx = w ∧ insq (id, key) q = q.take i ++ (id, key) :: q.drop i)
  case first =>
    go_wp2_with fail
    go_loopw [6] (fun v wr => ∃ i : Nat, i ≤ q.length ∧ v = .int .i64 i ∧ wr = w ∧ ∀ (j : Nat) (a : Th), j < i → q[j]? = some a → befB a (id, key) = true) (fun v _ => 4096 - (intOf v).toNat)
    case atStart => exact ⟨0, by omega, rfl, rfl, fun j a hj => by omega⟩
    case round =>
      obtain ⟨i, hi, rfl, hw, hb⟩ := hrel
      subst wr
      by_cases hlt : i < q.length
      · have hx : q[i]? = some q[i] := List.getElem?_eq_getElem hlt
        obtain ⟨gi, rfl, x1⟩ := hxi i _ (idsL_get hx)
        obtain ⟨gk, rfl, x2⟩ := hxk i _ (keysL_get hx)
        have hstop : befB q[i] (id, key) = false → insq (id, key) q = q.take i ++ (id, key) :: q.drop i := fun e => insq_at hb (fun a ha => by rw [hx] at ha; cases ha; exact e) hi
        have hgo : befB q[i] (id, key) = true → ∀ (j : Nat) (a : Th), j < i + 1 → q[j]? = some a → befB a (id, key) = true := fun e j a hj ha => by
          by_cases ej : j = i
          · subst ej
            rw [hx] at ha
            cases ha
            exact e
          · exact hb j a (by omega) ha
        have hlt' : (i : Int) < (q.length : Int) := by omega
        clear hx hb hxi hxk
        generalize q[i] = p at *
        obtain ⟨y, x⟩ := p
        dsimp only at *
        rcases Int.lt_trichotomy x key with hc | hc | hc
        · have hgo' := hgo (befB_iff.2 (.inl hc))
          clear hgo hstop
          go_wp2_with fail
          go_roundw
          case rel => exact ⟨i + 1, by omega, by simp, trivial, hgo'⟩
          case measure =>
            simp [intOf]
            omega
        · subst hc
          by_cases hy : y < id
          · have hgo' := hgo (befB_iff.2 (.inr ⟨rfl, hy⟩))
            have hy' : (y : Int) < (id : Int) := by omega
            clear hgo hstop
            go_wp2_with fail
            go_roundw
            case rel => exact ⟨i + 1, by omega, by simp, trivial, hgo'⟩
            case measure =>
              simp [intOf]
              omega
          · have hst' : Hid _ := hstop (by rw [← Bool.not_eq_true, befB_iff]; dsimp only; omega)
            have hy' : ¬ (y : Int) < (id : Int) := by omega
            clear hgo hstop
            go_wp2_with fail
            go_meet
            case rel => exact ⟨i, hi, rfl, rfl, hst'.out⟩
        · have hst' : Hid _ := hstop (by rw [← Bool.not_eq_true, befB_iff]; dsimp only; omega)
          have h1' : ¬ x < key := by omega
          have h2' : (x == key) = false := by simp; omega
          clear hgo hstop
          go_wp2_with fail
          go_meet
          case rel => exact ⟨i, hi, rfl, rfl, hst'.out⟩
      · obtain rfl : i = q.length := by omega
        have hst' : Hid (insq (id, key) q = q.take q.length ++ (id, key) :: q.drop q.length) := insq_at hb (fun a ha => by simp at ha) (Nat.le_refl _)
        clear hb
        go_wp2_with fail
        go_meet
        case rel => exact ⟨q.length, Nat.le_refl _, rfl, rfl, hst'.out⟩
  case rest =>
    clear c1 c2
    obtain ⟨i, hi, rfl, hwc, hins⟩ := hcut
    subst wc
    have HFIN : ∀ w' v1 v2, RT w' M N v1 v2 ((idsL q).take i ++ (id : Int) :: (idsL q).drop i) ((keysL q).take i ++ key :: (keysL q).drop i) → RM w' M N v1 v2 (insq (id, key) q) := fun w' v1 v2 hr => by
      have e1 : idsL (insq (id, key) q) = (idsL q).take i ++ (id : Int) :: (idsL q).drop i := by rw [hins]; simp [idsL]
      have e2 : keysL (insq (id, key) q) = (keysL q).take i ++ key :: (keysL q).drop i := by rw [hins]; simp [keysL]
      rw [← e1, ← e2] at hr
      exact hr.one h.n1 h.n2 (by rw [(insq_perm _ _).length_eq, List.length_cons]; omega)
    have wi := h.i.ways
    have wk := h.k.ways
    have h1 := h.two
    have hil : i ≤ (idsL q).length := by rw [idsL_len]; exact hi
    have hik : i ≤ (keysL q).length := by rw [keysL_len]; exact hi
    have hi4 : (idsL q).length ≤ 4096 := by rw [idsL_len]; exact hq4
    have hk4 : (keysL q).length ≤ 4096 := by rw [keysL_len]; exact hq4
    have HS0 : Hid (S0 = rbs M (.slice ai q.length ci) (.slice ak q.length ck)) := hS0
    clear hins h hxi hxk hS0
    generalize idsL q = ids at *
    generalize keysL q = ks at *
    generalize Value.slice ai q.length ci = vi at *
    generalize Value.slice ak q.length ck = vk at *
    clear hl hi hq4
    have hi0 : (0 : Int) ≤ (i : Int) := by omega
    go_upto_region 3 with fail
    go_cut [] from 49 to 69 (fun wx => ∃ v', RT wx M N v' vk (ids.take i ++ (id : Int) :: ids.drop i) ks ∧ Step S0 w (rbs M v' vk) wx)
    case first =>
      clear wk HFIN
      rcases wi with ⟨rfl, rfl⟩ | ⟨g, c, rfl, hcc, hz⟩
      · obtain rfl : i = 0 := by simpa using hil
        clear hil hik
        have R1 : Reads w none 0 [] := .inl ⟨rfl, rfl, rfl⟩
        have R2 : Reads w none 0 [] := .inl ⟨rfl, rfl, rfl⟩
        have L1 : Hid (([] : List Int).length = 0) := rfl
        have L2 : Hid (([] : List Int).length = 0) := rfl
        have HC := h1.c1
        have HF : ∀ w1, But [] w w1 → w1.frozen? ⟨M, 1, none⟩ = false := fun w1 hb => h1.fz hb 1
        have OW1 := (own_none w).drew
        have OW2 := ((own_none w).alloc (.cells #[.int .i64 (id : Int)] 3)).drew
        have OW3 : (((w.alloc (.cells #[.int .i64 (id : Int)] 3)).alloc (.cells #[] 3)).drew).ownsRow w.heap.size 3 1 (.slice (some ⟨w.heap.size + 1, 0, none⟩) 0 0) 0 (([] : List Int).map (Value.int .i64)) := by
          have := row_lower (own_none (w.alloc (.cells #[.int .i64 (id : Int)] 3))) (b := w.heap.size) (by simp)
          rw [World.size_alloc] at this
          exact this.drew
        have B1 : But [] w (w.alloc (.cells #[] 3)).drew := ((But.refl [] w).alloc _).drew
        have B2 : But [] w ((w.alloc (.cells #[] 3)).alloc (.cells #[.int .i64 (id : Int)] 3)).drew := (((But.refl [] w).alloc _).alloc _).drew
        have B3 : But [] w ((w.alloc (.cells #[.int .i64 (id : Int)] 3)).alloc (.cells #[] 3)).drew := (((But.refl [] w).alloc _).alloc _).drew
        have T2 : Reads ((w.alloc (.cells #[] 3)).alloc (.cells #[.int .i64 (id : Int)] 3)).drew (some ⟨w.heap.size + 1, 0, none⟩) 1 [(id : Int)] := by
          have := reads_one (w.alloc (.cells #[] 3)) (id : Int)
          rw [World.size_alloc] at this
          exact this
        have T3 : Reads ((w.alloc (.cells #[.int .i64 (id : Int)] 3)).alloc (.cells #[] 3)).drew (some ⟨w.heap.size, 0, none⟩) 1 [(id : Int)] := (reads_one w (id : Int)).but ((But.refl [] _).alloc _).drew
        refine wp_region_K 21 (fun w' => w'.cell? ⟨M, 1, none⟩ = some (.slice none 0 0)) hmx (by kernel_rfl) HC (fun hHeld hdep => ?_)
        refine wpAnyK_take (i := 0) (v := ?_) (some 49) rfl rfl hdep (by kernel_rfl) (fun _ _ _ h => h) (Or.inl ⟨by rfl, ?_⟩) hHeld ?_
        rotate_left
        · (intro w hSw; go_simp; all_goals with_reducible rfl)
        try simp only [Act.put, List.setIfInBounds_toArray, List.set_cons_zero, List.set_cons_succ]
        refine wpAnyK_take (i := 2) (v := ?_) (some 51) rfl rfl hdep (by kernel_rfl) (fun _ _ _ h => h) (Or.inl ⟨by rfl, ?_⟩) hHeld ?_
        rotate_left
        · (intro w hSw; go_simp; all_goals with_reducible rfl)
        try simp only [Act.put, List.setIfInBounds_toArray, List.set_cons_zero, List.set_cons_succ]
        refine wpAnyK_take (i := 3) (v := ?_) (some 52) rfl rfl hdep (by kernel_rfl) (fun _ _ _ h => h) (Or.inl ⟨by rfl, ?_⟩) hHeld ?_
        rotate_left
        · (intro w hSw; go_simp; all_goals with_reducible rfl)
        try simp only [Act.put, List.setIfInBounds_toArray, List.set_cons_zero, List.set_cons_succ]
        refine wpAnyK_take (i := 4) (v := ?_) (some 53) rfl rfl hdep (by kernel_rfl) (fun _ _ _ h => h) (Or.inl ⟨by rfl, ?_⟩) hHeld ?_
        rotate_left
        · (intro w hSw; go_simp; all_goals with_reducible rfl)
        try simp only [Act.put, List.setIfInBounds_toArray, List.set_cons_zero, List.set_cons_succ]
        refine wpAnyK_take (i := 5) (v := ?_) (some 54) rfl rfl hdep (by kernel_rfl) (fun _ _ _ h => h) (Or.inl ⟨by rfl, ?_⟩) hHeld ?_
        rotate_left
        · (intro w hSw; go_simp; all_goals with_reducible rfl)
        try simp only [Act.put, List.setIfInBounds_toArray, List.set_cons_zero, List.set_cons_succ]
        refine wpAnyK_take (i := 6) (v := ?_) (some 55) rfl rfl hdep (by kernel_rfl) (fun _ _ _ h => h) (Or.inl ⟨by rfl, ?_⟩) hHeld ?_
        rotate_left
        · (intro w hSw; go_simp; all_goals with_reducible rfl)
        try simp only [Act.put, List.setIfInBounds_toArray, List.set_cons_zero, List.set_cons_succ]
        refine wpAnyK_take (i := 7) (v := ?_) (some 56) rfl rfl hdep (by kernel_rfl) (fun _ _ _ h => h) (Or.inl ⟨by rfl, ?_⟩) hHeld ?_
        rotate_left
        · (intro w hSw; go_simp; all_goals with_reducible rfl)
        try simp only [Act.put, List.setIfInBounds_toArray, List.set_cons_zero, List.set_cons_succ]
        refine wpAnyK_take (i := 9) (v := ?_) (some 58) rfl rfl hdep (by kernel_rfl) (fun _ _ _ h => h) (Or.inl ⟨by rfl, ?_⟩) hHeld ?_
        rotate_left
        · (intro w hSw; go_simp; all_goals with_reducible rfl)
        try simp only [Act.put, List.setIfInBounds_toArray, List.set_cons_zero, List.set_cons_succ]
        refine wpAnyK_take (i := 12) (v := ?_) (some 61) rfl rfl hdep (by kernel_rfl) (fun _ _ _ h => h) (Or.inl ⟨by rfl, ?_⟩) hHeld ?_
        rotate_left
        · (intro w hSw; go_simp; all_goals with_reducible rfl)
        try simp only [Act.put, List.setIfInBounds_toArray, List.set_cons_zero, List.set_cons_succ]
        refine wpAnyK_take (i := 13) (v := ?_) (some 62) rfl rfl hdep (by kernel_rfl) (fun _ _ _ h => h) (Or.inl ⟨by rfl, ?_⟩) hHeld ?_
        rotate_left
        · (intro w hSw; go_simp; all_goals with_reducible rfl)
        try simp only [Act.put, List.setIfInBounds_toArray, List.set_cons_zero, List.set_cons_succ]
        refine wpAnyK_take (i := 14) (v := ?_) (some 63) rfl rfl hdep (by kernel_rfl) (fun _ _ _ h => h) (Or.inl ⟨by rfl, ?_⟩) hHeld ?_
        rotate_left
        · (intro w hSw; go_simp; all_goals with_reducible rfl)
        try simp only [Act.put, List.setIfInBounds_toArray, List.set_cons_zero, List.set_cons_succ]
        refine wpAnyK_take (i := 15) (v := ?_) (some 64) rfl rfl hdep (by kernel_rfl) (fun _ _ _ h => h) (Or.inl ⟨by rfl, ?_⟩) hHeld ?_
        rotate_left
        · (intro w hSw; go_simp; all_goals with_reducible rfl)
        try simp only [Act.put, List.setIfInBounds_toArray, List.set_cons_zero, List.set_cons_succ]
        refine wpAnyK_take (i := 16) (v := ?_) (some 65) rfl rfl hdep (by kernel_rfl) (fun _ _ _ h => h) (Or.inl ⟨by rfl, ?_⟩) hHeld ?_
        rotate_left
        · (intro w hSw; go_simp; all_goals with_reducible rfl)
        try simp only [Act.put, List.setIfInBounds_toArray, List.set_cons_zero, List.set_cons_succ]
        refine wpAnyK_take (i := 17) (v := ?_) (some 66) rfl rfl hdep (by kernel_rfl) (fun _ _ _ h => h) (Or.inl ⟨by rfl, ?_⟩) hHeld ?_
        rotate_left
        · (intro w hSw; go_simp; all_goals with_reducible rfl)
        try simp only [Act.put, List.setIfInBounds_toArray, List.set_cons_zero, List.set_cons_succ]
        refine wpAnyK_two (i := 1) (j := 10) (by kernel_rfl) rfl rfl (fun K hK => ?_) (fun K hK => ?_)
        · go_simp
          refine hK.out _ _ (fun _ => B1.cell HC) ?_
          clear hK K
          try simp only [Act.put, List.setIfInBounds_toArray, List.set_cons_zero, List.set_cons_succ]
          refine wpAnyK_two (i := 8) (j := 10) (by kernel_rfl) rfl rfl (fun K hK => ?_) (fun K hK => ?_)
          · refine step_app rfl (.tmp 50) (.tmp 56) rfl w.heap.size _ 0 [] rfl OW1 _ _ _ ([] : List Int) rfl L1.out (R1.but B1) (by omega) (by simp [World.drew] <;> omega) ?_
            intro v2 w2 ho2 hg2
            rw [Nat.zero_add, List.nil_append] at ho2
            have hb2 : But [] w w2 := B1.grown hg2 (fun k e => by cases e; simp)
            obtain ⟨sa2, sc2, rfl⟩ := own_shape ho2
            refine hK.out _ _ (fun _ => hb2.cell HC) ?_
            clear hK K
            try simp only [Act.put, List.setIfInBounds_toArray, List.set_cons_zero, List.set_cons_succ]
            refine wpAnyK_one (i := 10) (by kernel_rfl) rfl (fun K hK => ?_)
            go_simp
            refine hK.out _ _ (fun _ => (hb2.alloc _).cell HC) ?_
            clear hK K
            try simp only [Act.put, List.setIfInBounds_toArray, List.set_cons_zero, List.set_cons_succ]
            refine wpAnyK_one (i := 11) (by kernel_rfl) rfl (fun K hK => ?_)
            refine step_app rfl (.tmp 57) (.tmp 59) rfl w.heap.size _ 0 ([] : List Int) rfl (ho2.alloc _) _ _ _ [(id : Int)] rfl rfl (reads_one w2 (id : Int)) (by omega) (by have := hb2.size; first | omega | (simp; omega)) ?_
            intro v3 w3 ho3 hg3
            have hb3 : But [] w w3 := (hb2.alloc _).grown hg3 (fun k e => (ho2.lt k e).1)
            obtain ⟨sa3, sc3, rfl⟩ := own_shape ho3
            refine hK.out _ _ (fun _ => hb3.cell HC) ?_
            clear hK K
            try simp only [Act.put, List.setIfInBounds_toArray, List.set_cons_zero, List.set_cons_succ]
            refine wpAnyK_one (i := 18) (by kernel_rfl) rfl (fun K hK => ?_)
            refine step_app rfl (.tmp 60) (.tmp 66) rfl w.heap.size _ (0 + 1) (([] : List Int) ++ [(id : Int)]) rfl ho3 _ _ _ ([] : List Int) rfl L2.out (R2.but hb3) (by omega) (by have := hb3.size; omega) ?_
            intro v4 w4 ho4 hg4
            have hb4 : But [] w w4 := hb3.grown hg4 (fun k e => (ho3.lt k e).1)
            obtain ⟨sa4, sc4, rfl⟩ := own_shape ho4
            have hc4 := hb4.cell HC
            have hf4 := HF _ hb4
            refine hK.out _ _ (fun _ => hc4) ?_
            clear hK K
            try simp only [Act.put, List.setIfInBounds_toArray, List.set_cons_zero, List.set_cons_succ]
            refine wpAnyK_take (i := 19) (v := ?_) (some 68) rfl rfl hdep (by kernel_rfl) (fun _ _ _ h => h) (Or.inl ⟨by rfl, ?_⟩) hc4 ?_
            rotate_left
            · (intro w hSw; go_simp; all_goals with_reducible rfl)
            try simp only [Act.put, List.setIfInBounds_toArray, List.set_cons_zero, List.set_cons_succ]
            refine wpAnyK_take (i := 20) (v := ?_) (some 69) rfl rfl hdep (by kernel_rfl) (fun _ _ _ h => h) (Or.inl ⟨by rfl, ?_⟩) hc4 ?_
            rotate_left
            · (intro w hSw; go_simp; all_goals with_reducible rfl)
            try simp only [Act.put, List.setIfInBounds_toArray, List.set_cons_zero, List.set_cons_succ]
            refine wpAnyK_one (i := 21) (by kernel_rfl) rfl (fun K hK => ?_)
            go_simp
            refine hK.out _ _ (fun h => absurd rfl h) ?_
            clear hK K
            try simp only [Act.put, List.setIfInBounds_toArray, List.set_cons_zero, List.set_cons_succ]
            refine wpAnyK_done (by kernel_rfl) ?_
            go_wp2_with fail
            go_meet
            case rel =>
              change w4.ownsRow _ 3 1 _ _ (([(id : Int)] : List Int).map (Value.int .i64)) at ho4
              obtain ⟨r1, r2⟩ := h1.setI hb4 (xs := [(id : Int)]) ho4
              rw [HS0.out]
              exact ⟨_, r1, r2⟩
          · go_simp
            refine hK.out _ _ (fun _ => B2.cell HC) ?_
            clear hK K
            try simp only [Act.put, List.setIfInBounds_toArray, List.set_cons_zero, List.set_cons_succ]
            refine wpAnyK_one (i := 8) (by kernel_rfl) rfl (fun K hK => ?_)
            refine step_app rfl (.tmp 50) (.tmp 56) rfl w.heap.size _ 0 [] rfl OW2 _ _ _ ([] : List Int) rfl L1.out (R1.but B2) (by omega) (by simp [World.drew] <;> omega) ?_
            intro v2 w2 ho2 hg2
            rw [Nat.zero_add, List.nil_append] at ho2
            have hb2 : But [] w w2 := B2.grown hg2 (fun k e => by cases e; simp)
            have TT := T2.grown hg2 (show some w.heap.size ≠ some (w.heap.size + 1) by simp)
            obtain ⟨sa2, sc2, rfl⟩ := own_shape ho2
            refine hK.out _ _ (fun _ => hb2.cell HC) ?_
            clear hK K
            try simp only [Act.put, List.setIfInBounds_toArray, List.set_cons_zero, List.set_cons_succ]
            refine wpAnyK_one (i := 11) (by kernel_rfl) rfl (fun K hK => ?_)
            refine step_app rfl (.tmp 57) (.tmp 59) rfl w.heap.size _ 0 ([] : List Int) rfl ho2 _ _ _ [(id : Int)] rfl rfl TT (by omega) (by have := hb2.size; first | omega | (simp; omega)) ?_
            intro v3 w3 ho3 hg3
            have hb3 : But [] w w3 := hb2.grown hg3 (fun k e => (ho2.lt k e).1)
            obtain ⟨sa3, sc3, rfl⟩ := own_shape ho3
            refine hK.out _ _ (fun _ => hb3.cell HC) ?_
            clear hK K
            try simp only [Act.put, List.setIfInBounds_toArray, List.set_cons_zero, List.set_cons_succ]
            refine wpAnyK_one (i := 18) (by kernel_rfl) rfl (fun K hK => ?_)
            refine step_app rfl (.tmp 60) (.tmp 66) rfl w.heap.size _ (0 + 1) (([] : List Int) ++ [(id : Int)]) rfl ho3 _ _ _ ([] : List Int) rfl L2.out (R2.but hb3) (by omega) (by have := hb3.size; omega) ?_
            intro v4 w4 ho4 hg4
            have hb4 : But [] w w4 := hb3.grown hg4 (fun k e => (ho3.lt k e).1)
            obtain ⟨sa4, sc4, rfl⟩ := own_shape ho4
            have hc4 := hb4.cell HC
            have hf4 := HF _ hb4
            refine hK.out _ _ (fun _ => hc4) ?_
            clear hK K
            try simp only [Act.put, List.setIfInBounds_toArray, List.set_cons_zero, List.set_cons_succ]
            refine wpAnyK_take (i := 19) (v := ?_) (some 68) rfl rfl hdep (by kernel_rfl) (fun _ _ _ h => h) (Or.inl ⟨by rfl, ?_⟩) hc4 ?_
            rotate_left
            · (intro w hSw; go_simp; all_goals with_reducible rfl)
            try simp only [Act.put, List.setIfInBounds_toArray, List.set_cons_zero, List.set_cons_succ]
            refine wpAnyK_take (i := 20) (v := ?_) (some 69) rfl rfl hdep (by kernel_rfl) (fun _ _ _ h => h) (Or.inl ⟨by rfl, ?_⟩) hc4 ?_
            rotate_left
            · (intro w hSw; go_simp; all_goals with_reducible rfl)
            try simp only [Act.put, List.setIfInBounds_toArray, List.set_cons_zero, List.set_cons_succ]
            refine wpAnyK_one (i := 21) (by kernel_rfl) rfl (fun K hK => ?_)
            go_simp
            refine hK.out _ _ (fun h => absurd rfl h) ?_
            clear hK K
            try simp only [Act.put, List.setIfInBounds_toArray, List.set_cons_zero, List.set_cons_succ]
            refine wpAnyK_done (by kernel_rfl) ?_
            go_wp2_with fail
            go_meet
            case rel =>
              change w4.ownsRow _ 3 1 _ _ (([(id : Int)] : List Int).map (Value.int .i64)) at ho4
              obtain ⟨r1, r2⟩ := h1.setI hb4 (xs := [(id : Int)]) ho4
              rw [HS0.out]
              exact ⟨_, r1, r2⟩
        · go_simp
          refine hK.out _ _ (fun _ => (((But.refl [] w).alloc _).drew).cell HC) ?_
          clear hK K
          try simp only [Act.put, List.setIfInBounds_toArray, List.set_cons_zero, List.set_cons_succ]
          refine wpAnyK_one (i := 1) (by kernel_rfl) rfl (fun K hK => ?_)
          go_simp
          refine hK.out _ _ (fun _ => B3.cell HC) ?_
          clear hK K
          try simp only [Act.put, List.setIfInBounds_toArray, List.set_cons_zero, List.set_cons_succ]
          refine wpAnyK_one (i := 8) (by kernel_rfl) rfl (fun K hK => ?_)
          refine step_app rfl (.tmp 50) (.tmp 56) rfl w.heap.size _ 0 [] rfl OW3 _ _ _ ([] : List Int) rfl L1.out (R1.but B3) (by omega) (by simp [World.drew] <;> omega) ?_
          intro v2 w2 ho2 hg2
          rw [Nat.zero_add, List.nil_append] at ho2
          have hb2 : But [] w w2 := B3.grown hg2 (fun k e => by cases e; simp)
          have TT := T3.grown hg2 (show some (w.heap.size + 1) ≠ some w.heap.size by simp)
          obtain ⟨sa2, sc2, rfl⟩ := own_shape ho2
          refine hK.out _ _ (fun _ => hb2.cell HC) ?_
          clear hK K
          try simp only [Act.put, List.setIfInBounds_toArray, List.set_cons_zero, List.set_cons_succ]
          refine wpAnyK_one (i := 11) (by kernel_rfl) rfl (fun K hK => ?_)
          refine step_app rfl (.tmp 57) (.tmp 59) rfl w.heap.size _ 0 ([] : List Int) rfl ho2 _ _ _ [(id : Int)] rfl rfl TT (by omega) (by have := hb2.size; first | omega | (simp; omega)) ?_
          intro v3 w3 ho3 hg3
          have hb3 : But [] w w3 := hb2.grown hg3 (fun k e => (ho2.lt k e).1)
          obtain ⟨sa3, sc3, rfl⟩ := own_shape ho3
          refine hK.out _ _ (fun _ => hb3.cell HC) ?_
          clear hK K
          try simp only [Act.put, List.setIfInBounds_toArray, List.set_cons_zero, List.set_cons_succ]
          refine wpAnyK_one (i := 18) (by kernel_rfl) rfl (fun K hK => ?_)
          refine step_app rfl (.tmp 60) (.tmp 66) rfl w.heap.size _ (0 + 1) (([] : List Int) ++ [(id : Int)]) rfl ho3 _ _ _ ([] : List Int) rfl L2.out (R2.but hb3) (by omega) (by have := hb3.size; omega) ?_
          intro v4 w4 ho4 hg4
          have hb4 : But [] w w4 := hb3.grown hg4 (fun k e => (ho3.lt k e).1)
          obtain ⟨sa4, sc4, rfl⟩ := own_shape ho4
          have hc4 := hb4.cell HC
          have hf4 := HF _ hb4
          refine hK.out _ _ (fun _ => hc4) ?_
          clear hK K
          try simp only [Act.put, List.setIfInBounds_toArray, List.set_cons_zero, List.set_cons_succ]
          refine wpAnyK_take (i := 19) (v := ?_) (some 68) rfl rfl hdep (by kernel_rfl) (fun _ _ _ h => h) (Or.inl ⟨by rfl, ?_⟩) hc4 ?_
          rotate_left
          · (intro w hSw; go_simp; all_goals with_reducible rfl)
          try simp only [Act.put, List.setIfInBounds_toArray, List.set_cons_zero, List.set_cons_succ]
          refine wpAnyK_take (i := 20) (v := ?_) (some 69) rfl rfl hdep (by kernel_rfl) (fun _ _ _ h => h) (Or.inl ⟨by rfl, ?_⟩) hc4 ?_
          rotate_left
          · (intro w hSw; go_simp; all_goals with_reducible rfl)
          try simp only [Act.put, List.setIfInBounds_toArray, List.set_cons_zero, List.set_cons_succ]
          refine wpAnyK_one (i := 21) (by kernel_rfl) rfl (fun K hK => ?_)
          go_simp
          refine hK.out _ _ (fun h => absurd rfl h) ?_
          clear hK K
          try simp only [Act.put, List.setIfInBounds_toArray, List.set_cons_zero, List.set_cons_succ]
          refine wpAnyK_done (by kernel_rfl) ?_
          go_wp2_with fail
          go_meet
          case rel =>
            change w4.ownsRow _ 3 1 _ _ (([(id : Int)] : List Int).map (Value.int .i64)) at ho4
            obtain ⟨r1, r2⟩ := h1.setI hb4 (xs := [(id : Int)]) ho4
            rw [HS0.out]
            exact ⟨_, r1, r2⟩
      · clear hik
        obtain ⟨ad, hd⟩ : ∃ ad, ad = (if c = i then (⟨g, 0, none⟩ : Addr) else ⟨g, i, none⟩) := ⟨_, rfl⟩
        obtain ⟨R1, R2⟩ := parts_in hil hz hcc hd
        have hif : (if c = i then some (⟨g, 0, none⟩ : Addr) else some ⟨g, i, none⟩) = some ad := by rw [hd]; split <;> rfl
        clear hd
        have L1 : Hid ((ids.take i).length = i) := by show (ids.take i).length = i; rw [List.length_take]; omega
        have L2 : Hid ((ids.drop i).length = ids.length - i) := by show (ids.drop i).length = ids.length - i; rw [List.length_drop]
        have hic : (i : Int) ≤ (c : Int) := by omega
        have hin : (i : Int) ≤ (ids.length : Int) := by omega
        have hnc : (ids.length : Int) ≤ (c : Int) := by omega
        have HC := h1.c1
        have HF : ∀ w1, But [] w w1 → w1.frozen? ⟨M, 1, none⟩ = false := fun w1 hb => h1.fz hb 1
        have OW1 := (own_none w).drew
        have OW2 := ((own_none w).alloc (.cells #[.int .i64 (id : Int)] 3)).drew
        have OW3 : (((w.alloc (.cells #[.int .i64 (id : Int)] 3)).alloc (.cells #[] 3)).drew).ownsRow w.heap.size 3 1 (.slice (some ⟨w.heap.size + 1, 0, none⟩) 0 0) 0 (([] : List Int).map (Value.int .i64)) := by
          have := row_lower (own_none (w.alloc (.cells #[.int .i64 (id : Int)] 3))) (b := w.heap.size) (by simp)
          rw [World.size_alloc] at this
          exact this.drew
        have B1 : But [] w (w.alloc (.cells #[] 3)).drew := ((But.refl [] w).alloc _).drew
        have B2 : But [] w ((w.alloc (.cells #[] 3)).alloc (.cells #[.int .i64 (id : Int)] 3)).drew := (((But.refl [] w).alloc _).alloc _).drew
        have B3 : But [] w ((w.alloc (.cells #[.int .i64 (id : Int)] 3)).alloc (.cells #[] 3)).drew := (((But.refl [] w).alloc _).alloc _).drew
        have T2 : Reads ((w.alloc (.cells #[] 3)).alloc (.cells #[.int .i64 (id : Int)] 3)).drew (some ⟨w.heap.size + 1, 0, none⟩) 1 [(id : Int)] := by
          have := reads_one (w.alloc (.cells #[] 3)) (id : Int)
          rw [World.size_alloc] at this
          exact this
        have T3 : Reads ((w.alloc (.cells #[.int .i64 (id : Int)] 3)).alloc (.cells #[] 3)).drew (some ⟨w.heap.size, 0, none⟩) 1 [(id : Int)] := (reads_one w (id : Int)).but ((But.refl [] _).alloc _).drew
        refine wp_region_K 21 (fun w' => w'.cell? ⟨M, 1, none⟩ = some (.slice (some ⟨g, 0, none⟩) ids.length c)) hmx (by kernel_rfl) HC (fun hHeld hdep => ?_)
        refine wpAnyK_take (i := 0) (v := ?_) (some 49) rfl rfl hdep (by kernel_rfl) (fun _ _ _ h => h) (Or.inl ⟨by rfl, ?_⟩) hHeld ?_
        rotate_left
        · (intro w hSw; go_simp; all_goals with_reducible rfl)
        try simp only [Act.put, List.setIfInBounds_toArray, List.set_cons_zero, List.set_cons_succ]
        refine wpAnyK_take (i := 2) (v := ?_) (some 51) rfl rfl hdep (by kernel_rfl) (fun _ _ _ h => h) (Or.inl ⟨by rfl, ?_⟩) hHeld ?_
        rotate_left
        · (intro w hSw; go_simp; all_goals with_reducible rfl)
        try simp only [Act.put, List.setIfInBounds_toArray, List.set_cons_zero, List.set_cons_succ]
        refine wpAnyK_take (i := 3) (v := ?_) (some 52) rfl rfl hdep (by kernel_rfl) (fun _ _ _ h => h) (Or.inl ⟨by rfl, ?_⟩) hHeld ?_
        rotate_left
        · (intro w hSw; go_simp; all_goals with_reducible rfl)
        try simp only [Act.put, List.setIfInBounds_toArray, List.set_cons_zero, List.set_cons_succ]
        refine wpAnyK_take (i := 4) (v := ?_) (some 53) rfl rfl hdep (by kernel_rfl) (fun _ _ _ h => h) (Or.inl ⟨by rfl, ?_⟩) hHeld ?_
        rotate_left
        · (intro w hSw; go_simp; all_goals with_reducible rfl)
        try simp only [Act.put, List.setIfInBounds_toArray, List.set_cons_zero, List.set_cons_succ]
        refine wpAnyK_take (i := 5) (v := ?_) (some 54) rfl rfl hdep (by kernel_rfl) (fun _ _ _ h => h) (Or.inl ⟨by rfl, ?_⟩) hHeld ?_
        rotate_left
        · (intro w hSw; go_simp; all_goals with_reducible rfl)
        try simp only [Act.put, List.setIfInBounds_toArray, List.set_cons_zero, List.set_cons_succ]
        refine wpAnyK_take (i := 6) (v := ?_) (some 55) rfl rfl hdep (by kernel_rfl) (fun _ _ _ h => h) (Or.inl ⟨by rfl, ?_⟩) hHeld ?_
        rotate_left
        · (intro w hSw; go_simp; all_goals with_reducible rfl)
        try simp only [Act.put, List.setIfInBounds_toArray, List.set_cons_zero, List.set_cons_succ]
        refine wpAnyK_take (i := 7) (v := ?_) (some 56) rfl rfl hdep (by kernel_rfl) (fun _ _ _ h => h) (Or.inl ⟨by rfl, ?_⟩) hHeld ?_
        rotate_left
        · (intro w hSw; go_simp; all_goals with_reducible rfl)
        try simp only [Act.put, List.setIfInBounds_toArray, List.set_cons_zero, List.set_cons_succ]
        refine wpAnyK_take (i := 9) (v := ?_) (some 58) rfl rfl hdep (by kernel_rfl) (fun _ _ _ h => h) (Or.inl ⟨by rfl, ?_⟩) hHeld ?_
        rotate_left
        · (intro w hSw; go_simp; all_goals with_reducible rfl)
        try simp only [Act.put, List.setIfInBounds_toArray, List.set_cons_zero, List.set_cons_succ]
        refine wpAnyK_take (i := 12) (v := ?_) (some 61) rfl rfl hdep (by kernel_rfl) (fun _ _ _ h => h) (Or.inl ⟨by rfl, ?_⟩) hHeld ?_
        rotate_left
        · (intro w hSw; go_simp; all_goals with_reducible rfl)
        try simp only [Act.put, List.setIfInBounds_toArray, List.set_cons_zero, List.set_cons_succ]
        refine wpAnyK_take (i := 13) (v := ?_) (some 62) rfl rfl hdep (by kernel_rfl) (fun _ _ _ h => h) (Or.inl ⟨by rfl, ?_⟩) hHeld ?_
        rotate_left
        · (intro w hSw; go_simp; all_goals with_reducible rfl)
        try simp only [Act.put, List.setIfInBounds_toArray, List.set_cons_zero, List.set_cons_succ]
        refine wpAnyK_take (i := 14) (v := ?_) (some 63) rfl rfl hdep (by kernel_rfl) (fun _ _ _ h => h) (Or.inl ⟨by rfl, ?_⟩) hHeld ?_
        rotate_left
        · (intro w hSw; go_simp; all_goals with_reducible rfl)
        try simp only [Act.put, List.setIfInBounds_toArray, List.set_cons_zero, List.set_cons_succ]
        refine wpAnyK_take (i := 15) (v := ?_) (some 64) rfl rfl hdep (by kernel_rfl) (fun _ _ _ h => h) (Or.inl ⟨by rfl, ?_⟩) hHeld ?_
        rotate_left
        · (intro w hSw; go_simp; all_goals with_reducible rfl)
        try simp only [Act.put, List.setIfInBounds_toArray, List.set_cons_zero, List.set_cons_succ]
        refine wpAnyK_take (i := 16) (v := ?_) (some 65) rfl rfl hdep (by kernel_rfl) (fun _ _ _ h => h) (Or.inl ⟨by rfl, ?_⟩) hHeld ?_
        rotate_left
        · (intro w hSw; go_simp; all_goals with_reducible rfl)
        try simp only [Act.put, List.setIfInBounds_toArray, List.set_cons_zero, List.set_cons_succ]
        refine wpAnyK_take (i := 17) (v := ?_) (some 66) rfl rfl hdep (by kernel_rfl) (fun _ _ _ h => h) (Or.inl ⟨by rfl, ?_⟩) hHeld ?_
        rotate_left
        · (intro w hSw; go_simp; all_goals with_reducible rfl)
        try simp only [Act.put, List.setIfInBounds_toArray, List.set_cons_zero, List.set_cons_succ]
        refine wpAnyK_two (i := 1) (j := 10) (by kernel_rfl) rfl rfl (fun K hK => ?_) (fun K hK => ?_)
        · go_simp
          refine hK.out _ _ (fun _ => B1.cell HC) ?_
          clear hK K
          try simp only [Act.put, List.setIfInBounds_toArray, List.set_cons_zero, List.set_cons_succ]
          refine wpAnyK_two (i := 8) (j := 10) (by kernel_rfl) rfl rfl (fun K hK => ?_) (fun K hK => ?_)
          · refine step_app rfl (.tmp 50) (.tmp 56) rfl w.heap.size _ 0 [] rfl OW1 _ _ _ (ids.take i) rfl L1.out (R1.but B1) (by omega) (by simp [World.drew] <;> omega) ?_
            intro v2 w2 ho2 hg2
            rw [Nat.zero_add, List.nil_append] at ho2
            have hb2 : But [] w w2 := B1.grown hg2 (fun k e => by cases e; simp)
            obtain ⟨sa2, sc2, rfl⟩ := own_shape ho2
            refine hK.out _ _ (fun _ => hb2.cell HC) ?_
            clear hK K
            try simp only [Act.put, List.setIfInBounds_toArray, List.set_cons_zero, List.set_cons_succ]
            refine wpAnyK_one (i := 10) (by kernel_rfl) rfl (fun K hK => ?_)
            go_simp
            refine hK.out _ _ (fun _ => (hb2.alloc _).cell HC) ?_
            clear hK K
            try simp only [Act.put, List.setIfInBounds_toArray, List.set_cons_zero, List.set_cons_succ]
            refine wpAnyK_one (i := 11) (by kernel_rfl) rfl (fun K hK => ?_)
            refine step_app rfl (.tmp 57) (.tmp 59) rfl w.heap.size _ i (ids.take i) rfl (ho2.alloc _) _ _ _ [(id : Int)] rfl rfl (reads_one w2 (id : Int)) (by omega) (by have := hb2.size; first | omega | (simp; omega)) ?_
            intro v3 w3 ho3 hg3
            have hb3 : But [] w w3 := (hb2.alloc _).grown hg3 (fun k e => (ho2.lt k e).1)
            obtain ⟨sa3, sc3, rfl⟩ := own_shape ho3
            refine hK.out _ _ (fun _ => hb3.cell HC) ?_
            clear hK K
            try simp only [Act.put, List.setIfInBounds_toArray, List.set_cons_zero, List.set_cons_succ]
            refine wpAnyK_one (i := 18) (by kernel_rfl) rfl (fun K hK => ?_)
            refine step_app rfl (.tmp 60) (.tmp 66) rfl w.heap.size _ (i + 1) ((ids.take i) ++ [(id : Int)]) rfl ho3 _ _ _ (ids.drop i) rfl L2.out (R2.but hb3) (by omega) (by have := hb3.size; omega) ?_
            intro v4 w4 ho4 hg4
            have hb4 : But [] w w4 := hb3.grown hg4 (fun k e => (ho3.lt k e).1)
            obtain ⟨sa4, sc4, rfl⟩ := own_shape ho4
            have hc4 := hb4.cell HC
            have hf4 := HF _ hb4
            refine hK.out _ _ (fun _ => hc4) ?_
            clear hK K
            try simp only [Act.put, List.setIfInBounds_toArray, List.set_cons_zero, List.set_cons_succ]
            refine wpAnyK_take (i := 19) (v := ?_) (some 68) rfl rfl hdep (by kernel_rfl) (fun _ _ _ h => h) (Or.inl ⟨by rfl, ?_⟩) hc4 ?_
            rotate_left
            · (intro w hSw; go_simp; all_goals with_reducible rfl)
            try simp only [Act.put, List.setIfInBounds_toArray, List.set_cons_zero, List.set_cons_succ]
            refine wpAnyK_take (i := 20) (v := ?_) (some 69) rfl rfl hdep (by kernel_rfl) (fun _ _ _ h => h) (Or.inl ⟨by rfl, ?_⟩) hc4 ?_
            rotate_left
            · (intro w hSw; go_simp; all_goals with_reducible rfl)
            try simp only [Act.put, List.setIfInBounds_toArray, List.set_cons_zero, List.set_cons_succ]
            refine wpAnyK_one (i := 21) (by kernel_rfl) rfl (fun K hK => ?_)
            go_simp
            refine hK.out _ _ (fun h => absurd rfl h) ?_
            clear hK K
            try simp only [Act.put, List.setIfInBounds_toArray, List.set_cons_zero, List.set_cons_succ]
            refine wpAnyK_done (by kernel_rfl) ?_
            go_wp2_with fail
            go_meet
            case rel =>
              have e : ids.take i ++ [(id : Int)] ++ ids.drop i = ids.take i ++ (id : Int) :: ids.drop i := by simp
              rw [e] at ho4
              have hle : (ids.take i ++ (id : Int) :: ids.drop i).length = i + 1 + (ids.length - i) := by simp; omega
              obtain ⟨r1, r2⟩ := h1.setI hb4 (v' := .slice sa4 (i + 1 + (ids.length - i)) sc4) (xs := ids.take i ++ (id : Int) :: ids.drop i) (by unfold RowI; rw [hle]; exact ho4)
              rw [HS0.out]
              exact ⟨_, r1, r2⟩
          · go_simp
            refine hK.out _ _ (fun _ => B2.cell HC) ?_
            clear hK K
            try simp only [Act.put, List.setIfInBounds_toArray, List.set_cons_zero, List.set_cons_succ]
            refine wpAnyK_one (i := 8) (by kernel_rfl) rfl (fun K hK => ?_)
            refine step_app rfl (.tmp 50) (.tmp 56) rfl w.heap.size _ 0 [] rfl OW2 _ _ _ (ids.take i) rfl L1.out (R1.but B2) (by omega) (by simp [World.drew] <;> omega) ?_
            intro v2 w2 ho2 hg2
            rw [Nat.zero_add, List.nil_append] at ho2
            have hb2 : But [] w w2 := B2.grown hg2 (fun k e => by cases e; simp)
            have TT := T2.grown hg2 (show some w.heap.size ≠ some (w.heap.size + 1) by simp)
            obtain ⟨sa2, sc2, rfl⟩ := own_shape ho2
            refine hK.out _ _ (fun _ => hb2.cell HC) ?_
            clear hK K
            try simp only [Act.put, List.setIfInBounds_toArray, List.set_cons_zero, List.set_cons_succ]
            refine wpAnyK_one (i := 11) (by kernel_rfl) rfl (fun K hK => ?_)
            refine step_app rfl (.tmp 57) (.tmp 59) rfl w.heap.size _ i (ids.take i) rfl ho2 _ _ _ [(id : Int)] rfl rfl TT (by omega) (by have := hb2.size; first | omega | (simp; omega)) ?_
            intro v3 w3 ho3 hg3
            have hb3 : But [] w w3 := hb2.grown hg3 (fun k e => (ho2.lt k e).1)
            obtain ⟨sa3, sc3, rfl⟩ := own_shape ho3
            refine hK.out _ _ (fun _ => hb3.cell HC) ?_
            clear hK K
            try simp only [Act.put, List.setIfInBounds_toArray, List.set_cons_zero, List.set_cons_succ]
            refine wpAnyK_one (i := 18) (by kernel_rfl) rfl (fun K hK => ?_)
            refine step_app rfl (.tmp 60) (.tmp 66) rfl w.heap.size _ (i + 1) ((ids.take i) ++ [(id : Int)]) rfl ho3 _ _ _ (ids.drop i) rfl L2.out (R2.but hb3) (by omega) (by have := hb3.size; omega) ?_
            intro v4 w4 ho4 hg4
            have hb4 : But [] w w4 := hb3.grown hg4 (fun k e => (ho3.lt k e).1)
            obtain ⟨sa4, sc4, rfl⟩ := own_shape ho4
            have hc4 := hb4.cell HC
            have hf4 := HF _ hb4
            refine hK.out _ _ (fun _ => hc4) ?_
            clear hK K
            try simp only [Act.put, List.setIfInBounds_toArray, List.set_cons_zero, List.set_cons_succ]
            refine wpAnyK_take (i := 19) (v := ?_) (some 68) rfl rfl hdep (by kernel_rfl) (fun _ _ _ h => h) (Or.inl ⟨by rfl, ?_⟩) hc4 ?_
            rotate_left
            · (intro w hSw; go_simp; all_goals with_reducible rfl)
            try simp only [Act.put, List.setIfInBounds_toArray, List.set_cons_zero, List.set_cons_succ]
            refine wpAnyK_take (i := 20) (v := ?_) (some 69) rfl rfl hdep (by kernel_rfl) (fun _ _ _ h => h) (Or.inl ⟨by rfl, ?_⟩) hc4 ?_
            rotate_left
            · (intro w hSw; go_simp; all_goals with_reducible rfl)
            try simp only [Act.put, List.setIfInBounds_toArray, List.set_cons_zero, List.set_cons_succ]
            refine wpAnyK_one (i := 21) (by kernel_rfl) rfl (fun K hK => ?_)
            go_simp
            refine hK.out _ _ (fun h => absurd rfl h) ?_
            clear hK K
            try simp only [Act.put, List.setIfInBounds_toArray, List.set_cons_zero, List.set_cons_succ]
            refine wpAnyK_done (by kernel_rfl) ?_
            go_wp2_with fail
            go_meet
            case rel =>
              have e : ids.take i ++ [(id : Int)] ++ ids.drop i = ids.take i ++ (id : Int) :: ids.drop i := by simp
              rw [e] at ho4
              have hle : (ids.take i ++ (id : Int) :: ids.drop i).length = i + 1 + (ids.length - i) := by simp; omega
              obtain ⟨r1, r2⟩ := h1.setI hb4 (v' := .slice sa4 (i + 1 + (ids.length - i)) sc4) (xs := ids.take i ++ (id : Int) :: ids.drop i) (by unfold RowI; rw [hle]; exact ho4)
              rw [HS0.out]
              exact ⟨_, r1, r2⟩
        · go_simp
          refine hK.out _ _ (fun _ => (((But.refl [] w).alloc _).drew).cell HC) ?_
          clear hK K
          try simp only [Act.put, List.setIfInBounds_toArray, List.set_cons_zero, List.set_cons_succ]
          refine wpAnyK_one (i := 1) (by kernel_rfl) rfl (fun K hK => ?_)
          go_simp
          refine hK.out _ _ (fun _ => B3.cell HC) ?_
          clear hK K
          try simp only [Act.put, List.setIfInBounds_toArray, List.set_cons_zero, List.set_cons_succ]
          refine wpAnyK_one (i := 8) (by kernel_rfl) rfl (fun K hK => ?_)
          refine step_app rfl (.tmp 50) (.tmp 56) rfl w.heap.size _ 0 [] rfl OW3 _ _ _ (ids.take i) rfl L1.out (R1.but B3) (by omega) (by simp [World.drew] <;> omega) ?_
          intro v2 w2 ho2 hg2
          rw [Nat.zero_add, List.nil_append] at ho2
          have hb2 : But [] w w2 := B3.grown hg2 (fun k e => by cases e; simp)
          have TT := T3.grown hg2 (show some (w.heap.size + 1) ≠ some w.heap.size by simp)
          obtain ⟨sa2, sc2, rfl⟩ := own_shape ho2
          refine hK.out _ _ (fun _ => hb2.cell HC) ?_
          clear hK K
          try simp only [Act.put, List.setIfInBounds_toArray, List.set_cons_zero, List.set_cons_succ]
          refine wpAnyK_one (i := 11) (by kernel_rfl) rfl (fun K hK => ?_)
          refine step_app rfl (.tmp 57) (.tmp 59) rfl w.heap.size _ i (ids.take i) rfl ho2 _ _ _ [(id : Int)] rfl rfl TT (by omega) (by have := hb2.size; first | omega | (simp; omega)) ?_
          intro v3 w3 ho3 hg3
          have hb3 : But [] w w3 := hb2.grown hg3 (fun k e => (ho2.lt k e).1)
          obtain ⟨sa3, sc3, rfl⟩ := own_shape ho3
          refine hK.out _ _ (fun _ => hb3.cell HC) ?_
          clear hK K
          try simp only [Act.put, List.setIfInBounds_toArray, List.set_cons_zero, List.set_cons_succ]
          refine wpAnyK_one (i := 18) (by kernel_rfl) rfl (fun K hK => ?_)
          refine step_app rfl (.tmp 60) (.tmp 66) rfl w.heap.size _ (i + 1) ((ids.take i) ++ [(id : Int)]) rfl ho3 _ _ _ (ids.drop i) rfl L2.out (R2.but hb3) (by omega) (by have := hb3.size; omega) ?_
          intro v4 w4 ho4 hg4
          have hb4 : But [] w w4 := hb3.grown hg4 (fun k e => (ho3.lt k e).1)
          obtain ⟨sa4, sc4, rfl⟩ := own_shape ho4
          have hc4 := hb4.cell HC
          have hf4 := HF _ hb4
          refine hK.out _ _ (fun _ => hc4) ?_
          clear hK K
          try simp only [Act.put, List.setIfInBounds_toArray, List.set_cons_zero, List.set_cons_succ]
          refine wpAnyK_take (i := 19) (v := ?_) (some 68) rfl rfl hdep (by kernel_rfl) (fun _ _ _ h => h) (Or.inl ⟨by rfl, ?_⟩) hc4 ?_
          rotate_left
          · (intro w hSw; go_simp; all_goals with_reducible rfl)
          try simp only [Act.put, List.setIfInBounds_toArray, List.set_cons_zero, List.set_cons_succ]
          refine wpAnyK_take (i := 20) (v := ?_) (some 69) rfl rfl hdep (by kernel_rfl) (fun _ _ _ h => h) (Or.inl ⟨by rfl, ?_⟩) hc4 ?_
          rotate_left
          · (intro w hSw; go_simp; all_goals with_reducible rfl)
          try simp only [Act.put, List.setIfInBounds_toArray, List.set_cons_zero, List.set_cons_succ]
          refine wpAnyK_one (i := 21) (by kernel_rfl) rfl (fun K hK => ?_)
          go_simp
          refine hK.out _ _ (fun h => absurd rfl h) ?_
          clear hK K
          try simp only [Act.put, List.setIfInBounds_toArray, List.set_cons_zero, List.set_cons_succ]
          refine wpAnyK_done (by kernel_rfl) ?_
          go_wp2_with fail
          go_meet
          case rel =>
            have e : ids.take i ++ [(id : Int)] ++ ids.drop i = ids.take i ++ (id : Int) :: ids.drop i := by simp
            rw [e] at ho4
            have hle : (ids.take i ++ (id : Int) :: ids.drop i).length = i + 1 + (ids.length - i) := by simp; omega
            obtain ⟨r1, r2⟩ := h1.setI hb4 (v' := .slice sa4 (i + 1 + (ids.length - i)) sc4) (xs := ids.take i ++ (id : Int) :: ids.drop i) (by unfold RowI; rw [hle]; exact ho4)
            rw [HS0.out]
            exact ⟨_, r1, r2⟩
    case rest =>
      obtain ⟨v', hT, hst⟩ := hcut
      clear wi h1
      rcases wk with ⟨rfl, rfl⟩ | ⟨g, c, rfl, hcc, hz0⟩
      · obtain rfl : i = 0 := by simpa using hik
        clear hil hik
        go_wp2_with fail
        have R1 : Reads wc none 0 [] := .inl ⟨rfl, rfl, rfl⟩
        have R2 : Reads wc none 0 [] := .inl ⟨rfl, rfl, rfl⟩
        have L1 : Hid (([] : List Int).length = 0) := rfl
        have L2 : Hid (([] : List Int).length = 0) := rfl
        have HC := hT.c2
        have HF : ∀ w1, But [] wc w1 → w1.frozen? ⟨M, 2, none⟩ = false := fun w1 hb => hT.fz hb 2
        have OW1 := (own_none wc).drew
        have OW2 := ((own_none wc).alloc (.cells #[.int .i64 key] 3)).drew
        have OW3 : (((wc.alloc (.cells #[.int .i64 key] 3)).alloc (.cells #[] 3)).drew).ownsRow wc.heap.size 3 1 (.slice (some ⟨wc.heap.size + 1, 0, none⟩) 0 0) 0 (([] : List Int).map (Value.int .i64)) := by
          have := row_lower (own_none (wc.alloc (.cells #[.int .i64 key] 3))) (b := wc.heap.size) (by simp)
          rw [World.size_alloc] at this
          exact this.drew
        have B1 : But [] wc (wc.alloc (.cells #[] 3)).drew := ((But.refl [] wc).alloc _).drew
        have B2 : But [] wc ((wc.alloc (.cells #[] 3)).alloc (.cells #[.int .i64 key] 3)).drew := (((But.refl [] wc).alloc _).alloc _).drew
        have B3 : But [] wc ((wc.alloc (.cells #[.int .i64 key] 3)).alloc (.cells #[] 3)).drew := (((But.refl [] wc).alloc _).alloc _).drew
        have T2 : Reads ((wc.alloc (.cells #[] 3)).alloc (.cells #[.int .i64 key] 3)).drew (some ⟨wc.heap.size + 1, 0, none⟩) 1 [key] := by
          have := reads_one (wc.alloc (.cells #[] 3)) key
          rw [World.size_alloc] at this
          exact this
        have T3 : Reads ((wc.alloc (.cells #[.int .i64 key] 3)).alloc (.cells #[] 3)).drew (some ⟨wc.heap.size, 0, none⟩) 1 [key] := (reads_one wc key).but ((But.refl [] _).alloc _).drew
        refine wp_region_K 21 (fun w' => w'.cell? ⟨M, 2, none⟩ = some (.slice none 0 0)) hmx (by kernel_rfl) HC (fun hHeld hdep => ?_)
        refine wpAnyK_take (i := 0) (v := ?_) (some 70) rfl rfl hdep (by kernel_rfl) (fun _ _ _ h => h) (Or.inl ⟨by rfl, ?_⟩) hHeld ?_
        rotate_left
        · (intro w hSw; go_simp; all_goals with_reducible rfl)
        try simp only [Act.put, List.setIfInBounds_toArray, List.set_cons_zero, List.set_cons_succ]
        refine wpAnyK_take (i := 2) (v := ?_) (some 72) rfl rfl hdep (by kernel_rfl) (fun _ _ _ h => h) (Or.inl ⟨by rfl, ?_⟩) hHeld ?_
        rotate_left
        · (intro w hSw; go_simp; all_goals with_reducible rfl)
        try simp only [Act.put, List.setIfInBounds_toArray, List.set_cons_zero, List.set_cons_succ]
        refine wpAnyK_take (i := 3) (v := ?_) (some 73) rfl rfl hdep (by kernel_rfl) (fun _ _ _ h => h) (Or.inl ⟨by rfl, ?_⟩) hHeld ?_
        rotate_left
        · (intro w hSw; go_simp; all_goals with_reducible rfl)
        try simp only [Act.put, List.setIfInBounds_toArray, List.set_cons_zero, List.set_cons_succ]
        refine wpAnyK_take (i := 4) (v := ?_) (some 74) rfl rfl hdep (by kernel_rfl) (fun _ _ _ h => h) (Or.inl ⟨by rfl, ?_⟩) hHeld ?_
        rotate_left
        · (intro w hSw; go_simp; all_goals with_reducible rfl)
        try simp only [Act.put, List.setIfInBounds_toArray, List.set_cons_zero, List.set_cons_succ]
        refine wpAnyK_take (i := 5) (v := ?_) (some 75) rfl rfl hdep (by kernel_rfl) (fun _ _ _ h => h) (Or.inl ⟨by rfl, ?_⟩) hHeld ?_
        rotate_left
        · (intro w hSw; go_simp; all_goals with_reducible rfl)
        try simp only [Act.put, List.setIfInBounds_toArray, List.set_cons_zero, List.set_cons_succ]
        refine wpAnyK_take (i := 6) (v := ?_) (some 76) rfl rfl hdep (by kernel_rfl) (fun _ _ _ h => h) (Or.inl ⟨by rfl, ?_⟩) hHeld ?_
        rotate_left
        · (intro w hSw; go_simp; all_goals with_reducible rfl)
        try simp only [Act.put, List.setIfInBounds_toArray, List.set_cons_zero, List.set_cons_succ]
        refine wpAnyK_take (i := 7) (v := ?_) (some 77) rfl rfl hdep (by kernel_rfl) (fun _ _ _ h => h) (Or.inl ⟨by rfl, ?_⟩) hHeld ?_
        rotate_left
        · (intro w hSw; go_simp; all_goals with_reducible rfl)
        try simp only [Act.put, List.setIfInBounds_toArray, List.set_cons_zero, List.set_cons_succ]
        refine wpAnyK_take (i := 9) (v := ?_) (some 79) rfl rfl hdep (by kernel_rfl) (fun _ _ _ h => h) (Or.inl ⟨by rfl, ?_⟩) hHeld ?_
        rotate_left
        · (intro w hSw; go_simp; all_goals with_reducible rfl)
        try simp only [Act.put, List.setIfInBounds_toArray, List.set_cons_zero, List.set_cons_succ]
        refine wpAnyK_take (i := 12) (v := ?_) (some 82) rfl rfl hdep (by kernel_rfl) (fun _ _ _ h => h) (Or.inl ⟨by rfl, ?_⟩) hHeld ?_
        rotate_left
        · (intro w hSw; go_simp; all_goals with_reducible rfl)
        try simp only [Act.put, List.setIfInBounds_toArray, List.set_cons_zero, List.set_cons_succ]
        refine wpAnyK_take (i := 13) (v := ?_) (some 83) rfl rfl hdep (by kernel_rfl) (fun _ _ _ h => h) (Or.inl ⟨by rfl, ?_⟩) hHeld ?_
        rotate_left
        · (intro w hSw; go_simp; all_goals with_reducible rfl)
        try simp only [Act.put, List.setIfInBounds_toArray, List.set_cons_zero, List.set_cons_succ]
        refine wpAnyK_take (i := 14) (v := ?_) (some 84) rfl rfl hdep (by kernel_rfl) (fun _ _ _ h => h) (Or.inl ⟨by rfl, ?_⟩) hHeld ?_
        rotate_left
        · (intro w hSw; go_simp; all_goals with_reducible rfl)
        try simp only [Act.put, List.setIfInBounds_toArray, List.set_cons_zero, List.set_cons_succ]
        refine wpAnyK_take (i := 15) (v := ?_) (some 85) rfl rfl hdep (by kernel_rfl) (fun _ _ _ h => h) (Or.inl ⟨by rfl, ?_⟩) hHeld ?_
        rotate_left
        · (intro w hSw; go_simp; all_goals with_reducible rfl)
        try simp only [Act.put, List.setIfInBounds_toArray, List.set_cons_zero, List.set_cons_succ]
        refine wpAnyK_take (i := 16) (v := ?_) (some 86) rfl rfl hdep (by kernel_rfl) (fun _ _ _ h => h) (Or.inl ⟨by rfl, ?_⟩) hHeld ?_
        rotate_left
        · (intro w hSw; go_simp; all_goals with_reducible rfl)
        try simp only [Act.put, List.setIfInBounds_toArray, List.set_cons_zero, List.set_cons_succ]
        refine wpAnyK_take (i := 17) (v := ?_) (some 87) rfl rfl hdep (by kernel_rfl) (fun _ _ _ h => h) (Or.inl ⟨by rfl, ?_⟩) hHeld ?_
        rotate_left
        · (intro w hSw; go_simp; all_goals with_reducible rfl)
        try simp only [Act.put, List.setIfInBounds_toArray, List.set_cons_zero, List.set_cons_succ]
        refine wpAnyK_two (i := 1) (j := 10) (by kernel_rfl) rfl rfl (fun K hK => ?_) (fun K hK => ?_)
        · go_simp
          refine hK.out _ _ (fun _ => B1.cell HC) ?_
          clear hK K
          try simp only [Act.put, List.setIfInBounds_toArray, List.set_cons_zero, List.set_cons_succ]
          refine wpAnyK_two (i := 8) (j := 10) (by kernel_rfl) rfl rfl (fun K hK => ?_) (fun K hK => ?_)
          · refine step_app rfl (.tmp 71) (.tmp 77) rfl wc.heap.size _ 0 [] rfl OW1 _ _ _ ([] : List Int) rfl L1.out (R1.but B1) (by omega) (by simp [World.drew] <;> omega) ?_
            intro v2 w2 ho2 hg2
            rw [Nat.zero_add, List.nil_append] at ho2
            have hb2 : But [] wc w2 := B1.grown hg2 (fun k e => by cases e; simp)
            obtain ⟨sa2, sc2, rfl⟩ := own_shape ho2
            refine hK.out _ _ (fun _ => hb2.cell HC) ?_
            clear hK K
            try simp only [Act.put, List.setIfInBounds_toArray, List.set_cons_zero, List.set_cons_succ]
            refine wpAnyK_one (i := 10) (by kernel_rfl) rfl (fun K hK => ?_)
            go_simp
            refine hK.out _ _ (fun _ => (hb2.alloc _).cell HC) ?_
            clear hK K
            try simp only [Act.put, List.setIfInBounds_toArray, List.set_cons_zero, List.set_cons_succ]
            refine wpAnyK_one (i := 11) (by kernel_rfl) rfl (fun K hK => ?_)
            refine step_app rfl (.tmp 78) (.tmp 80) rfl wc.heap.size _ 0 ([] : List Int) rfl (ho2.alloc _) _ _ _ [key] rfl rfl (reads_one w2 key) (by omega) (by have := hb2.size; first | omega | (simp; omega)) ?_
            intro v3 w3 ho3 hg3
            have hb3 : But [] wc w3 := (hb2.alloc _).grown hg3 (fun k e => (ho2.lt k e).1)
            obtain ⟨sa3, sc3, rfl⟩ := own_shape ho3
            refine hK.out _ _ (fun _ => hb3.cell HC) ?_
            clear hK K
            try simp only [Act.put, List.setIfInBounds_toArray, List.set_cons_zero, List.set_cons_succ]
            refine wpAnyK_one (i := 18) (by kernel_rfl) rfl (fun K hK => ?_)
            refine step_app rfl (.tmp 81) (.tmp 87) rfl wc.heap.size _ (0 + 1) (([] : List Int) ++ [key]) rfl ho3 _ _ _ ([] : List Int) rfl L2.out (R2.but hb3) (by omega) (by have := hb3.size; omega) ?_
            intro v4 w4 ho4 hg4
            have hb4 : But [] wc w4 := hb3.grown hg4 (fun k e => (ho3.lt k e).1)
            obtain ⟨sa4, sc4, rfl⟩ := own_shape ho4
            have hc4 := hb4.cell HC
            have hf4 := HF _ hb4
            refine hK.out _ _ (fun _ => hc4) ?_
            clear hK K
            try simp only [Act.put, List.setIfInBounds_toArray, List.set_cons_zero, List.set_cons_succ]
            refine wpAnyK_take (i := 19) (v := ?_) (some 89) rfl rfl hdep (by kernel_rfl) (fun _ _ _ h => h) (Or.inl ⟨by rfl, ?_⟩) hc4 ?_
            rotate_left
            · (intro w hSw; go_simp; all_goals with_reducible rfl)
            try simp only [Act.put, List.setIfInBounds_toArray, List.set_cons_zero, List.set_cons_succ]
            refine wpAnyK_take (i := 20) (v := ?_) (some 90) rfl rfl hdep (by kernel_rfl) (fun _ _ _ h => h) (Or.inl ⟨by rfl, ?_⟩) hc4 ?_
            rotate_left
            · (intro w hSw; go_simp; all_goals with_reducible rfl)
            try simp only [Act.put, List.setIfInBounds_toArray, List.set_cons_zero, List.set_cons_succ]
            refine wpAnyK_one (i := 21) (by kernel_rfl) rfl (fun K hK => ?_)
            go_simp
            refine hK.out _ _ (fun h => absurd rfl h) ?_
            clear hK K
            try simp only [Act.put, List.setIfInBounds_toArray, List.set_cons_zero, List.set_cons_succ]
            refine wpAnyK_done (by kernel_rfl) ?_
            go_wp2_with fail
            go_end0
            change w4.ownsRow _ 3 1 _ _ (([key] : List Int).map (Value.int .i64)) at ho4
            obtain ⟨r1, r2⟩ := hT.setK hb4 (xs := [key]) ho4
            exact ⟨rfl, _, _, HFIN _ _ _ r1, hst.trans r2⟩
          · go_simp
            refine hK.out _ _ (fun _ => B2.cell HC) ?_
            clear hK K
            try simp only [Act.put, List.setIfInBounds_toArray, List.set_cons_zero, List.set_cons_succ]
            refine wpAnyK_one (i := 8) (by kernel_rfl) rfl (fun K hK => ?_)
            refine step_app rfl (.tmp 71) (.tmp 77) rfl wc.heap.size _ 0 [] rfl OW2 _ _ _ ([] : List Int) rfl L1.out (R1.but B2) (by omega) (by simp [World.drew] <;> omega) ?_
            intro v2 w2 ho2 hg2
            rw [Nat.zero_add, List.nil_append] at ho2
            have hb2 : But [] wc w2 := B2.grown hg2 (fun k e => by cases e; simp)
            have TT := T2.grown hg2 (show some wc.heap.size ≠ some (wc.heap.size + 1) by simp)
            obtain ⟨sa2, sc2, rfl⟩ := own_shape ho2
            refine hK.out _ _ (fun _ => hb2.cell HC) ?_
            clear hK K
            try simp only [Act.put, List.setIfInBounds_toArray, List.set_cons_zero, List.set_cons_succ]
            refine wpAnyK_one (i := 11) (by kernel_rfl) rfl (fun K hK => ?_)
            refine step_app rfl (.tmp 78) (.tmp 80) rfl wc.heap.size _ 0 ([] : List Int) rfl ho2 _ _ _ [key] rfl rfl TT (by omega) (by have := hb2.size; first | omega | (simp; omega)) ?_
            intro v3 w3 ho3 hg3
            have hb3 : But [] wc w3 := hb2.grown hg3 (fun k e => (ho2.lt k e).1)
            obtain ⟨sa3, sc3, rfl⟩ := own_shape ho3
            refine hK.out _ _ (fun _ => hb3.cell HC) ?_
            clear hK K
            try simp only [Act.put, List.setIfInBounds_toArray, List.set_cons_zero, List.set_cons_succ]
            refine wpAnyK_one (i := 18) (by kernel_rfl) rfl (fun K hK => ?_)
            refine step_app rfl (.tmp 81) (.tmp 87) rfl wc.heap.size _ (0 + 1) (([] : List Int) ++ [key]) rfl ho3 _ _ _ ([] : List Int) rfl L2.out (R2.but hb3) (by omega) (by have := hb3.size; omega) ?_
            intro v4 w4 ho4 hg4
            have hb4 : But [] wc w4 := hb3.grown hg4 (fun k e => (ho3.lt k e).1)
            obtain ⟨sa4, sc4, rfl⟩ := own_shape ho4
            have hc4 := hb4.cell HC
            have hf4 := HF _ hb4
            refine hK.out _ _ (fun _ => hc4) ?_
            clear hK K
            try simp only [Act.put, List.setIfInBounds_toArray, List.set_cons_zero, List.set_cons_succ]
            refine wpAnyK_take (i := 19) (v := ?_) (some 89) rfl rfl hdep (by kernel_rfl) (fun _ _ _ h => h) (Or.inl ⟨by rfl, ?_⟩) hc4 ?_
            rotate_left
            · (intro w hSw; go_simp; all_goals with_reducible rfl)
            try simp only [Act.put, List.setIfInBounds_toArray, List.set_cons_zero, List.set_cons_succ]
            refine wpAnyK_take (i := 20) (v := ?_) (some 90) rfl rfl hdep (by kernel_rfl) (fun _ _ _ h => h) (Or.inl ⟨by rfl, ?_⟩) hc4 ?_
            rotate_left
            · (intro w hSw; go_simp; all_goals with_reducible rfl)
            try simp only [Act.put, List.setIfInBounds_toArray, List.set_cons_zero, List.set_cons_succ]
            refine wpAnyK_one (i := 21) (by kernel_rfl) rfl (fun K hK => ?_)
            go_simp
            refine hK.out _ _ (fun h => absurd rfl h) ?_
            clear hK K
            try simp only [Act.put, List.setIfInBounds_toArray, List.set_cons_zero, List.set_cons_succ]
            refine wpAnyK_done (by kernel_rfl) ?_
            go_wp2_with fail
            go_end0
            change w4.ownsRow _ 3 1 _ _ (([key] : List Int).map (Value.int .i64)) at ho4
            obtain ⟨r1, r2⟩ := hT.setK hb4 (xs := [key]) ho4
            exact ⟨rfl, _, _, HFIN _ _ _ r1, hst.trans r2⟩
        · go_simp
          refine hK.out _ _ (fun _ => (((But.refl [] wc).alloc _).drew).cell HC) ?_
          clear hK K
          try simp only [Act.put, List.setIfInBounds_toArray, List.set_cons_zero, List.set_cons_succ]
          refine wpAnyK_one (i := 1) (by kernel_rfl) rfl (fun K hK => ?_)
          go_simp
          refine hK.out _ _ (fun _ => B3.cell HC) ?_
          clear hK K
          try simp only [Act.put, List.setIfInBounds_toArray, List.set_cons_zero, List.set_cons_succ]
          refine wpAnyK_one (i := 8) (by kernel_rfl) rfl (fun K hK => ?_)
          refine step_app rfl (.tmp 71) (.tmp 77) rfl wc.heap.size _ 0 [] rfl OW3 _ _ _ ([] : List Int) rfl L1.out (R1.but B3) (by omega) (by simp [World.drew] <;> omega) ?_
          intro v2 w2 ho2 hg2
          rw [Nat.zero_add, List.nil_append] at ho2
          have hb2 : But [] wc w2 := B3.grown hg2 (fun k e => by cases e; simp)
          have TT := T3.grown hg2 (show some (wc.heap.size + 1) ≠ some wc.heap.size by simp)
          obtain ⟨sa2, sc2, rfl⟩ := own_shape ho2
          refine hK.out _ _ (fun _ => hb2.cell HC) ?_
          clear hK K
          try simp only [Act.put, List.setIfInBounds_toArray, List.set_cons_zero, List.set_cons_succ]
          refine wpAnyK_one (i := 11) (by kernel_rfl) rfl (fun K hK => ?_)
          refine step_app rfl (.tmp 78) (.tmp 80) rfl wc.heap.size _ 0 ([] : List Int) rfl ho2 _ _ _ [key] rfl rfl TT (by omega) (by have := hb2.size; first | omega | (simp; omega)) ?_
          intro v3 w3 ho3 hg3
          have hb3 : But [] wc w3 := hb2.grown hg3 (fun k e => (ho2.lt k e).1)
          obtain ⟨sa3, sc3, rfl⟩ := own_shape ho3
          refine hK.out _ _ (fun _ => hb3.cell HC) ?_
          clear hK K
          try simp only [Act.put, List.setIfInBounds_toArray, List.set_cons_zero, List.set_cons_succ]
          refine wpAnyK_one (i := 18) (by kernel_rfl) rfl (fun K hK => ?_)
          refine step_app rfl (.tmp 81) (.tmp 87) rfl wc.heap.size _ (0 + 1) (([] : List Int) ++ [key]) rfl ho3 _ _ _ ([] : List Int) rfl L2.out (R2.but hb3) (by omega) (by have := hb3.size; omega) ?_
          intro v4 w4 ho4 hg4
          have hb4 : But [] wc w4 := hb3.grown hg4 (fun k e => (ho3.lt k e).1)
          obtain ⟨sa4, sc4, rfl⟩ := own_shape ho4
          have hc4 := hb4.cell HC
          have hf4 := HF _ hb4
          refine hK.out _ _ (fun _ => hc4) ?_
          clear hK K
          try simp only [Act.put, List.setIfInBounds_toArray, List.set_cons_zero, List.set_cons_succ]
          refine wpAnyK_take (i := 19) (v := ?_) (some 89) rfl rfl hdep (by kernel_rfl) (fun _ _ _ h => h) (Or.inl ⟨by rfl, ?_⟩) hc4 ?_
          rotate_left
          · (intro w hSw; go_simp; all_goals with_reducible rfl)
          try simp only [Act.put, List.setIfInBounds_toArray, List.set_cons_zero, List.set_cons_succ]
          refine wpAnyK_take (i := 20) (v := ?_) (some 90) rfl rfl hdep (by kernel_rfl) (fun _ _ _ h => h) (Or.inl ⟨by rfl, ?_⟩) hc4 ?_
          rotate_left
          · (intro w hSw; go_simp; all_goals with_reducible rfl)
          try simp only [Act.put, List.setIfInBounds_toArray, List.set_cons_zero, List.set_cons_succ]
          refine wpAnyK_one (i := 21) (by kernel_rfl) rfl (fun K hK => ?_)
          go_simp
          refine hK.out _ _ (fun h => absurd rfl h) ?_
          clear hK K
          try simp only [Act.put, List.setIfInBounds_toArray, List.set_cons_zero, List.set_cons_succ]
          refine wpAnyK_done (by kernel_rfl) ?_
          go_wp2_with fail
          go_end0
          change w4.ownsRow _ 3 1 _ _ (([key] : List Int).map (Value.int .i64)) at ho4
          obtain ⟨r1, r2⟩ := hT.setK hb4 (xs := [key]) ho4
          exact ⟨rfl, _, _, HFIN _ _ _ r1, hst.trans r2⟩
      · have hz : IntsR wc (some ⟨g, 0, none⟩) ks := RowI.at hT.k
        clear hil hz0
        go_wp2_with fail
        obtain ⟨ad, hd⟩ : ∃ ad, ad = (if c = i then (⟨g, 0, none⟩ : Addr) else ⟨g, i, none⟩) := ⟨_, rfl⟩
        obtain ⟨R1, R2⟩ := parts_in hik hz hcc hd
        have hif : (if c = i then some (⟨g, 0, none⟩ : Addr) else some ⟨g, i, none⟩) = some ad := by rw [hd]; split <;> rfl
        clear hd
        have L1 : Hid ((ks.take i).length = i) := by show (ks.take i).length = i; rw [List.length_take]; omega
        have L2 : Hid ((ks.drop i).length = ks.length - i) := by show (ks.drop i).length = ks.length - i; rw [List.length_drop]
        have hic : (i : Int) ≤ (c : Int) := by omega
        have hin : (i : Int) ≤ (ks.length : Int) := by omega
        have hnc : (ks.length : Int) ≤ (c : Int) := by omega
        have HC := hT.c2
        have HF : ∀ w1, But [] wc w1 → w1.frozen? ⟨M, 2, none⟩ = false := fun w1 hb => hT.fz hb 2
        have OW1 := (own_none wc).drew
        have OW2 := ((own_none wc).alloc (.cells #[.int .i64 key] 3)).drew
        have OW3 : (((wc.alloc (.cells #[.int .i64 key] 3)).alloc (.cells #[] 3)).drew).ownsRow wc.heap.size 3 1 (.slice (some ⟨wc.heap.size + 1, 0, none⟩) 0 0) 0 (([] : List Int).map (Value.int .i64)) := by
          have := row_lower (own_none (wc.alloc (.cells #[.int .i64 key] 3))) (b := wc.heap.size) (by simp)
          rw [World.size_alloc] at this
          exact this.drew
        have B1 : But [] wc (wc.alloc (.cells #[] 3)).drew := ((But.refl [] wc).alloc _).drew
        have B2 : But [] wc ((wc.alloc (.cells #[] 3)).alloc (.cells #[.int .i64 key] 3)).drew := (((But.refl [] wc).alloc _).alloc _).drew
        have B3 : But [] wc ((wc.alloc (.cells #[.int .i64 key] 3)).alloc (.cells #[] 3)).drew := (((But.refl [] wc).alloc _).alloc _).drew
        have T2 : Reads ((wc.alloc (.cells #[] 3)).alloc (.cells #[.int .i64 key] 3)).drew (some ⟨wc.heap.size + 1, 0, none⟩) 1 [key] := by
          have := reads_one (wc.alloc (.cells #[] 3)) key
          rw [World.size_alloc] at this
          exact this
        have T3 : Reads ((wc.alloc (.cells #[.int .i64 key] 3)).alloc (.cells #[] 3)).drew (some ⟨wc.heap.size, 0, none⟩) 1 [key] := (reads_one wc key).but ((But.refl [] _).alloc _).drew
        refine wp_region_K 21 (fun w' => w'.cell? ⟨M, 2, none⟩ = some (.slice (some ⟨g, 0, none⟩) ks.length c)) hmx (by kernel_rfl) HC (fun hHeld hdep => ?_)
        refine wpAnyK_take (i := 0) (v := ?_) (some 70) rfl rfl hdep (by kernel_rfl) (fun _ _ _ h => h) (Or.inl ⟨by rfl, ?_⟩) hHeld ?_
        rotate_left
        · (intro w hSw; go_simp; all_goals with_reducible rfl)
        try simp only [Act.put, List.setIfInBounds_toArray, List.set_cons_zero, List.set_cons_succ]
        refine wpAnyK_take (i := 2) (v := ?_) (some 72) rfl rfl hdep (by kernel_rfl) (fun _ _ _ h => h) (Or.inl ⟨by rfl, ?_⟩) hHeld ?_
        rotate_left
        · (intro w hSw; go_simp; all_goals with_reducible rfl)
        try simp only [Act.put, List.setIfInBounds_toArray, List.set_cons_zero, List.set_cons_succ]
        refine wpAnyK_take (i := 3) (v := ?_) (some 73) rfl rfl hdep (by kernel_rfl) (fun _ _ _ h => h) (Or.inl ⟨by rfl, ?_⟩) hHeld ?_
        rotate_left
        · (intro w hSw; go_simp; all_goals with_reducible rfl)
        try simp only [Act.put, List.setIfInBounds_toArray, List.set_cons_zero, List.set_cons_succ]
        refine wpAnyK_take (i := 4) (v := ?_) (some 74) rfl rfl hdep (by kernel_rfl) (fun _ _ _ h => h) (Or.inl ⟨by rfl, ?_⟩) hHeld ?_
        rotate_left
        · (intro w hSw; go_simp; all_goals with_reducible rfl)
        try simp only [Act.put, List.setIfInBounds_toArray, List.set_cons_zero, List.set_cons_succ]
        refine wpAnyK_take (i := 5) (v := ?_) (some 75) rfl rfl hdep (by kernel_rfl) (fun _ _ _ h => h) (Or.inl ⟨by rfl, ?_⟩) hHeld ?_
        rotate_left
        · (intro w hSw; go_simp; all_goals with_reducible rfl)
        try simp only [Act.put, List.setIfInBounds_toArray, List.set_cons_zero, List.set_cons_succ]
        refine wpAnyK_take (i := 6) (v := ?_) (some 76) rfl rfl hdep (by kernel_rfl) (fun _ _ _ h => h) (Or.inl ⟨by rfl, ?_⟩) hHeld ?_
        rotate_left
        · (intro w hSw; go_simp; all_goals with_reducible rfl)
        try simp only [Act.put, List.setIfInBounds_toArray, List.set_cons_zero, List.set_cons_succ]
        refine wpAnyK_take (i := 7) (v := ?_) (some 77) rfl rfl hdep (by kernel_rfl) (fun _ _ _ h => h) (Or.inl ⟨by rfl, ?_⟩) hHeld ?_
        rotate_left
        · (intro w hSw; go_simp; all_goals with_reducible rfl)
        try simp only [Act.put, List.setIfInBounds_toArray, List.set_cons_zero, List.set_cons_succ]
        refine wpAnyK_take (i := 9) (v := ?_) (some 79) rfl rfl hdep (by kernel_rfl) (fun _ _ _ h => h) (Or.inl ⟨by rfl, ?_⟩) hHeld ?_
        rotate_left
        · (intro w hSw; go_simp; all_goals with_reducible rfl)
        try simp only [Act.put, List.setIfInBounds_toArray, List.set_cons_zero, List.set_cons_succ]
        refine wpAnyK_take (i := 12) (v := ?_) (some 82) rfl rfl hdep (by kernel_rfl) (fun _ _ _ h => h) (Or.inl ⟨by rfl, ?_⟩) hHeld ?_
        rotate_left
        · (intro w hSw; go_simp; all_goals with_reducible rfl)
        try simp only [Act.put, List.setIfInBounds_toArray, List.set_cons_zero, List.set_cons_succ]
        refine wpAnyK_take (i := 13) (v := ?_) (some 83) rfl rfl hdep (by kernel_rfl) (fun _ _ _ h => h) (Or.inl ⟨by rfl, ?_⟩) hHeld ?_
        rotate_left
        · (intro w hSw; go_simp; all_goals with_reducible rfl)
        try simp only [Act.put, List.setIfInBounds_toArray, List.set_cons_zero, List.set_cons_succ]
        refine wpAnyK_take (i := 14) (v := ?_) (some 84) rfl rfl hdep (by kernel_rfl) (fun _ _ _ h => h) (Or.inl ⟨by rfl, ?_⟩) hHeld ?_
        rotate_left
        · (intro w hSw; go_simp; all_goals with_reducible rfl)
        try simp only [Act.put, List.setIfInBounds_toArray, List.set_cons_zero, List.set_cons_succ]
        refine wpAnyK_take (i := 15) (v := ?_) (some 85) rfl rfl hdep (by kernel_rfl) (fun _ _ _ h => h) (Or.inl ⟨by rfl, ?_⟩) hHeld ?_
        rotate_left
        · (intro w hSw; go_simp; all_goals with_reducible rfl)
        try simp only [Act.put, List.setIfInBounds_toArray, List.set_cons_zero, List.set_cons_succ]
        refine wpAnyK_take (i := 16) (v := ?_) (some 86) rfl rfl hdep (by kernel_rfl) (fun _ _ _ h => h) (Or.inl ⟨by rfl, ?_⟩) hHeld ?_
        rotate_left
        · (intro w hSw; go_simp; all_goals with_reducible rfl)
        try simp only [Act.put, List.setIfInBounds_toArray, List.set_cons_zero, List.set_cons_succ]
        refine wpAnyK_take (i := 17) (v := ?_) (some 87) rfl rfl hdep (by kernel_rfl) (fun _ _ _ h => h) (Or.inl ⟨by rfl, ?_⟩) hHeld ?_
        rotate_left
        · (intro w hSw; go_simp; all_goals with_reducible rfl)
        try simp only [Act.put, List.setIfInBounds_toArray, List.set_cons_zero, List.set_cons_succ]
        refine wpAnyK_two (i := 1) (j := 10) (by kernel_rfl) rfl rfl (fun K hK => ?_) (fun K hK => ?_)
        · go_simp
          refine hK.out _ _ (fun _ => B1.cell HC) ?_
          clear hK K
          try simp only [Act.put, List.setIfInBounds_toArray, List.set_cons_zero, List.set_cons_succ]
          refine wpAnyK_two (i := 8) (j := 10) (by kernel_rfl) rfl rfl (fun K hK => ?_) (fun K hK => ?_)
          · refine step_app rfl (.tmp 71) (.tmp 77) rfl wc.heap.size _ 0 [] rfl OW1 _ _ _ (ks.take i) rfl L1.out (R1.but B1) (by omega) (by simp [World.drew] <;> omega) ?_
            intro v2 w2 ho2 hg2
            rw [Nat.zero_add, List.nil_append] at ho2
            have hb2 : But [] wc w2 := B1.grown hg2 (fun k e => by cases e; simp)
            obtain ⟨sa2, sc2, rfl⟩ := own_shape ho2
            refine hK.out _ _ (fun _ => hb2.cell HC) ?_
            clear hK K
            try simp only [Act.put, List.setIfInBounds_toArray, List.set_cons_zero, List.set_cons_succ]
            refine wpAnyK_one (i := 10) (by kernel_rfl) rfl (fun K hK => ?_)
            go_simp
            refine hK.out _ _ (fun _ => (hb2.alloc _).cell HC) ?_
            clear hK K
            try simp only [Act.put, List.setIfInBounds_toArray, List.set_cons_zero, List.set_cons_succ]
            refine wpAnyK_one (i := 11) (by kernel_rfl) rfl (fun K hK => ?_)
            refine step_app rfl (.tmp 78) (.tmp 80) rfl wc.heap.size _ i (ks.take i) rfl (ho2.alloc _) _ _ _ [key] rfl rfl (reads_one w2 key) (by omega) (by have := hb2.size; first | omega | (simp; omega)) ?_
            intro v3 w3 ho3 hg3
            have hb3 : But [] wc w3 := (hb2.alloc _).grown hg3 (fun k e => (ho2.lt k e).1)
            obtain ⟨sa3, sc3, rfl⟩ := own_shape ho3
            refine hK.out _ _ (fun _ => hb3.cell HC) ?_
            clear hK K
            try simp only [Act.put, List.setIfInBounds_toArray, List.set_cons_zero, List.set_cons_succ]
            refine wpAnyK_one (i := 18) (by kernel_rfl) rfl (fun K hK => ?_)
            refine step_app rfl (.tmp 81) (.tmp 87) rfl wc.heap.size _ (i + 1) ((ks.take i) ++ [key]) rfl ho3 _ _ _ (ks.drop i) rfl L2.out (R2.but hb3) (by omega) (by have := hb3.size; omega) ?_
            intro v4 w4 ho4 hg4
            have hb4 : But [] wc w4 := hb3.grown hg4 (fun k e => (ho3.lt k e).1)
            obtain ⟨sa4, sc4, rfl⟩ := own_shape ho4
            have hc4 := hb4.cell HC
            have hf4 := HF _ hb4
            refine hK.out _ _ (fun _ => hc4) ?_
            clear hK K
            try simp only [Act.put, List.setIfInBounds_toArray, List.set_cons_zero, List.set_cons_succ]
            refine wpAnyK_take (i := 19) (v := ?_) (some 89) rfl rfl hdep (by kernel_rfl) (fun _ _ _ h => h) (Or.inl ⟨by rfl, ?_⟩) hc4 ?_
            rotate_left
            · (intro w hSw; go_simp; all_goals with_reducible rfl)
            try simp only [Act.put, List.setIfInBounds_toArray, List.set_cons_zero, List.set_cons_succ]
            refine wpAnyK_take (i := 20) (v := ?_) (some 90) rfl rfl hdep (by kernel_rfl) (fun _ _ _ h => h) (Or.inl ⟨by rfl, ?_⟩) hc4 ?_
            rotate_left
            · (intro w hSw; go_simp; all_goals with_reducible rfl)
            try simp only [Act.put, List.setIfInBounds_toArray, List.set_cons_zero, List.set_cons_succ]
            refine wpAnyK_one (i := 21) (by kernel_rfl) rfl (fun K hK => ?_)
            go_simp
            refine hK.out _ _ (fun h => absurd rfl h) ?_
            clear hK K
            try simp only [Act.put, List.setIfInBounds_toArray, List.set_cons_zero, List.set_cons_succ]
            refine wpAnyK_done (by kernel_rfl) ?_
            go_wp2_with fail
            go_end0
            have e : ks.take i ++ [key] ++ ks.drop i = ks.take i ++ key :: ks.drop i := by simp
            rw [e] at ho4
            have hle : (ks.take i ++ key :: ks.drop i).length = i + 1 + (ks.length - i) := by simp; omega
            obtain ⟨r1, r2⟩ := hT.setK hb4 (v' := .slice sa4 (i + 1 + (ks.length - i)) sc4) (xs := ks.take i ++ key :: ks.drop i) (by unfold RowI; rw [hle]; exact ho4)
            exact ⟨rfl, _, _, HFIN _ _ _ r1, hst.trans r2⟩
          · go_simp
            refine hK.out _ _ (fun _ => B2.cell HC) ?_
            clear hK K
            try simp only [Act.put, List.setIfInBounds_toArray, List.set_cons_zero, List.set_cons_succ]
            refine wpAnyK_one (i := 8) (by kernel_rfl) rfl (fun K hK => ?_)
            refine step_app rfl (.tmp 71) (.tmp 77) rfl wc.heap.size _ 0 [] rfl OW2 _ _ _ (ks.take i) rfl L1.out (R1.but B2) (by omega) (by simp [World.drew] <;> omega) ?_
            intro v2 w2 ho2 hg2
            rw [Nat.zero_add, List.nil_append] at ho2
            have hb2 : But [] wc w2 := B2.grown hg2 (fun k e => by cases e; simp)
            have TT := T2.grown hg2 (show some wc.heap.size ≠ some (wc.heap.size + 1) by simp)
            obtain ⟨sa2, sc2, rfl⟩ := own_shape ho2
            refine hK.out _ _ (fun _ => hb2.cell HC) ?_
            clear hK K
            try simp only [Act.put, List.setIfInBounds_toArray, List.set_cons_zero, List.set_cons_succ]
            refine wpAnyK_one (i := 11) (by kernel_rfl) rfl (fun K hK => ?_)
            refine step_app rfl (.tmp 78) (.tmp 80) rfl wc.heap.size _ i (ks.take i) rfl ho2 _ _ _ [key] rfl rfl TT (by omega) (by have := hb2.size; first | omega | (simp; omega)) ?_
            intro v3 w3 ho3 hg3
            have hb3 : But [] wc w3 := hb2.grown hg3 (fun k e => (ho2.lt k e).1)
            obtain ⟨sa3, sc3, rfl⟩ := own_shape ho3
            refine hK.out _ _ (fun _ => hb3.cell HC) ?_
            clear hK K
            try simp only [Act.put, List.setIfInBounds_toArray, List.set_cons_zero, List.set_cons_succ]
            refine wpAnyK_one (i := 18) (by kernel_rfl) rfl (fun K hK => ?_)
            refine step_app rfl (.tmp 81) (.tmp 87) rfl wc.heap.size _ (i + 1) ((ks.take i) ++ [key]) rfl ho3 _ _ _ (ks.drop i) rfl L2.out (R2.but hb3) (by omega) (by have := hb3.size; omega) ?_
            intro v4 w4 ho4 hg4
            have hb4 : But [] wc w4 := hb3.grown hg4 (fun k e => (ho3.lt k e).1)
            obtain ⟨sa4, sc4, rfl⟩ := own_shape ho4
            have hc4 := hb4.cell HC
            have hf4 := HF _ hb4
            refine hK.out _ _ (fun _ => hc4) ?_
            clear hK K
            try simp only [Act.put, List.setIfInBounds_toArray, List.set_cons_zero, List.set_cons_succ]
            refine wpAnyK_take (i := 19) (v := ?_) (some 89) rfl rfl hdep (by kernel_rfl) (fun _ _ _ h => h) (Or.inl ⟨by rfl, ?_⟩) hc4 ?_
            rotate_left
            · (intro w hSw; go_simp; all_goals with_reducible rfl)
            try simp only [Act.put, List.setIfInBounds_toArray, List.set_cons_zero, List.set_cons_succ]
            refine wpAnyK_take (i := 20) (v := ?_) (some 90) rfl rfl hdep (by kernel_rfl) (fun _ _ _ h => h) (Or.inl ⟨by rfl, ?_⟩) hc4 ?_
            rotate_left
            · (intro w hSw; go_simp; all_goals with_reducible rfl)
            try simp only [Act.put, List.setIfInBounds_toArray, List.set_cons_zero, List.set_cons_succ]
            refine wpAnyK_one (i := 21) (by kernel_rfl) rfl (fun K hK => ?_)
            go_simp
            refine hK.out _ _ (fun h => absurd rfl h) ?_
            clear hK K
            try simp only [Act.put, List.setIfInBounds_toArray, List.set_cons_zero, List.set_cons_succ]
            refine wpAnyK_done (by kernel_rfl) ?_
            go_wp2_with fail
            go_end0
            have e : ks.take i ++ [key] ++ ks.drop i = ks.take i ++ key :: ks.drop i := by simp
            rw [e] at ho4
            have hle : (ks.take i ++ key :: ks.drop i).length = i + 1 + (ks.length - i) := by simp; omega
            obtain ⟨r1, r2⟩ := hT.setK hb4 (v' := .slice sa4 (i + 1 + (ks.length - i)) sc4) (xs := ks.take i ++ key :: ks.drop i) (by unfold RowI; rw [hle]; exact ho4)
            exact ⟨rfl, _, _, HFIN _ _ _ r1, hst.trans r2⟩
        · go_simp
          refine hK.out _ _ (fun _ => (((But.refl [] wc).alloc _).drew).cell HC) ?_
          clear hK K
          try simp only [Act.put, List.setIfInBounds_toArray, List.set_cons_zero, List.set_cons_succ]
          refine wpAnyK_one (i := 1) (by kernel_rfl) rfl (fun K hK => ?_)
          go_simp
          refine hK.out _ _ (fun _ => B3.cell HC) ?_
          clear hK K
          try simp only [Act.put, List.setIfInBounds_toArray, List.set_cons_zero, List.set_cons_succ]
          refine wpAnyK_one (i := 8) (by kernel_rfl) rfl (fun K hK => ?_)
          refine step_app rfl (.tmp 71) (.tmp 77) rfl wc.heap.size _ 0 [] rfl OW3 _ _ _ (ks.take i) rfl L1.out (R1.but B3) (by omega) (by simp [World.drew] <;> omega) ?_
          intro v2 w2 ho2 hg2
          rw [Nat.zero_add, List.nil_append] at ho2
          have hb2 : But [] wc w2 := B3.grown hg2 (fun k e => by cases e; simp)
          have TT := T3.grown hg2 (show some (wc.heap.size + 1) ≠ some wc.heap.size by simp)
          obtain ⟨sa2, sc2, rfl⟩ := own_shape ho2
          refine hK.out _ _ (fun _ => hb2.cell HC) ?_
          clear hK K
          try simp only [Act.put, List.setIfInBounds_toArray, List.set_cons_zero, List.set_cons_succ]
          refine wpAnyK_one (i := 11) (by kernel_rfl) rfl (fun K hK => ?_)
          refine step_app rfl (.tmp 78) (.tmp 80) rfl wc.heap.size _ i (ks.take i) rfl ho2 _ _ _ [key] rfl rfl TT (by omega) (by have := hb2.size; first | omega | (simp; omega)) ?_
          intro v3 w3 ho3 hg3
          have hb3 : But [] wc w3 := hb2.grown hg3 (fun k e => (ho2.lt k e).1)
          obtain ⟨sa3, sc3, rfl⟩ := own_shape ho3
          refine hK.out _ _ (fun _ => hb3.cell HC) ?_
          clear hK K
          try simp only [Act.put, List.setIfInBounds_toArray, List.set_cons_zero, List.set_cons_succ]
          refine wpAnyK_one (i := 18) (by kernel_rfl) rfl (fun K hK => ?_)
          refine step_app rfl (.tmp 81) (.tmp 87) rfl wc.heap.size _ (i + 1) ((ks.take i) ++ [key]) rfl ho3 _ _ _ (ks.drop i) rfl L2.out (R2.but hb3) (by omega) (by have := hb3.size; omega) ?_
          intro v4 w4 ho4 hg4
          have hb4 : But [] wc w4 := hb3.grown hg4 (fun k e => (ho3.lt k e).1)
          obtain ⟨sa4, sc4, rfl⟩ := own_shape ho4
          have hc4 := hb4.cell HC
          have hf4 := HF _ hb4
          refine hK.out _ _ (fun _ => hc4) ?_
          clear hK K
          try simp only [Act.put, List.setIfInBounds_toArray, List.set_cons_zero, List.set_cons_succ]
          refine wpAnyK_take (i := 19) (v := ?_) (some 89) rfl rfl hdep (by kernel_rfl) (fun _ _ _ h => h) (Or.inl ⟨by rfl, ?_⟩) hc4 ?_
          rotate_left
          · (intro w hSw; go_simp; all_goals with_reducible rfl)
          try simp only [Act.put, List.setIfInBounds_toArray, List.set_cons_zero, List.set_cons_succ]
          refine wpAnyK_take (i := 20) (v := ?_) (some 90) rfl rfl hdep (by kernel_rfl) (fun _ _ _ h => h) (Or.inl ⟨by rfl, ?_⟩) hc4 ?_
          rotate_left
          · (intro w hSw; go_simp; all_goals with_reducible rfl)
          try simp only [Act.put, List.setIfInBounds_toArray, List.set_cons_zero, List.set_cons_succ]
          refine wpAnyK_one (i := 21) (by kernel_rfl) rfl (fun K hK => ?_)
          go_simp
          refine hK.out _ _ (fun h => absurd rfl h) ?_
          clear hK K
          try simp only [Act.put, List.setIfInBounds_toArray, List.set_cons_zero, List.set_cons_succ]
          refine wpAnyK_done (by kernel_rfl) ?_
          go_wp2_with fail
          go_end0
          have e : ks.take i ++ [key] ++ ks.drop i = ks.take i ++ key :: ks.drop i := by simp
          rw [e] at ho4
          have hle : (ks.take i ++ key :: ks.drop i).length = i + 1 + (ks.length - i) := by simp; omega
          obtain ⟨r1, r2⟩ := hT.setK hb4 (v' := .slice sa4 (i + 1 + (ks.length - i)) sc4) (xs := ks.take i ++ key :: ks.drop i) (by unfold RowI; rw [hle]; exact ho4)
          exact ⟨rfl, _, _, HFIN _ _ _ r1, hst.trans r2⟩

theorem rin_any (h : RM w M N vi vk q) (hl : q.length < N) (id : Nat) (key : Int) :
    Calls Try.prog 42 #[.pointer (some ⟨M, 0, none⟩), .int .i64 (id : Int), .int .i64 key] w fun e w' => e = .returned (.tuple #[]) ∧ ∃ vi' vk', RM w' M N vi' vk' (insq (id, key) q) ∧ Step (rbs M vi vk) w (rbs M vi' vk') w' := rin_aux h hl id key _ rfl
end

end Go.Proofs.Ytmogedfjhbfglaa
