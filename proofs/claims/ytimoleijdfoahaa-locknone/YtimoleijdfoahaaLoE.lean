/- The document's Drop. -/
import Derived.Test.YtimoleijdfoahaaLoD
namespace Go.Proofs.Ytimoleijdfoahaa.Lo
open Go Go.RowKit Go.Proofs.Ytimoleijdfoahaa.Bs
open Go.Proofs.Ytimoleijdfoahaa.Lk (inN inN_of inN_out wI lsI wI_nat whI whI_none whI_some whI_cases ints ints_iv ints_len iv)
set_option linter.unusedSimpArgs false

/-- The first j locks' and conditions' rows are without t. -/
def rmJ (σ : St) (t : Nat) : Nat → St
  | 0 => σ
  | j + 1 => ⟨σ.own, ((rmJ σ t j).ls.set j (outL t (W (rmJ σ t j) j))).set (σ.own.length + j) (outL t (S (rmJ σ t j) j)), σ.ag⟩
/-- The document's locks, whatever holds of them. -/
def RS (w : World) (M : Nat) (R : List Nat) (n T : Nat) (σ : St) : Prop := ∃ ob wb sb ab vw vs, RM w M ob wb sb ab R n T vw vs σ
section
variable {σ : St} {n T : Nat}
theorem rmJ_own (t : Nat) : ∀ j, (rmJ σ t j).own = σ.own ∧ (rmJ σ t j).ag = σ.ag ∧ (rmJ σ t j).ls.length = σ.ls.length
  | 0 => ⟨rfl, rfl, rfl⟩
  | j + 1 => ⟨rfl, rfl, by simp [rmJ, (rmJ_own t j).2.2]⟩
theorem rmJ_at (h : Ok n T σ) (t : Nat) : ∀ j, j ≤ n → ∀ i, i < n + n → (rmJ σ t j).ls.getD i [] = if i < j ∨ (n ≤ i ∧ i < n + j) then outL t (σ.ls.getD i []) else σ.ls.getD i []
  | 0, _, i, hi => by
    rw [if_neg (by omega)]
    rfl
  | j + 1, hj, i, hi => by
    have ih := rmJ_at h t j (by omega)
    have hlen := (rmJ_own (σ := σ) t j).2.2
    have hown := (rmJ_own (σ := σ) t j).1
    have hl := h.ls.len
    have hol := h.ol
    show (((rmJ σ t j).ls.set j (outL t (W (rmJ σ t j) j))).set (σ.own.length + j) (outL t (S (rmJ σ t j) j))).getD i [] = _
    rw [getD_set (by rw [List.length_set, hlen, hl]; omega), hol]
    by_cases e : i = n + j
    · rw [if_pos e, if_pos (by omega)]
      congr 1
      unfold S
      rw [hown, hol, ih (n + j) (by omega), if_neg (by omega), e]
    · rw [if_neg e, getD_set (by rw [hlen, hl]; omega)]
      by_cases e2 : i = j
      · rw [if_pos e2, if_pos (by omega)]
        congr 1
        unfold W
        rw [ih j (by omega), if_neg (by omega), e2]
      · rw [if_neg e2, ih i hi]
        by_cases e3 : i < j ∨ (n ≤ i ∧ i < n + j)
        · rw [if_pos e3, if_pos (by omega)]
        · rw [if_neg e3, if_neg (by omega)]
theorem rmJ_all (h : Ok n T σ) (t : Nat) : rmJ σ t n = rm σ t := by
  obtain ⟨e1, e2, e3⟩ := rmJ_own (σ := σ) t n
  have e4 : (rmJ σ t n).ls = σ.ls.map (outL t) := by
    refine List.ext_getElem? (fun i => ?_)
    by_cases hi : i < n + n
    · have hi1 : i < (rmJ σ t n).ls.length := by rw [e3, h.ls.len]; exact hi
      have hi2 : i < (σ.ls.map (outL t)).length := by rw [List.length_map, h.ls.len]; exact hi
      rw [get_of (d := []) hi1, get_of (d := []) hi2, rmJ_at h t n (Nat.le_refl _) i hi, if_pos (by omega), getD_map (d := []) (show outL t [] = [] from rfl)]
    · rw [List.getElem?_eq_none (by rw [e3, h.ls.len]; omega), List.getElem?_eq_none (by rw [List.length_map, h.ls.len]; omega)]
  unfold rm
  rw [← e4, ← e1, ← e2]
theorem rmJ_len (h : Ok n T σ) (t : Nat) {j : Nat} (hj : j < n) : (W (rmJ σ t j) j).length ≤ 1024 ∧ (S (rmJ σ t j) j).length ≤ 1024 := by
  have hown := (rmJ_own (σ := σ) t j).1
  have hol := h.ol
  have e1 : W (rmJ σ t j) j = W σ j := by
    unfold W
    rw [rmJ_at h t j (by omega) j (by omega), if_neg (by omega)]
  have e2 : S (rmJ σ t j) j = S σ j := by
    unfold S
    rw [hown, hol, rmJ_at h t j (by omega) (n + j) (by omega), if_neg (by omega)]
  rw [e1, e2]
  exact ⟨h.wlen hj, h.slen hj⟩
end
section
variable {w w1 w2 w' w3 : World} {M ob wb sb ab n T : Nat} {R R' : List Nat} {vw vs : List Value} {σ : St} {q1 q2 : List Nat} {u1 u2 : Value}
theorem RM.store2 (h : RM w M ob wb sb ab R n T vw vs σ) (hb : But [] w w2) (h1 : RowI w2 w.heap.size u1 (ints q1)) (h2 : RowI w2 w.heap.size u2 (ints q2)) {j : Nat} (hj : j < n) :
    RM ((w2.setCell ⟨wb, j, none⟩ u1).setCell ⟨sb, j, none⟩ u2) M ob wb sb ab (u1.ownBlock.toList ++ (u2.ownBlock.toList ++ R)) n T (vw.set j u1) (vs.set j u2) ⟨σ.own, (σ.ls.set j q1).set (σ.own.length + j) q2, σ.ag⟩ ∧ Step R w (u1.ownBlock.toList ++ (u2.ownBlock.toList ++ R)) ((w2.setCell ⟨wb, j, none⟩ u1).setCell ⟨sb, j, none⟩ u2) := by
  obtain ⟨g1, g2, g3⟩ := h.grow hb h2
  have hlow := h1.low
  have f1 : RowF w2 [M, ob, wb, sb, ab] (u1.ownBlock.toList ++ (u2.ownBlock.toList ++ R)) u1 q1 := RowF.own h1 (fun x hx => h.lt x (h.fr x hx))
  have g4 := g1.more (R' := u1.ownBlock.toList ++ (u2.ownBlock.toList ++ R)) (fun x hx => List.mem_append.2 (.inr hx)) (fun x hx => by
    rcases List.mem_append.1 hx with hx | hx
    · exact (hlow x (by simpa using hx)).2
    · exact g1.lt x hx)
  have g5 := g4.setW hj f1
  have f2 : RowF (w2.setCell ⟨wb, j, none⟩ u1) [M, ob, wb, sb, ab] (u1.ownBlock.toList ++ (u2.ownBlock.toList ++ R)) u2 q2 := (g2.more (fun x hx => List.mem_append.2 (.inr hx))).put (fun g _ hg => Below.heap_setCell w2 ⟨wb, j, none⟩ _ g (fun e => hg (by simp [e])))
  refine ⟨g5.setS hj f2, ⟨(hb.wide.set (p := ⟨wb, j, none⟩) (h.fr wb (by simp)) _).set (p := ⟨sb, j, none⟩) (h.fr sb (by simp)) _, fun x hx => ?_⟩⟩
  rcases List.mem_append.1 hx with hx | hx
  · exact .inr (hlow x (by simpa using hx)).1
  · exact g3.new x hx
theorem dpL_len (t : Nat) : ∀ j, (dpL t σ j).length ≤ j
  | 0 => by simp [dpL]
  | j + 1 => by
    have := dpL_len t j
    unfold dpL
    split
    · simp
      omega
    · omega
set_option maxRecDepth 100000
set_option maxHeartbeats 8000000 in
theorem drop_any (hQ : RQ w M R n T σ) (t : Int) :
    Calls Try.prog 32 #[.pointer (some ⟨M, 0, none⟩), .int .i64 t] w fun e w' => ∃ v, e = .returned v ∧ RowI w' w.heap.size v (dropL σ t) ∧ ∃ R', RQ w' M R' n T (dropS σ t) ∧ Step R w R' w' ∧ ∀ k, v.ownBlock = some k → k ∉ R' := by
  obtain ⟨hok, ob0, wb0, sb0, ab0, vw0, vs0, h0⟩ := id hQ
  have A := thread_any h0 t
  obtain ⟨c0, a1⟩ := h0.c1
  have R0 : RowI w w.heap.size (.slice none 0 0) [] := ⟨by simp, .inl ⟨rfl, rfl⟩⟩
  have V0 : ∀ k, (Value.slice none 0 0).ownBlock = some k → k ∉ R := fun k e => by cases e
  have hS0 : RS w M R n T (rmJ σ t.toNat 0) := ⟨_, _, _, _, _, _, h0⟩
  clear h0
  unfold dropL dropS
  cases hT : inT σ t
  · rw [hT] at A
    simp only [Bool.false_eq_true, if_false]
    go_enter Try.func32, Try.ntmps32
    go_wp2_with (first | (go_at_call 57; (with_reducible refine A.mono ?_); rintro e w1 ⟨rfl, hw⟩; subst w1))
    go_ret
    exact ⟨_, rfl, R0, R, hQ, Step.refl _ _, V0⟩
  rw [hT] at A
  simp only [if_true]
  obtain ⟨b, rfl, hb⟩ := inT_out hok hT
  rw [Int.toNat_natCast] at hS0 ⊢
  rw [hok.ol]
  have hn := hok.n2
  have hrm := hok.rm b
  have hALL := rmJ_all hok b
  obtain ⟨ρ, hρ⟩ : ∃ ρ, Hid (rm σ b = ρ) := ⟨_, rfl⟩
  rw [hρ.out] at hrm hALL ⊢
  clear hρ
  go_enter Try.func32, Try.ntmps32
  go_wp2_with (first | (go_at_call 57; (with_reducible refine A.mono ?_); rintro e w1 ⟨rfl, hw⟩; subst w1))
  clear A hQ hT
  go_loopw [18, 6] (fun v _ wr => ∃ (j : Nat) (R1 : List Nat), j ≤ n ∧ v = .int .i64 j ∧ RS wr M R1 n T (rmJ σ b j) ∧ Step R w R1 wr) (fun v _ _ => 64 - (intOf v).toNat)
  case atStart => exact ⟨0, R, Nat.zero_le _, rfl, hS0, Step.refl _ _⟩
  case round =>
    clear hS0 a1
    obtain ⟨j, R1, hj, rfl, hR, hs⟩ := hrel
    by_cases hlt : j < n
    · have hlt' : (j : Int) < (n : Int) := by omega
      obtain ⟨ob, wb, sb, ab, vw, vs, h⟩ := hR
      obtain ⟨l1, l2⟩ := rmJ_len hok b hlt
      have hown := (rmJ_own (σ := σ) b j).1
      have hag := (rmJ_own (σ := σ) b j).2.1
      have hd := h.drew
      have hsd : Step R w R1 wr.drew := hs.trans (Step.keep (But.refl [] wr).drew)
      obtain ⟨cw, a2⟩ := h.c2
      obtain ⟨cs, a3⟩ := h.c3
      obtain ⟨vW, a4, hvW⟩ := h.wc hlt
      obtain ⟨vS, a5, hvS⟩ := h.sc hlt
      have OW := fun X (hX : But [] wr.drew X) => out_any (hvW.rd.below ((But.refl [] wr).drew.trans hX).to_below) (by rw [ints_len]; omega) (b : Int)
      have OS := fun X (hX : But [] wr.drew X) => out_any (hvS.rd.below ((But.refl [] wr).drew.trans hX).to_below) (by rw [ints_len]; omega) (b : Int)
      rw [← ints_out] at OW OS
      obtain ⟨aW, kW, rfl, -⟩ := hvW.rd
      obtain ⟨aS, kS, rfl, -⟩ := hvS.rd
      have FZ : ∀ X, But [] wr.drew X → X.frozen? ⟨wb, j, none⟩ = false ∧ X.frozen? ⟨sb, j, none⟩ = false := fun X hX => ⟨((hd.keep hX).fz j).2.1, ((hd.keep hX).fz j).2.2.1⟩
      have hne : sb ≠ wb ∧ M ≠ wb := ⟨h.nes.2.2.1.1.symm, h.nes.1.2.1⟩
      have EQ : (⟨(rmJ σ b j).own, ((rmJ σ b j).ls.set j (outL b (W (rmJ σ b j) j))).set ((rmJ σ b j).own.length + j) (outL b (S (rmJ σ b j) j)), (rmJ σ b j).ag⟩ : St) = rmJ σ b (j + 1) := by
        show _ = (⟨σ.own, ((rmJ σ b j).ls.set j (outL b (W (rmJ σ b j) j))).set (σ.own.length + j) (outL b (S (rmJ σ b j) j)), σ.ag⟩ : St)
        rw [hown, hag]
      have ST' : ∀ w2 u1 u2, But [] wr.drew w2 → RowI w2 wr.drew.heap.size u1 (ints (outL b (W (rmJ σ b j) j))) → RowI w2 wr.drew.heap.size u2 (ints (outL b (S (rmJ σ b j) j))) → ∃ R2, RS ((w2.setCell ⟨wb, j, none⟩ u1).setCell ⟨sb, j, none⟩ u2) M R2 n T (rmJ σ b (j + 1)) ∧ Step R1 wr.drew R2 ((w2.setCell ⟨wb, j, none⟩ u1).setCell ⟨sb, j, none⟩ u2) := fun w2 u1 u2 x1 x2 x3 => by
        obtain ⟨y1, y2⟩ := hd.store2 x1 x2 x3 hlt
        rw [EQ] at y1
        exact ⟨_, ⟨_, _, _, _, _, _, y1⟩, y2⟩
      clear EQ hown hag h hvW hvS hd
      generalize outL b (W (rmJ σ b j) j) = qW at *
      generalize outL b (S (rmJ σ b j) j) = qS at *
      generalize (ints (W (rmJ σ b j) j)).length = lW at *
      generalize (ints (S (rmJ σ b j) j)).length = lS at *
      go_upto_region 7 with fail
      have hmx : Try.prog.follows .mixedOrders = true := by kernel_rfl
      obtain ⟨V, hV⟩ : ∃ V, V = wr.drew := ⟨_, rfl⟩
      replace a2 : V.cell? ⟨M, 2, none⟩ = some (.slice (some ⟨wb, 0, none⟩) n cw) := hV ▸ a2
      replace a3 : V.cell? ⟨M, 3, none⟩ = some (.slice (some ⟨sb, 0, none⟩) n cs) := hV ▸ a3
      replace a4 : V.cell? ⟨wb, j, none⟩ = some (.slice aW lW kW) := hV ▸ a4
      replace a5 : V.cell? ⟨sb, j, none⟩ = some (.slice aS lS kS) := hV ▸ a5
      rw [← hV] at hsd OW OS ST' FZ
      have KS : ∀ w1, But [] V w1 → w1.cell? ⟨M, 2, none⟩ = some (.slice (some ⟨wb, 0, none⟩) n cw) ∧ w1.cell? ⟨M, 3, none⟩ = some (.slice (some ⟨sb, 0, none⟩) n cs) ∧ w1.cell? ⟨sb, j, none⟩ = some (.slice aS lS kS) := fun w1 hb => ⟨hb.cell a2, hb.cell a3, hb.cell a5⟩
      refine wp_region_K 31 (fun w' => w'.cell? ⟨M, 2, none⟩ = some (.slice (some ⟨wb, 0, none⟩) n cw) ∧ w'.cell? ⟨M, 3, none⟩ = some (.slice (some ⟨sb, 0, none⟩) n cs) ∧ w'.cell? ⟨sb, j, none⟩ = some (.slice aS lS kS)) hmx (by kernel_rfl) (by rw [← hV]; exact KS _ (But.refl [] V)) (fun hHeld hdep => ?_)
      rw [← hV]
      have hHeld2 := KS _ (But.refl [] V)
      clear hV hHeld
      refine wpAnyK_take (i := 0) (v := ?_) (some 21) rfl rfl hdep (by kernel_rfl) (fun _ _ _ h => h) (Or.inl ⟨by rfl, ?_⟩) (hHeld2) ?_
      rotate_left
      · (intro w hSw; obtain ⟨z0, z1, z2⟩ := hSw; go_simp; all_goals with_reducible rfl)
      try simp only [Act.put, List.setIfInBounds_toArray, List.set_cons_zero, List.set_cons_succ]
      refine wpAnyK_take (i := 1) (v := ?_) (some 22) rfl rfl hdep (by kernel_rfl) (fun _ _ _ h => h) (Or.inl ⟨by rfl, ?_⟩) (hHeld2) ?_
      rotate_left
      · (intro w hSw; obtain ⟨z0, z1, z2⟩ := hSw; go_simp; all_goals with_reducible rfl)
      try simp only [Act.put, List.setIfInBounds_toArray, List.set_cons_zero, List.set_cons_succ]
      refine wpAnyK_take (i := 2) (v := ?_) (some 23) rfl rfl hdep (by kernel_rfl) (fun _ _ _ h => h) (Or.inl ⟨by rfl, ?_⟩) (hHeld2) ?_
      rotate_left
      · (intro w hSw; obtain ⟨z0, z1, z2⟩ := hSw; go_simp; all_goals with_reducible rfl)
      try simp only [Act.put, List.setIfInBounds_toArray, List.set_cons_zero, List.set_cons_succ]
      refine wpAnyK_take (i := 3) (v := ?_) (some 24) rfl rfl hdep (by kernel_rfl) (fun _ _ _ h => h) (Or.inl ⟨by rfl, ?_⟩) (hHeld2) ?_
      rotate_left
      · (intro w hSw; obtain ⟨z0, z1, z2⟩ := hSw; go_simp; all_goals with_reducible rfl)
      try simp only [Act.put, List.setIfInBounds_toArray, List.set_cons_zero, List.set_cons_succ]
      refine wpAnyK_take (i := 4) (v := ?_) (some 25) rfl rfl hdep (by kernel_rfl) (fun _ _ _ h => h) (Or.inl ⟨by rfl, ?_⟩) (hHeld2) ?_
      rotate_left
      · (intro w hSw; obtain ⟨z0, z1, z2⟩ := hSw; go_simp; all_goals with_reducible rfl)
      try simp only [Act.put, List.setIfInBounds_toArray, List.set_cons_zero, List.set_cons_succ]
      refine wpAnyK_take (i := 5) (v := ?_) (some 26) rfl rfl hdep (by kernel_rfl) (fun _ _ _ h => h) (Or.inl ⟨by rfl, ?_⟩) (hHeld2) ?_
      rotate_left
      · (intro w hSw; obtain ⟨z0, z1, z2⟩ := hSw; go_simp; all_goals with_reducible rfl)
      try simp only [Act.put, List.setIfInBounds_toArray, List.set_cons_zero, List.set_cons_succ]
      refine wpAnyK_take (i := 6) (v := ?_) (some 27) rfl rfl hdep (by kernel_rfl) (fun _ _ _ h => h) (Or.inl ⟨by rfl, ?_⟩) (hHeld2) ?_
      rotate_left
      · (intro w hSw; obtain ⟨z0, z1, z2⟩ := hSw; go_simp; all_goals with_reducible rfl)
      try simp only [Act.put, List.setIfInBounds_toArray, List.set_cons_zero, List.set_cons_succ]
      refine wpAnyK_take (i := 7) (v := ?_) (some 28) rfl rfl hdep (by kernel_rfl) (fun _ _ _ h => h) (Or.inl ⟨by rfl, ?_⟩) (hHeld2) ?_
      rotate_left
      · (intro w hSw; obtain ⟨z0, z1, z2⟩ := hSw; go_simp; all_goals with_reducible rfl)
      try simp only [Act.put, List.setIfInBounds_toArray, List.set_cons_zero, List.set_cons_succ]
      refine wpAnyK_take (i := 8) (v := ?_) (some 29) rfl rfl hdep (by kernel_rfl) (fun _ _ _ h => h) (Or.inl ⟨by rfl, ?_⟩) (hHeld2) ?_
      rotate_left
      · (intro w hSw; obtain ⟨z0, z1, z2⟩ := hSw; go_simp; all_goals with_reducible rfl)
      try simp only [Act.put, List.setIfInBounds_toArray, List.set_cons_zero, List.set_cons_succ]
      refine wpAnyK_take (i := 9) (v := ?_) (some 30) rfl rfl hdep (by kernel_rfl) (fun _ _ _ h => h) (Or.inl ⟨by rfl, ?_⟩) (hHeld2) ?_
      rotate_left
      · (intro w hSw; obtain ⟨z0, z1, z2⟩ := hSw; go_simp; all_goals with_reducible rfl)
      try simp only [Act.put, List.setIfInBounds_toArray, List.set_cons_zero, List.set_cons_succ]
      refine wpAnyK_take (i := 10) (v := ?_) (some 31) rfl rfl hdep (by kernel_rfl) (fun _ _ _ h => h) (Or.inl ⟨by rfl, ?_⟩) (hHeld2) ?_
      rotate_left
      · (intro w hSw; obtain ⟨z0, z1, z2⟩ := hSw; go_simp; all_goals with_reducible rfl)
      try simp only [Act.put, List.setIfInBounds_toArray, List.set_cons_zero, List.set_cons_succ]
      refine wpAnyK_take (i := 11) (v := ?_) (some 32) rfl rfl hdep (by kernel_rfl) (fun _ _ _ h => h) (Or.inl ⟨by rfl, ?_⟩) (hHeld2) ?_
      rotate_left
      · (intro w hSw; obtain ⟨z0, z1, z2⟩ := hSw; go_simp; all_goals with_reducible rfl)
      try simp only [Act.put, List.setIfInBounds_toArray, List.set_cons_zero, List.set_cons_succ]
      refine wpAnyK_take (i := 12) (v := ?_) (some 33) rfl rfl hdep (by kernel_rfl) (fun _ _ _ h => h) (Or.inl ⟨by rfl, ?_⟩) (hHeld2) ?_
      rotate_left
      · (intro w hSw; obtain ⟨z0, z1, z2⟩ := hSw; go_simp; all_goals with_reducible rfl)
      try simp only [Act.put, List.setIfInBounds_toArray, List.set_cons_zero, List.set_cons_succ]
      refine wpAnyK_take (i := 13) (v := ?_) (some 34) rfl rfl hdep (by kernel_rfl) (fun _ _ _ h => h) (Or.inl ⟨by rfl, ?_⟩) (hHeld2) ?_
      rotate_left
      · (intro w hSw; obtain ⟨z0, z1, z2⟩ := hSw; go_simp; all_goals with_reducible rfl)
      try simp only [Act.put, List.setIfInBounds_toArray, List.set_cons_zero, List.set_cons_succ]
      refine wpAnyK_take (i := 14) (v := ?_) (some 35) rfl rfl hdep (by kernel_rfl) (fun _ _ _ h => h) (Or.inl ⟨by rfl, ?_⟩) (hHeld2) ?_
      rotate_left
      · (intro w hSw; obtain ⟨z0, z1, z2⟩ := hSw; go_simp; all_goals with_reducible rfl)
      try simp only [Act.put, List.setIfInBounds_toArray, List.set_cons_zero, List.set_cons_succ]
      refine wpAnyK_take (i := 15) (v := ?_) (some 36) rfl rfl hdep (by kernel_rfl) (fun _ _ _ h => h) (Or.inl ⟨by rfl, ?_⟩) (hHeld2) ?_
      rotate_left
      · (intro w hSw; obtain ⟨z0, z1, z2⟩ := hSw; go_simp; all_goals with_reducible rfl)
      try simp only [Act.put, List.setIfInBounds_toArray, List.set_cons_zero, List.set_cons_succ]
      refine wpAnyK_take (i := 17) (v := ?_) (some 38) rfl rfl hdep (by kernel_rfl) (fun _ _ _ h => h) (Or.inl ⟨by rfl, ?_⟩) (hHeld2) ?_
      rotate_left
      · (intro w hSw; obtain ⟨z0, z1, z2⟩ := hSw; go_simp; all_goals with_reducible rfl)
      try simp only [Act.put, List.setIfInBounds_toArray, List.set_cons_zero, List.set_cons_succ]
      refine wpAnyK_take (i := 19) (v := ?_) (some 40) rfl rfl hdep (by kernel_rfl) (fun _ _ _ h => h) (Or.inl ⟨by rfl, ?_⟩) (hHeld2) ?_
      rotate_left
      · (intro w hSw; obtain ⟨z0, z1, z2⟩ := hSw; go_simp; all_goals with_reducible rfl)
      try simp only [Act.put, List.setIfInBounds_toArray, List.set_cons_zero, List.set_cons_succ]
      refine wpAnyK_take (i := 20) (v := ?_) (some 41) rfl rfl hdep (by kernel_rfl) (fun _ _ _ h => h) (Or.inl ⟨by rfl, ?_⟩) (hHeld2) ?_
      rotate_left
      · (intro w hSw; obtain ⟨z0, z1, z2⟩ := hSw; go_simp; all_goals with_reducible rfl)
      try simp only [Act.put, List.setIfInBounds_toArray, List.set_cons_zero, List.set_cons_succ]
      refine wpAnyK_take (i := 21) (v := ?_) (some 42) rfl rfl hdep (by kernel_rfl) (fun _ _ _ h => h) (Or.inl ⟨by rfl, ?_⟩) (hHeld2) ?_
      rotate_left
      · (intro w hSw; obtain ⟨z0, z1, z2⟩ := hSw; go_simp; all_goals with_reducible rfl)
      try simp only [Act.put, List.setIfInBounds_toArray, List.set_cons_zero, List.set_cons_succ]
      refine wpAnyK_take (i := 22) (v := ?_) (some 43) rfl rfl hdep (by kernel_rfl) (fun _ _ _ h => h) (Or.inl ⟨by rfl, ?_⟩) (hHeld2) ?_
      rotate_left
      · (intro w hSw; obtain ⟨z0, z1, z2⟩ := hSw; go_simp; all_goals with_reducible rfl)
      try simp only [Act.put, List.setIfInBounds_toArray, List.set_cons_zero, List.set_cons_succ]
      refine wpAnyK_take (i := 23) (v := ?_) (some 44) rfl rfl hdep (by kernel_rfl) (fun _ _ _ h => h) (Or.inl ⟨by rfl, ?_⟩) (hHeld2) ?_
      rotate_left
      · (intro w hSw; obtain ⟨z0, z1, z2⟩ := hSw; go_simp; all_goals with_reducible rfl)
      try simp only [Act.put, List.setIfInBounds_toArray, List.set_cons_zero, List.set_cons_succ]
      refine wpAnyK_take (i := 24) (v := ?_) (some 45) rfl rfl hdep (by kernel_rfl) (fun _ _ _ h => h) (Or.inl ⟨by rfl, ?_⟩) (hHeld2) ?_
      rotate_left
      · (intro w hSw; obtain ⟨z0, z1, z2⟩ := hSw; go_simp; all_goals with_reducible rfl)
      try simp only [Act.put, List.setIfInBounds_toArray, List.set_cons_zero, List.set_cons_succ]
      refine wpAnyK_take (i := 25) (v := ?_) (some 46) rfl rfl hdep (by kernel_rfl) (fun _ _ _ h => h) (Or.inl ⟨by rfl, ?_⟩) (hHeld2) ?_
      rotate_left
      · (intro w hSw; obtain ⟨z0, z1, z2⟩ := hSw; go_simp; all_goals with_reducible rfl)
      try simp only [Act.put, List.setIfInBounds_toArray, List.set_cons_zero, List.set_cons_succ]
      refine wpAnyK_take (i := 26) (v := ?_) (some 47) rfl rfl hdep (by kernel_rfl) (fun _ _ _ h => h) (Or.inl ⟨by rfl, ?_⟩) (hHeld2) ?_
      rotate_left
      · (intro w hSw; obtain ⟨z0, z1, z2⟩ := hSw; go_simp; all_goals with_reducible rfl)
      try simp only [Act.put, List.setIfInBounds_toArray, List.set_cons_zero, List.set_cons_succ]
      refine wpAnyK_one (i := 16) (by kernel_rfl) rfl (fun K hK => ?_)
      go_simp
      refine hK.out _ _ (fun _ => hHeld2) ?_
      clear hK K
      try simp only [Act.put, List.setIfInBounds_toArray, List.set_cons_zero, List.set_cons_succ]
      refine wpAnyK_one (i := 18) (by kernel_rfl) rfl (fun K hK => ?_)
      go_simp
      go_at_call 60
      refine (OW _ (But.refl [] V)).mono ?_
      rintro e w1 ⟨u1, rfl, r1, b1⟩
      obtain ⟨x1, y1, rfl⟩ := own_shape r1
      have k1 : But [] V w1 := .of_below b1
      refine hK.out _ _ (fun _ => KS _ k1) ?_
      clear hK K
      try simp only [Act.put, List.setIfInBounds_toArray, List.set_cons_zero, List.set_cons_succ]
      refine wpAnyK_one (i := 27) (by kernel_rfl) rfl (fun K hK => ?_)
      go_simp
      go_at_call 60
      refine (OS _ k1).mono ?_
      rintro e w2 ⟨u2, rfl, r2, b2⟩
      obtain ⟨x2, y2, rfl⟩ := own_shape r2
      have k2 : But [] V w2 := k1.trans (.of_below b2)
      replace r1 := r1.below b2
      replace r2 := row_lower r2 k1.size
      refine hK.out _ _ (fun _ => KS _ k2) ?_
      clear hK K
      try simp only [Act.put, List.setIfInBounds_toArray, List.set_cons_zero, List.set_cons_succ]
      refine wpAnyK_take (i := 28) (v := ?_) (some 49) rfl rfl hdep (by kernel_rfl) (fun _ _ _ h => h) (Or.inl ⟨by rfl, ?_⟩) (KS _ k2) ?_
      rotate_left
      · (intro w hSw; obtain ⟨z0, z1, z2⟩ := hSw; go_simp; all_goals with_reducible rfl)
      try simp only [Act.put, List.setIfInBounds_toArray, List.set_cons_zero, List.set_cons_succ]
      have fw := (FZ _ k2).1
      have fs := (FZ _ k2).2
      obtain ⟨z0, z1, z2⟩ := KS _ k2
      have o4 := k2.cell a4
      have kS3 : ∀ u, (w2.setCell ⟨wb, j, none⟩ u).cell? ⟨M, 2, none⟩ = some (.slice (some ⟨wb, 0, none⟩) n cw) ∧ (w2.setCell ⟨wb, j, none⟩ u).cell? ⟨M, 3, none⟩ = some (.slice (some ⟨sb, 0, none⟩) n cs) ∧ (w2.setCell ⟨wb, j, none⟩ u).cell? ⟨sb, j, none⟩ = some (.slice aS lS kS) := fun u => by
        have hb := (But.refl [wb] w2).set (p := ⟨wb, j, none⟩) (by simp) u
        exact ⟨hb.cell' z0 (by simpa using hne.2), hb.cell' z1 (by simpa using hne.2), hb.cell' z2 (by simpa using hne.1)⟩
      have fz3 : ∀ u, (w2.setCell ⟨wb, j, none⟩ u).frozen? ⟨sb, j, none⟩ = false := fun u => by
        have : (w2.setCell ⟨wb, j, none⟩ u).heap[sb]? = w2.heap[sb]? := Below.heap_setCell w2 ⟨wb, j, none⟩ u sb hne.1
        unfold World.frozen? at fs ⊢
        dsimp only at fs ⊢
        rw [this]
        exact fs
      refine wpAnyK_one (i := 29) (by kernel_rfl) rfl (fun K hK => ?_)
      go_simp
      refine hK.out _ _ (fun _ => kS3 _) ?_
      clear hK K
      try simp only [Act.put, List.setIfInBounds_toArray, List.set_cons_zero, List.set_cons_succ]
      refine wpAnyK_take (i := 30) (v := ?_) (some 50) rfl rfl hdep (by kernel_rfl) (fun _ _ _ h => h) (Or.inl ⟨by rfl, ?_⟩) (kS3 _) ?_
      rotate_left
      · (intro w hSw; obtain ⟨z0, z1, z2⟩ := hSw; go_simp; all_goals with_reducible rfl)
      try simp only [Act.put, List.setIfInBounds_toArray, List.set_cons_zero, List.set_cons_succ]
      have fz4 := fz3 (.slice x1 (ints qW).length y1)
      obtain ⟨z3, z4, z5⟩ := kS3 (.slice x1 (ints qW).length y1)
      refine wpAnyK_one (i := 31) (by kernel_rfl) rfl (fun K hK => ?_)
      go_simp
      refine hK.out _ _ (fun h => absurd rfl h) ?_
      clear hK K
      try simp only [Act.put, List.setIfInBounds_toArray, List.set_cons_zero, List.set_cons_succ]
      refine wpAnyK_done (by kernel_rfl) ?_
      obtain ⟨R2, g1, g2⟩ := ST' _ _ _ k2 r1 r2
      go_wp2_with fail
      go_roundw
      case rel => exact ⟨j + 1, R2, by omega, by simp, g1, hsd.trans g2⟩
      case measure =>
        simp [intOf]
        omega
    · obtain rfl : j = n := by omega
      rw [hALL] at hR
      obtain ⟨ob, wb, sb, ab, vw, vs, h⟩ := hR
      obtain ⟨c1, b1⟩ := h.c1
      have hQ : RQ wr M R1 j T ρ := ⟨hrm, _, _, _, _, _, _, h⟩
      have R0' : RowI wr w.heap.size (.slice none 0 0) (dpL b ρ 0) := ⟨by simp [dpL], .inl ⟨rfl, rfl⟩⟩
      have V0' : ∀ k, (Value.slice none 0 0).ownBlock = some k → k ∉ R1 := fun k e => by cases e
      clear h hlt hj hALL
      clear hok
      go_wp2_with fail
      go_loopw [57, 5, 7, 8] (fun v tl _ _ wx => ∃ (i : Nat) (R2 : List Nat), i ≤ j ∧ v = .int .i64 i ∧ RowI wx w.heap.size tl (dpL b ρ i) ∧ (∀ k, tl.ownBlock = some k → k ∉ R2) ∧ RQ wx M R2 j T (dpS b ρ i) ∧ Step R w R2 wx) (fun v _ _ _ _ => 64 - (intOf v).toNat)
      case atStart => exact ⟨0, R1, Nat.zero_le _, rfl, R0', V0', hQ, hs⟩
      case round =>
        clear hQ R0' V0' hs b1
        obtain ⟨i, R2, hi, rfl, hr, hv, hQ, hs⟩ := hrel
        obtain ⟨va, vc, rfl⟩ := own_shape hr
        by_cases hlt : i < j
        · have hlt' : (i : Int) < (j : Int) := by omega
          have hP := pass_any hQ hlt
          obtain ⟨hok, ob, wb, sb, ab, vw, vs, h⟩ := id hQ
          obtain ⟨c2, d1⟩ := h.c1
          have d2 := h.own hlt
          clear h
          have hl := dpL_len (σ := ρ) b i
          by_cases hm : ow (dpS b ρ i) i = (b : Int)
          · have eS : Hid (dpS b ρ (i + 1) = passS (dpS b ρ i) i) := by show dpS b ρ (i + 1) = _; rw [dpS]; rw [if_pos hm]
            rw [hm] at d2
            by_cases hz : passV (dpS b ρ i) i = -1
            · have eL : Hid (dpL b ρ (i + 1) = dpL b ρ i) := by show dpL b ρ (i + 1) = _; rw [dpL]; rw [if_neg (fun h => h.2 hz)]
              rw [hz] at hP
              go_wp2_with (first | (go_at_call 59; (with_reducible refine hP.mono ?_); rintro e w4 ⟨rfl, R4, h4, s4⟩))
              obtain ⟨r4, v4⟩ := told_on hr hv s4
              go_roundw
              case rel => exact ⟨i + 1, R4, by omega, by simp, by rw [eL.out]; exact r4, v4, by rw [eS.out]; exact h4, hs.trans s4⟩
              case measure =>
                simp [intOf]
                omega
            · have eL : Hid (dpL b ρ (i + 1) = dpL b ρ i ++ [passV (dpS b ρ i) i]) := by show dpL b ρ (i + 1) = _; rw [dpL]; rw [if_pos ⟨hm, hz⟩]
              have hz0 : 0 ≤ passV (dpS b ρ i) i := by
                unfold passV at hz ⊢
                obtain ⟨x, r, -, e⟩ := headV_mem hz
                omega
              have hz1 : ¬ passV (dpS b ρ i) i < 0 := by omega
              generalize passS (dpS b ρ i) i = ρ2 at *
              generalize passV (dpS b ρ i) i = z at *
              generalize hLL : dpL b ρ i = L at *
              clear hLL
              go_wp2_with (first
                | (go_at_call 59; (with_reducible refine hP.mono ?_); rintro e w4 ⟨rfl, R4, h4, s4⟩; have k4 := told_on hr hv s4; have hR1 : RowI (w4.alloc (.cells #[.int .i64 z] 3)) w.heap.size (.slice va L.length vc) L := k4.1.below ((Below.refl _ w4).alloc (Nat.le_refl _) _); have hlow := fun k e => (k4.1.low k e).1; have hsz : w.heap.size ≤ (w4.alloc (.cells #[.int .i64 z] 3)).heap.size := by (have := (hs.trans s4).but.size; simp; omega))
                | (at_builtin; refine wpList_app1 rfl (.tmp 74) (.tmp 76) rfl w.heap.size _ L rfl hR1 _ _ z rfl (reads_one _ _) (by omega) hsz ?_; intro v5 w5 hr5 hg5 ha5))
              have h5 := h4.app hg5 k4.2
              have s5 : Step R w R4 w5 := Step.app (hs.trans s4) hg5 hlow
              have v5' : ∀ k, v5.ownBlock = some k → k ∉ R4 := fun k e hk => by
                rcases ha5 with h | h
                · exact k4.2 k (h ▸ e) hk
                · rw [h] at e
                  have := Option.some.inj e
                  have := h4.lt k hk
                  simp at *
                  omega
              go_roundw
              case rel => exact ⟨i + 1, R4, by omega, by simp, by rw [eL.out]; exact hr5, v5', by rw [eS.out]; exact h5, s5⟩
              case measure =>
                simp [intOf]
                omega
          · have eS : Hid (dpS b ρ (i + 1) = dpS b ρ i) := by show dpS b ρ (i + 1) = _; rw [dpS]; rw [if_neg hm]
            have eL : Hid (dpL b ρ (i + 1) = dpL b ρ i) := by show dpL b ρ (i + 1) = _; rw [dpL]; rw [if_neg (fun h => hm h.1)]
            have hm' : (ow (dpS b ρ i) i == (b : Int)) = false := by simpa using hm
            generalize ow (dpS b ρ i) i = x at *
            go_wp2_with fail
            go_roundw
            case rel => exact ⟨i + 1, R2, by omega, by simp, by rw [eL.out]; exact hr, hv, by rw [eS.out]; exact hQ, hs⟩
            case measure =>
              simp [intOf]
              omega
        · obtain rfl : i = j := by omega
          go_wp2_with fail
          go_ret
          exact ⟨_, rfl, hr, R2, hQ, hs, hv⟩
end
end Go.Proofs.Ytimoleijdfoahaa.Lo
