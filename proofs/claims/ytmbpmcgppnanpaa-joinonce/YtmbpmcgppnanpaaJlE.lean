/- End. -/
import Derived.Test.YtmbpmcgppnanpaaJlV
namespace Go.Proofs.Ytmbpmcgppnanpaa.Jl
open Go Go.RowKit Go.Shelf Go.Proofs.Ytmbpmcgppnanpaa.Bs Go.Proofs.Ytmbpmcgppnanpaa.Jn
open Go.Proofs.Ytmbpmcgppnanpaa.Ids (right indexI ageI idI index_any)
open Go.Proofs.Ytmbpmcgppnanpaa.Lk (LQ Pl iv ints inN_of wI wI_nat whI_cases remE remS remove_any lsI lsI_get lsI_nat filter_mid)
attribute [local go_sem] Oper.semAt_some
set_option linter.unusedSimpArgs false
variable {w w' : World} {B t j n : Nat} {P : Pl} {σ : St} {ls : List (List Nat)} {wt : List Int}

theorem iv_ix {x : Int} (h : 0 ≤ indexI x) : Iv x := by
  have h := right_of h
  exact ⟨by have := h.1; omega, by have := h.2; omega⟩
/-- The first of a list is removed. -/
theorem rem_first (ho : Lk.Ok n n ls) {k : Nat} {p : Nat} {q : List Nat} (hq : ls[k]? = some (p :: q)) : remE n ls (p : Int) = 0 ∧ remS n ls (p : Int) = ls.set k q := by
  have hp : p < n := ho.lt k _ hq p (List.mem_cons_self ..)
  have hw : wI ls (p : Int) = k := by
    rw [wI_nat]
    rcases whI_cases ho.len p with ⟨-, hn⟩ | ⟨i, q', h1, h2, e, -⟩
    · exact absurd (List.mem_cons_self ..) (hn k _ hq)
    · by_cases hik : i = k
      · rw [e, hik]
      · exact absurd (List.mem_cons_self ..) (ho.dj i k _ _ h1 hq hik p h2)
  have h0 : remE n ls (p : Int) = 0 := by
    unfold remE
    rw [inN_of hp, if_pos rfl, hw, if_neg (by omega)]
  refine ⟨h0, ?_⟩
  unfold remS
  rw [if_pos h0, hw, lsI_get hq, Int.toNat_natCast, Int.toNat_natCast]
  have := filter_mid (pre := []) (post := q) (t := p) (ho.nd k _ hq)
  rw [List.nil_append, List.nil_append] at this
  rw [this]
theorem rem_at {k i : Nat} {q : List Nat} (h : PM w B t j P n σ (ls.set k (q.drop i)) wt) (hk : k < n) (hi : i < q.length) : Calls Try.prog 41 #[.pointer (some ⟨P.B, 0, none⟩), .int .i64 (q[i] : Nat)] w fun e w' => e = .returned (.int .i64 0) ∧ PM w' B t j P n σ (ls.set k (q.drop (i + 1))) wt ∧ But (bl B t j P) w w' := by
  have ho := h.q.ok
  have hl : k < ls.length := by
    have := ho.len
    rw [List.length_set] at this
    omega
  have hg : (ls.set k (q.drop i))[k]? = some (q[i] :: q.drop (i + 1)) := by rw [List.getElem?_set_self hl, List.drop_eq_getElem_cons hi]
  obtain ⟨r1, r2⟩ := rem_first ho hg
  have hR := remove_any h.q (q[i] : Nat)
  rw [r1, r2, List.set_set] at hR
  exact hR.mono fun e w' ⟨h1, h2, h3⟩ => ⟨h1, h.lists h2 h3, h3.mono (sub_S B t j P)⟩
section
set_option maxRecDepth 100000
set_option maxHeartbeats 2000000
theorem end_any (h : PM w B t j P n σ ls wt) (l : Li n σ ls wt) (H : Ok n σ) (id va : Int) (hi : Iv id) :
    Calls Try.prog 15 #[.pointer (some ⟨B, 0, none⟩), .int .i64 id, .int .i64 va] w fun e w' => ∃ v, e = .returned (.tuple #[v, .int .i64 (endE σ id)]) ∧ RowI w' w.heap.size v (endL σ id) ∧ ∃ l2, PM w' B t j P n (endS σ id va) l2 wt ∧ Li n (endS σ id va) l2 wt ∧ But (bl B t j P) w w' := by
  have hM := made_any h
  have HO := of_any h H id hi
  have HG := fun W => going_any id W
  obtain ⟨a, b, c, e, -, en, -, -⟩ := of_parts H id
  rw [e] at HO
  have NE := fun W => neK W a b c id 1 0
  rw [en] at NE
  unfold agK at HO HG NE
  by_cases hs : stI σ id = 1
  rotate_left
  · have e1 : endE σ id = 4 := by unfold endE; rw [if_neg hs]
    have e2 : endL σ id = [] := by unfold endL; rw [if_neg hs]
    have e3 : endS σ id va = σ := by unfold endS; rw [if_neg hs]
    rw [e1, e2, e3]
    rw [decide_eq_false hs, Bool.not_false] at NE
    clear hs e1 e2 e3 e en
    go_enter Try.func15, Try.ntmps15
    go_wp2_with (first
      | (go_at_call 40; (with_reducible refine hM.mono ?_); rintro e w1 ⟨rfl, hw⟩; subst w1)
      | (go_at_call 35; (with_reducible refine HO.mono ?_); rintro e w1 ⟨rfl, b1⟩)
      | (go_at_call 33; (with_reducible refine (HG _).mono ?_); rintro e w2 ⟨rfl, b2⟩))
    have b12 : But [] w w2 := (But.of_below (S := []) b1).trans (.of_below b2)
    go_ret2
    exact ⟨_, rfl, ⟨by simp, .inl ⟨rfl, rfl⟩⟩, ls, h.keep b12, l, b12.wide⟩
  obtain ⟨k, e1, hk, e3, e4, ea, eid, -⟩ := H.st1 hs
  obtain ⟨l2, hL⟩ := l.fin H va hs e1
  have HW : ∀ X, PM X B t j P n σ ls wt → _ := fun X hX => waiters_any (w := X) hX l H id hi
  rw [decide_eq_true hs, Bool.not_true] at NE
  have eE : endE σ id = 0 := by unfold endE; rw [if_pos hs]
  have eS : endS σ id va = σ.set k ⟨id, true, va, []⟩ := by unfold endS; rw [if_pos hs, e1, Int.toNat_natCast, ea, eid]
  have eW : waitL σ id = (lsN ls k).map (wtI wt) := hL
  rw [eW] at HW
  rw [eS] at l2
  rw [eE, hL, eS]
  have I := fun X => index_any id hi.1 hi.2 X
  rw [e3] at I
  have hr : ∀ X l3, PM X B t j P n σ l3 wt → PM (((X.setCell ⟨t, k * 3, none⟩ (.int .i64 id)).setCell ⟨t, k * 3 + 1, none⟩ (.int .i64 2)).setCell ⟨t, k * 3 + 2, none⟩ (.int .i64 va)) B t j P n (σ.set k ⟨id, true, va, []⟩) l3 wt := fun X l3 hX => by
    have := hX.setK hk ⟨id, true, va, []⟩
    have e5 : stN (⟨id, true, va, []⟩ : Rw) = 2 := by unfold stN; rw [if_neg (id_ne e4)]; rfl
    have e6 : vaN (⟨id, true, va, []⟩ : Rw) = va := rfl
    rw [e5, e6] at this
    exact this
  obtain ⟨q, hq⟩ : ∃ q, q = lsN ls k := ⟨_, rfl⟩
  have hix : ∀ i (hi : i < q.length), indexI (wtI wt q[i]) = q[i] := fun i hi => l.ix k hk _ (hq ▸ List.getElem_mem hi)
  have hiv : ∀ i (hi : i < q.length), Iv (wtI wt q[i]) := fun i hi => iv_ix (by rw [hix i hi]; omega)
  have hle : q.length ≤ n := by rw [hq]; exact l.lk.short (lsN_get l.lk hk)
  have h0 : ls.set k (q.drop 0) = ls := by rw [List.drop_zero, hq, Lk.set_same (lsN_get l.lk hk)]
  have hend : ls.set k (q.drop q.length) = ls.set k [] := by rw [List.drop_length]
  rw [← hq] at HW ⊢
  have hml : (q.map (wtI wt)).length = q.length := List.length_map ..
  have hmg : ∀ i (hi : i < q.length), (q.map (wtI wt))[i]? = some (wtI wt q[i]) := fun i hi => by rw [List.getElem?_map, List.getElem?_eq_getElem hi]; rfl
  generalize q.map (wtI wt) = qq at *
  have hN := H.n2
  have hk' : (k : Int) < (n : Int) := by omega
  have hlt := h.lt
  have hmx : Try.prog.follows .mixedOrders = true := by kernel_rfl
  clear hs e en e1 ea eW hL eE eS hq
  go_enter Try.func15, Try.ntmps15
  go_wp2_with (first
    | (go_at_call 40; (with_reducible refine hM.mono ?_); rintro e w1 ⟨rfl, hw⟩; subst w1)
    | (go_at_call 35; (with_reducible refine HO.mono ?_); rintro e w1 ⟨rfl, b1⟩)
    | (go_at_call 33; (with_reducible refine (HG _).mono ?_); rintro e w2 ⟨rfl, b2⟩; have h2 := h.keep ((But.of_below (S := []) b1).trans (.of_below b2)))
    | (go_at_call 19; (with_reducible refine (HW _ h2).mono ?_); rintro e w3 ⟨v, rfl, rv, b3⟩; have h3 := h2.keep (.of_below b3); have hr3 : RowI w3 w.heap.size v qq := row_lower rv (by have := b1.size; have := b2.size; omega); have hb3 : But (bl B t j P) w w3 := ((But.of_below b1).trans (.of_below b2)).trans (.of_below b3); obtain ⟨av, cv, rfl⟩ := own_shape hr3))
  rw [hml] at hr3
  clear HW HO HG NE hM rv
  go_loopw [27, 10] (fun v _ wr => ∃ i : Nat, i ≤ q.length ∧ v = .int .i64 i ∧ PM wr B t j P n σ (ls.set k (q.drop i)) wt ∧ RowI wr w.heap.size (.slice av q.length cv) qq ∧ But (bl B t j P) w wr) (fun v _ _ => 1024 - (intOf v).toNat)
  case atStart => exact ⟨0, by omega, rfl, by rw [h0]; exact h3, hr3, hb3⟩
  case round =>
    clear h3 hr3 hb3 h2 b1 b2 b3
    obtain ⟨i, hiq, rfl, hP, hR, hB⟩ := hrel
    by_cases hil : i < q.length
    · have hil' : (i : Int) < (q.length : Int) := by omega
      obtain ⟨g, rfl, cg⟩ := hR.at i _ (hmg i hil)
      have RM := fun X (hX : PM X B t j P n σ (ls.set k (q.drop i)) wt) => rem_at hX hk hil
      have J := fun X => index_any (wtI wt q[i]) (hiv i hil).1 (hiv i hil).2 X
      rw [hix i hil] at J
      generalize wtI wt q[i] = y at *
      have c1 := hP.c1
      go_upto_region 9 with fail
      have hB0 : But [] wr wr.drew := (But.refl [] wr).drew
      have KB : ∀ X, But [] wr X → X.cell? ⟨B, 1, none⟩ = some (.pointer (some ⟨P.B, 0, none⟩)) := fun X hX => hX.cell c1
      refine wp_region_K 6 (fun X => X.cell? ⟨B, 1, none⟩ = some (.pointer (some ⟨P.B, 0, none⟩))) hmx (by kernel_rfl) (KB _ hB0) (fun hHeld hdep => ?_)
      refine wpAnyK_take (i := 0) (v := ?_) (some 31) rfl rfl hdep (by kernel_rfl) (fun _ _ _ h => h) (Or.inl ⟨by rfl, ?_⟩) (KB _ hB0) ?_
      rotate_left
      · (intro w hSw; go_simp; all_goals with_reducible rfl)
      try simp only [Act.put, List.setIfInBounds_toArray, List.set_cons_zero, List.set_cons_succ]
      refine wpAnyK_take (i := 1) (v := ?_) (some 32) rfl rfl hdep (by kernel_rfl) (fun _ _ _ h => h) (Or.inl ⟨by rfl, ?_⟩) (KB _ hB0) ?_
      rotate_left
      · (intro w hSw; go_simp; all_goals with_reducible rfl)
      try simp only [Act.put, List.setIfInBounds_toArray, List.set_cons_zero, List.set_cons_succ]
      refine wpAnyK_take (i := 2) (v := ?_) (some 33) rfl rfl hdep (by kernel_rfl) (fun _ _ _ h => h) (Or.inl ⟨by rfl, ?_⟩) (KB _ hB0) ?_
      rotate_left
      · (intro w hSw; go_simp; all_goals with_reducible rfl)
      try simp only [Act.put, List.setIfInBounds_toArray, List.set_cons_zero, List.set_cons_succ]
      refine wpAnyK_take (i := 3) (v := ?_) (some 34) rfl rfl hdep (by kernel_rfl) (fun _ _ _ h => h) (Or.inl ⟨by rfl, ?_⟩) (KB _ hB0) ?_
      rotate_left
      · (intro w hSw; go_simp; all_goals with_reducible rfl)
      try simp only [Act.put, List.setIfInBounds_toArray, List.set_cons_zero, List.set_cons_succ]
      refine wpAnyK_take (i := 4) (v := ?_) (some 35) rfl rfl hdep (by kernel_rfl) (fun _ _ _ h => h) (Or.inl ⟨by rfl, ?_⟩) (KB _ hB0) ?_
      rotate_left
      · (intro w hSw; go_simp; all_goals with_reducible rfl)
      try simp only [Act.put, List.setIfInBounds_toArray, List.set_cons_zero, List.set_cons_succ]
      refine wpAnyK_one (i := 5) (by kernel_rfl) rfl (fun K hK => ?_)
      go_simp
      go_at_call 34
      refine (J _).mono ?_
      rintro e w3 ⟨rfl, hw⟩
      subst w3
      refine hK.out _ _ (fun _ => KB _ hB0) ?_
      clear hK K
      try simp only [Act.put, List.setIfInBounds_toArray, List.set_cons_zero, List.set_cons_succ]
      refine wpAnyK_one (i := 6) (by kernel_rfl) rfl (fun K hK => ?_)
      go_simp
      go_at_call 41
      refine (RM _ (hP.keep hB0)).mono ?_
      rintro e w4 ⟨rfl, hP4, b4'⟩
      have b4 : But (bl B t j P) wr w4 := hB0.wide.trans b4'
      refine hK.out _ _ (fun h => absurd rfl h) ?_
      clear hK K
      try simp only [Act.put, List.setIfInBounds_toArray, List.set_cons_zero, List.set_cons_succ]
      refine wpAnyK_done (by kernel_rfl) ?_
      go_wp2_with fail
      go_roundw
      case rel => exact ⟨i + 1, by omega, by simp, hP4, hR.but b4 (fun x hx => hlt x hx), hB.trans b4⟩
      case measure =>
        simp [intOf]
        omega
    obtain rfl : i = q.length := by omega
    rw [hend] at hP
    obtain ⟨c, hc, c0⟩ := hP.c0
    have f0 := hP.ft (k * 3)
    have f1 := hP.ft (k * 3 + 1)
    have f2 := hP.ft (k * 3 + 2)
    have r0 := hP.r0 hk
    have r1 := hP.r1 hk
    have r2 := hP.r2 hk
    go_upto_region 11 with fail
    have hB0 : But [] wr wr.drew := (But.refl [] wr).drew
    have KB : ∀ X, But [] wr X → X.cell? ⟨B, 0, none⟩ = some (.slice (some ⟨t, 0, none⟩) n c) := fun X hX => hX.cell c0
    refine wp_region_K 10 (fun X => X.cell? ⟨B, 0, none⟩ = some (.slice (some ⟨t, 0, none⟩) n c)) hmx (by kernel_rfl) (KB _ hB0) (fun hHeld hdep => ?_)
    refine wpAnyK_take (i := 0) (v := ?_) (some 39) rfl rfl hdep (by kernel_rfl) (fun _ _ _ h => h) (Or.inl ⟨by rfl, ?_⟩) (KB _ hB0) ?_
    rotate_left
    · (intro w hSw; go_simp; all_goals with_reducible rfl)
    try simp only [Act.put, List.setIfInBounds_toArray, List.set_cons_zero, List.set_cons_succ]
    refine wpAnyK_take (i := 1) (v := ?_) (some 40) rfl rfl hdep (by kernel_rfl) (fun _ _ _ h => h) (Or.inl ⟨by rfl, ?_⟩) (KB _ hB0) ?_
    rotate_left
    · (intro w hSw; go_simp; all_goals with_reducible rfl)
    try simp only [Act.put, List.setIfInBounds_toArray, List.set_cons_zero, List.set_cons_succ]
    refine wpAnyK_take (i := 2) (v := ?_) (some 41) rfl rfl hdep (by kernel_rfl) (fun _ _ _ h => h) (Or.inl ⟨by rfl, ?_⟩) (KB _ hB0) ?_
    rotate_left
    · (intro w hSw; go_simp; all_goals with_reducible rfl)
    try simp only [Act.put, List.setIfInBounds_toArray, List.set_cons_zero, List.set_cons_succ]
    refine wpAnyK_take (i := 3) (v := ?_) (some 42) rfl rfl hdep (by kernel_rfl) (fun _ _ _ h => h) (Or.inl ⟨by rfl, ?_⟩) (KB _ hB0) ?_
    rotate_left
    · (intro w hSw; go_simp; all_goals with_reducible rfl)
    try simp only [Act.put, List.setIfInBounds_toArray, List.set_cons_zero, List.set_cons_succ]
    refine wpAnyK_take (i := 4) (v := ?_) (some 43) rfl rfl hdep (by kernel_rfl) (fun _ _ _ h => h) (Or.inl ⟨by rfl, ?_⟩) (KB _ hB0) ?_
    rotate_left
    · (intro w hSw; go_simp; all_goals with_reducible rfl)
    try simp only [Act.put, List.setIfInBounds_toArray, List.set_cons_zero, List.set_cons_succ]
    refine wpAnyK_take (i := 6) (v := ?_) (some 45) rfl rfl hdep (by kernel_rfl) (fun _ _ _ h => h) (Or.inl ⟨by rfl, ?_⟩) (KB _ hB0) ?_
    rotate_left
    · (intro w hSw; go_simp; all_goals with_reducible rfl)
    try simp only [Act.put, List.setIfInBounds_toArray, List.set_cons_zero, List.set_cons_succ]
    refine wpAnyK_take (i := 7) (v := ?_) (some 46) rfl rfl hdep (by kernel_rfl) (fun _ _ _ h => h) (Or.inl ⟨by rfl, ?_⟩) (KB _ hB0) ?_
    rotate_left
    · (intro w hSw; go_simp; all_goals with_reducible rfl)
    try simp only [Act.put, List.setIfInBounds_toArray, List.set_cons_zero, List.set_cons_succ]
    refine wpAnyK_take (i := 8) (v := ?_) (some 47) rfl rfl hdep (by kernel_rfl) (fun _ _ _ h => h) (Or.inl ⟨by rfl, ?_⟩) (KB _ hB0) ?_
    rotate_left
    · (intro w hSw; go_simp; all_goals with_reducible rfl)
    try simp only [Act.put, List.setIfInBounds_toArray, List.set_cons_zero, List.set_cons_succ]
    refine wpAnyK_one (i := 5) (by kernel_rfl) rfl (fun K hK => ?_)
    go_simp
    go_at_call 34
    refine (I _).mono ?_
    rintro e w3 ⟨rfl, hw⟩
    subst w3
    refine hK.out _ _ (fun _ => KB _ hB0) ?_
    clear hK K
    try simp only [Act.put, List.setIfInBounds_toArray, List.set_cons_zero, List.set_cons_succ]
    refine wpAnyK_one (i := 9) (by kernel_rfl) rfl (fun K hK => ?_)
    go_simp
    refine hK.out _ _ (fun _ => KB _ hB0) ?_
    clear hK K
    try simp only [Act.put, List.setIfInBounds_toArray, List.set_cons_zero, List.set_cons_succ]
    refine wpAnyK_one (i := 10) (by kernel_rfl) rfl (fun K hK => ?_)
    go_simp
    refine hK.out _ _ (fun h => absurd rfl h) ?_
    clear hK K
    try simp only [Act.put, List.setIfInBounds_toArray, List.set_cons_zero, List.set_cons_succ]
    refine wpAnyK_done (by kernel_rfl) ?_
    go_wp2_with fail
    go_ret2
    have hZ : But (bl B t j P) wr (((wr.drew.setCell ⟨t, k * 3, none⟩ (.int .i64 id)).setCell ⟨t, k * 3 + 1, none⟩ (.int .i64 2)).setCell ⟨t, k * 3 + 2, none⟩ (.int .i64 va)) := ((hB0.wide.set (by simp [bl]) _).set (by simp [bl]) _).set (by simp [bl]) _
    exact ⟨_, rfl, hR.but hZ (fun x hx => hlt x hx), ls.set k [], hr _ _ (hP.keep hB0), l2, hB.trans hZ⟩
end
end Go.Proofs.Ytmbpmcgppnanpaa.Jl
