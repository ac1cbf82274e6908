/- The document's Make. -/
/- The document's New, Count, Copy. -/
import Derived.Test.YtjgclehghnmhnaaDoorJ03LCopies
import Derived.Test.YtjgclehghnmhnaaDoorJ04LCopies
namespace Go.Proofs.YtjgclehghnmhnaaDoor
open Go Go.RowKit

theorem find_at {p : Ac → Bool} : ∀ {xs : List Ac} {j : Nat}, j < xs.length → (∀ k, k < j → p (ac xs k) = false) → p (ac xs j) = true → xs.find? p = some (ac xs j)
  | x :: r, 0, _, _, h => by
    have h' : p x = true := h
    rw [List.find?_cons, h']
    rfl
  | x :: r, j + 1, hj, ha, h => by
    have h0 : p x = false := ha 0 (by omega)
    rw [List.find?_cons, h0]
    have e : ac (x :: r) (j + 1) = ac r j := by simp [ac]
    rw [e] at h ⊢
    exact find_at (by simpa using hj) (fun k hk => by
      have := ha (k + 1) (by omega)
      simpa [ac] using this) h
theorem find_no {p : Ac → Bool} {xs : List Ac} (ha : ∀ k, k < xs.length → p (ac xs k) = false) : xs.find? p = none := by
  rw [List.find?_eq_none]
  intro x hx
  obtain ⟨k, hk, rfl⟩ := List.mem_iff_getElem.1 hx
  have h1 := ha k hk
  rw [ac_of (List.getElem?_eq_getElem hk)] at h1
  simp [h1]
section
variable {w : World} {M N : Nat} {R : List Nat} {σ : Sta}
set_option maxHeartbeats 4000000 in
set_option maxRecDepth 100000 in
theorem rmake_any (h : RQ w M R N σ) (hok : Okk N σ) (q : Int) :
    Calls Tryd.prog 32 #[.pointer (some ⟨M, 0, none⟩), .int .i64 q] w fun e w' => e = .returned (.tuple #[.int .i64 (mkI σ q), .int .i64 (mkE σ q)]) ∧ ∃ R', RQ w' M R' N (mkS σ q) ∧ Step R w R' w' := by
  have hl4 := h.facts.1
  have hlm : (mkS σ q).xs.length ≤ 4096 := Nat.le_trans (hok.make q).len hok.n4
  have HK := fun W b => RQ.back h (W := W) b
  obtain ⟨z, hz⟩ : ∃ z, Hid (mkI σ q = z) := ⟨_, rfl⟩
  obtain ⟨pe, hpe⟩ : ∃ pe, Hid (mkE σ q = pe) := ⟨_, rfl⟩
  obtain ⟨τ, hτ⟩ : ∃ τ, Hid (mkS σ q = τ) := ⟨_, rfl⟩
  rw [hz.out, hpe.out, hτ.out]
  by_cases hq : q < 1 ∨ 16 < q
  · have HZ : Hid (z = 0 ∧ pe = 2 ∧ τ = σ) := by
      obtain ⟨e1, e2, e3⟩ := mk_out (σ := σ) hq
      exact ⟨hz.out.symm.trans e1, hpe.out.symm.trans e2, hτ.out.symm.trans e3⟩
    clear hz hpe hτ hlm
    by_cases hq1 : q < 1
    · clear hq
      go_enter Tryd.func32, Tryd.ntmps32
      go_wp2_with fail
      go_ret2
      exact ⟨by rw [HZ.out.1, HZ.out.2.1]; rfl, by rw [HZ.out.2.2]; exact HK _ (Below.refl _ _)⟩
    · have hq2 : 16 < q := by omega
      clear hq
      go_enter Tryd.func32, Tryd.ntmps32
      go_wp2_with fail
      go_ret2
      exact ⟨by rw [HZ.out.1, HZ.out.2.1]; rfl, by rw [HZ.out.2.2]; exact HK _ (Below.refl _ _)⟩
  · have hq1 : ¬ q < 1 := fun e => hq (.inl e)
    have hq2 : ¬ 16 < q := fun e => hq (.inr e)
    have HOLD : Hid (∀ x, x ∈ σ.xs → cacO σ.xs q = some x → z = x.id ∧ pe = 0 ∧ τ = { σ with xs := insA { x with st := 1 } σ.xs }) := fun x _ hc => by
      obtain ⟨e1, e2, e3⟩ := mk_old hq hc
      exact ⟨hz.out.symm.trans e1, hpe.out.symm.trans e2, hτ.out.symm.trans e3⟩
    have HNEW : Hid (cacO σ.xs q = none → (∃ j, leastO σ.ag σ.tk = some j ∧ z = takeI σ.ag σ.tk ∧ pe = 0 ∧ takeE σ.ag σ.tk = 0 ∧ τ = ⟨takeA σ.ag σ.tk, takeT σ.ag σ.tk, insA (newA (takeI σ.ag σ.tk) q) σ.xs⟩) ∨ (z = 0 ∧ pe = 3 ∧ takeE σ.ag σ.tk = 3 ∧ τ = σ ∧ takeA σ.ag σ.tk = σ.ag ∧ takeT σ.ag σ.tk = σ.tk)) := fun hc => by
      cases ho : leastO σ.ag σ.tk with
      | none =>
        obtain ⟨e1, e2, e3⟩ := mk_full hq hc ho
        obtain ⟨t1, t2, t3, t4⟩ := take_none ho
        exact .inr ⟨hz.out.symm.trans e1, hpe.out.symm.trans e2, t1, hτ.out.symm.trans e3, t3, t4⟩
      | some j =>
        obtain ⟨e1, e2, e3⟩ := mk_new hq hc ho
        have t : takeE σ.ag σ.tk = 0 := by unfold takeE; rw [ho]
        exact .inl ⟨j, rfl, hz.out.symm.trans e1, (hpe.out.symm.trans e2).trans t, t, hτ.out.symm.trans e3⟩
    rw [hτ.out] at hlm
    have HPU : ∀ (a a' : Ac), a ∈ σ.xs → a'.id = a.id → ∀ W, Below w.heap.size w W → Calls Tryd.prog 58 #[.pointer (some ⟨M, 0, none⟩), .agg (c16 a').toArray] W fun e w' => e = .returned (.tuple #[]) ∧ ∃ R', RQ w' M R' N { σ with xs := insA a' σ.xs } ∧ Step R W R' w' := fun a a' ha e W b => rput_any (h.below b) a' (by rw [len_upd h.facts.2 ha e]; exact hl4)
    have HRL : Hid (∀ x ∈ R, x < w.heap.size) := h.lt
    obtain ⟨S, A, K, v, rfl, hm⟩ := h
    obtain ⟨T0, hT0⟩ : ∃ T0, Hid (bR M S A K v = T0) := ⟨_, rfl⟩
    rw [hT0.out] at HK HPU HRL ⊢
    have HTK : ∀ W, Below w.heap.size w W → Calls Tryd.prog 59 #[.pointer (some ⟨S, 0, none⟩)] W fun e w' => e = .returned (.tuple #[.int .i64 (takeI σ.ag σ.tk), .int .i64 (takeE σ.ag σ.tk)]) ∧ RM w' M S A K N v { σ with ag := takeA σ.ag σ.tk, tk := takeT σ.ag σ.tk } ∧ Step T0 w T0 w' := fun W b => (rtake_any (hm.below b).s).mono (fun e w' ⟨e1, q1, q2⟩ => ⟨e1, (hm.below b).slots q1 q2, (Step.keep (.of_below b)).trans (Step.same (q2.mono (by rw [← hT0.out]; simp [bR])))⟩)
    have HM0 : ∀ W, Below w.heap.size w W → W.cell? ⟨M, 0, none⟩ = some (.pointer (some ⟨S, 0, none⟩)) := fun W b => (hm.below b).c0
    obtain ⟨sl, c, rfl, he⟩ := hm.shape
    have c1 := hm.c1
    obtain ⟨n, hN⟩ : ∃ n, Hid (σ.xs.length = n) := ⟨_, rfl⟩
    rw [hN.out] at c1 hl4
    clear hm hz hpe hτ hok hq
    go_enter Tryd.func32, Tryd.ntmps32
    go_upto_region 4 with fail
    go_loopw [21, 7] (fun v _ wr => ∃ j : Nat, j ≤ n ∧ v = .int .i64 j ∧ (∀ k, k < j → ((ac σ.xs k).sp == q && (ac σ.xs k).st == 5) = false) ∧ Below w.heap.size w wr) (fun v _ _ => 4096 - (intOf v).toNat)
    case atStart => exact ⟨0, Nat.zero_le _, rfl, fun k hk => by omega, Below.refl _ _⟩
    case round =>
      obtain ⟨j, hj, rfl, hall, hb⟩ := hrel
      have HALL := Hid.mk hall
      clear hall
      by_cases hlt : j < n
      · have hjx : j < σ.xs.length := by rw [hN.out]; exact hlt
        have HF : Hid (((ac σ.xs j).sp == q && (ac σ.xs j).st == 5) = true → cacO σ.xs q = some (ac σ.xs j)) := fun e => find_at hjx HALL.out e
        have hmem := Hid.mk (ac_mem hjx)
        have HE : Hid (((ac σ.xs j).sp == q && (ac σ.xs j).st == 5) = false → ∀ k, k < j + 1 → ((ac σ.xs k).sp == q && (ac σ.xs k).st == 5) = false) := fun e k hk => by
          by_cases h : k = j
          · rw [h]; exact e
          · exact HALL.out k (by omega)
        obtain ⟨b, o, rfl, hc⟩ := he.below hb j hjx
        have hlt' : (j : Int) < (n : Int) := by omega
        have hxr : wr.rangeAt b (o + j * 16) (c16 (ac σ.xs j)) := hc
        have hz0 := Cel.new wr (acA zA) 47
        have hth := hz0.there
        have hcx : Cel ((wr.alloc (.cells (acA zA) 47)).setCells wr.heap.size 0 (c16 (ac σ.xs j))) wr.heap.size (acA (ac σ.xs j)) 47 := hz0.ac _
        have B1 : Below w.heap.size w ((wr.alloc (.cells (acA zA) 47)).setCells wr.heap.size 0 (c16 (ac σ.xs j))) := (hb.alloc hb.size (.cells (acA zA) 47)).trans ((But.setCells _ 0 _).below (by have := hb.size; simp; omega) (by simpa using hb.size))
        have hXs : w.heap.size ≤ wr.heap.size := hb.size
        clear hc hz0
        generalize ac σ.xs j = x at *
        rw [zA_A] at *
        go_upto_region 5 with fail
        refine wp_region_lit ?_
        iterate 3 go_step
        refine wpList_load_mid rfl 47 (.tmp 23) rfl b (o + j * 16) rfl (c16 x) _ hxr Tryd.underlying47 rfl size16R ?_
        iterate 3 go_step
        refine wpList_store_mid rfl 47 (.tmp 7) (.tmp 24) rfl wr.heap.size 0 (c16 x).toArray rfl rfl hth size16R (c16_one _) ?_
        rw [show (c16 x).toArray.toList = c16 x from rfl]
        generalize (World.setCells _ wr.heap.size 0 (c16 x)) = w1 at *
        generalize wr.heap.size = X at *
        generalize (Value.agg (c16 x).toArray) = gx at *
        clear hth hxr
        have n0 : w1.cell? ⟨X, 0, none⟩ = some (.int .i64 x.id) := hcx.cell (j := 0) rfl
        have n1 : w1.cell? ⟨X, 1, none⟩ = some (.int .i64 x.st) := hcx.cell (j := 1) rfl
        have n2 : w1.cell? ⟨X, 2, none⟩ = some (.int .i64 x.sp) := hcx.cell (j := 2) rfl
        have f1 := hcx.fz 1
        have B1' : Below w.heap.size w w1 := B1
        clear hb hjx
        by_cases h2 : x.sp = q
        · have h2' : (x.sp == q) = true := by simpa using h2
          by_cases h3 : x.st = 5
          · have h3' : (x.st == 5) = true := by simpa using h3
            have HZ := Hid.mk (HOLD.out x hmem.out (HF.out (by rw [h2', h3']; rfl)))
            have hc2 : Cel (w1.setCell ⟨X, 1, none⟩ (.int .i64 1)) X (acA { x with st := 1 }) 47 := hcx.set (j := 1) _
            have bX : Below w.heap.size w (w1.setCell ⟨X, 1, none⟩ (.int .i64 1)) := B1.trans (((But.refl [X] w1).set (p := ⟨X, 1, none⟩) (by simp) _).below B1.size (by simpa using hXs))
            have hP := HPU x { x with st := 1 } hmem.out rfl _ bX
            have hrv := hc2.range
            have m0 : (w1.setCell ⟨X, 1, none⟩ (.int .i64 1)).cell? ⟨X, 0, none⟩ = some (.int .i64 x.id) := hc2.cell (j := 0) rfl
            have hXn : X ∉ T0 := fun e => by
              have := HRL.out _ e
              omega
            clear HOLD HNEW HPU HTK HM0 hcx hc2 HF HE h2 h3 HK he
            go_upto_region 8 with fail
            generalize w1.setCell ⟨X, 1, none⟩ (.int .i64 1) = W2 at *
            refine wp_region_lit ?_
            iterate 3 go_step
            refine wpList_load_mid rfl 47 (.tmp 7) rfl X 0 rfl (c16 { x with st := 1 }) _ hrv Tryd.underlying47 rfl size16R ?_
            go_wp2_with (go_at_call 58; (refine hP.mono ?_); rintro e w3 ⟨rfl, R', q3, s3⟩; have k0 := s3.but.cell' m0 hXn)
            go_ret2
            exact ⟨by rw [HZ.out.1, HZ.out.2.1]; rfl, R', by rw [HZ.out.2.2]; exact q3, (Step.keep (.of_below bX)).trans s3⟩
          · have h3' : (x.st == 5) = false := by simpa using h3
            have HE1 := Hid.mk (HE.out (by rw [h2', h3']; rfl))
            clear h2 h3 HE HF
            go_wp2_with fail
            go_roundw
            case rel => exact ⟨j + 1, by omega, by simp, HE1.out, B1'⟩
            case measure =>
              simp [intOf]
              omega
        · have h2' : (x.sp == q) = false := by simpa using h2
          have HE1 := Hid.mk (HE.out (by rw [h2']; rfl))
          clear h2 HE HF
          go_wp2_with fail
          go_roundw
          case rel => exact ⟨j + 1, by omega, by simp, HE1.out, B1'⟩
          case measure =>
            simp [intOf]
            omega
      · obtain rfl : j = n := by omega
        have hcac : cacO σ.xs q = none := find_no (fun k hk => HALL.out k (by rw [← hN.out]; exact hk))
        have z0 := HM0 _ hb
        have hT := HTK _ hb
        rcases HNEW.out hcac with ⟨jj, -, e1, e2, e3, e4⟩ | ⟨e1, e2, e3, e4, e5, e6⟩
        · rw [e3] at hT
          have HZ : Hid (z = takeI σ.ag σ.tk ∧ pe = 0 ∧ τ = ⟨takeA σ.ag σ.tk, takeT σ.ag σ.tk, insA (newA (takeI σ.ag σ.tk) q) σ.xs⟩) := ⟨e1, e2, e4⟩
          rw [e4] at hlm
          have HP2 : ∀ w', RM w' M S A K N (.slice sl σ.xs.length c) { σ with ag := takeA σ.ag σ.tk, tk := takeT σ.ag σ.tk } → Calls Tryd.prog 58 #[.pointer (some ⟨M, 0, none⟩), .agg #[.int .i64 (takeI σ.ag σ.tk), .int .i64 1, .int .i64 q, .int .i64 (-1), .int .i64 0, .int .i64 0, .int .i64 0, .int .i64 0, .int .i64 0, .int .i64 0, .int .i64 0, .int .i64 0, .int .i64 0, .int .i64 0, .int .i64 0, .int .i64 0]] w' fun e w3 => e = .returned (.tuple #[]) ∧ ∃ R', RQ w3 M R' N ⟨takeA σ.ag σ.tk, takeT σ.ag σ.tk, insA (newA (takeI σ.ag σ.tk) q) σ.xs⟩ ∧ Step T0 w' R' w3 := fun w' hr => rput_any ⟨S, A, K, _, hT0.out.symm, hr⟩ (newA (takeI σ.ag σ.tk) q) hlm
          clear e1 e2 e3 e4 HOLD HNEW HPU HTK HM0 HK hlm he
          generalize takeI σ.ag σ.tk = ti at *
          go_wp2_with (first | (go_at_call 59; (with_reducible refine hT.mono ?_); rintro e w2 ⟨rfl, q2, s2⟩; have hP2 := HP2 w2 q2) | (go_at_call 58; (with_reducible refine hP2.mono ?_); rintro e w3 ⟨rfl, R', q3, s3⟩; have s4 := s2.trans s3))
          go_ret2
          exact ⟨by rw [HZ.out.1, HZ.out.2.1]; rfl, R', by rw [HZ.out.2.2]; exact q3, s4⟩
        · rw [e3, e5, e6] at hT
          have HZ : Hid (z = 0 ∧ pe = 3 ∧ τ = σ) := ⟨e1, e2, e4⟩
          clear e1 e2 e3 e4 e5 e6 HOLD HNEW HPU HTK HM0 HK hlm he
          generalize takeI σ.ag σ.tk = ti at *
          go_wp2_with (go_at_call 59; (with_reducible refine hT.mono ?_); rintro e w2 ⟨rfl, q2, s2⟩)
          go_ret2
          exact ⟨by rw [HZ.out.1, HZ.out.2.1]; rfl, T0, by rw [HZ.out.2.2]; exact ⟨S, A, K, _, hT0.out.symm, q2⟩, s2⟩
end
end Go.Proofs.YtjgclehghnmhnaaDoor
namespace Go.Proofs.YtjgclehghnmhnaaDoor
open Go Go.RowKit

theorem step_ownG {ts e : TypeId} {z : Value} {size bytes : Nat} (ht : Tryd.prog.underlying ts = some (.slice e)) (hi : (Tryd.prog.info? e).map (fun i => (i.zero, i.size, i.bytes)) = some (some z, size, bytes)) (hzs : z.cells.size = size) (hsz : 0 < size)
    {w : World} {ops : Array Oper} {o : Oper} {a : Act} {K : Act → World → Prop} {Q : Exit → Act → World → Prop} {E : Prop} (hg : o.guard = none) (s x : Operand) (hop : o.op = Op.call { callee := Callee.builtin Builtin.append, args := #[s, x], argTypes := #[ts, ts] })
    (B n : Nat) (v : Value) (xs : List Value) (hs : a.eval s = v) (hown : w.ownsRow B e size v n xs) (sp : Option Addr) (m c : Nat) (ys : List Value) (hx : a.eval x = .slice sp m c) (hy : Rw w sp ys) (hyl : ys.length = m * size) (h1 : ∀ u ∈ ys, u.oneCell' = true)
    (h63 : n + m ≤ maxLen) (hbytes : (n + m) * bytes ≤ 140737488355328) (hb : B ≤ w.heap.size)
    (hK : ∀ v' w', w'.ownsRow B e size v' (n + m) (xs ++ ys) → w.grownBy w' v.ownBlock → (v'.ownBlock = v.ownBlock ∨ v'.ownBlock = some w.heap.size) → K (a.put o.dst v') w') :
    if Region.wanted o (yielded ops a.tmps) = true then Oper.wp Tryd.prog o a w K Q else E := by
  have hw : Region.wanted o (yielded ops a.tmps) = true := by simp [Region.wanted, hg]
  rw [if_pos hw]
  obtain ⟨v', w', hrun, r1, r2, r3⟩ := run_own (ty := o.type) (c := c) ht hi hzs hsz hown hy hyl h1 h63 hbytes hb
  unfold Oper.wp execOp
  simp only [hop, resolve, invoke, builtin, Sem.run_bind, Sem.run_pure, Result.andThen_ok, List.map_toArray, List.map_cons, List.map_nil, hs, hx, hrun]
  exact hK v' w' r1 r2 r3
theorem own0 (W : World) (t : TypeId) : (W.alloc (.cells #[] t)).ownsRow W.heap.size t 1 (.slice (some ⟨W.heap.size, 0, none⟩) 0 0) 0 [] :=
  World.ownsRow_lit (base := W.heap.size) (e := t) (size := 1) W #[] 0 (Nat.le_refl _) (Nat.zero_le _) rfl
theorem own_row {W : World} {B n : Nat} {t : TypeId} {v : Value} {vs : List Value} (h : W.ownsRow B t 1 v n vs) (h1 : 1 ≤ n) : ∃ g cap, v = .slice (some ⟨g, 0, none⟩) n cap ∧ B ≤ g ∧ Row W g t vs := by
  rcases h.2 with ⟨_, h0⟩ | ⟨g, cap, cur, rfl, hg, hb, _, _, _, hx⟩
  · omega
  · refine ⟨g, cap, rfl, hg, cur, hb, fun j u hu => ?_⟩
    rw [← hx, List.getElem?_take] at hu
    split at hu
    · rw [← Array.getElem?_toList]
      exact hu
    · cases hu
theorem Row.rw {W : World} {g : Nat} {t : TypeId} {vs : List Value} (h : Row W g t vs) : Rw W (some ⟨g, 0, none⟩) vs := fun j u hu => ⟨g, 0, rfl, by
  rw [Nat.zero_add]
  exact h.cell hu⟩
theorem info3i : (Tryd.prog.info? 3).map (fun i => (i.zero, i.size, i.bytes)) = some (some (.int .i64 0), 1, 8) := by kernel_rfl
theorem int_one (xs : List Nat) : ∀ u ∈ xs.map (fun x : Nat => Value.int .i64 x), u.oneCell' = true := fun u hu => by
  obtain ⟨x, _, rfl⟩ := List.mem_map.1 hu
  rfl
theorem bool_one (xs : List Bool) : ∀ u ∈ xs.map Value.bool, u.oneCell' = true := fun u hu => by
  obtain ⟨x, _, rfl⟩ := List.mem_map.1 hu
  rfl
section
variable {w : World} {M A T n : Nat} {ag : List Nat} {tk : List Bool}
/-- Two rows and the box. -/
theorem rs_made {W : World} {g1 g2 c1 c2 : Nat} (r1 : Row W g1 3 (ag.map (fun x : Nat => Value.int .i64 x))) (r2 : Row W g2 4 (tk.map Value.bool)) (hne : g1 ≠ g2) (al : ag.length = n) (tl : tk.length = n) (le : n ≤ 4096) (ab : ∀ x ∈ ag, x ≤ 2147483647) :
    RS (W.alloc (.cells #[.slice (some ⟨g1, 0, none⟩) n c1, .slice (some ⟨g2, 0, none⟩) n c2] 98)) W.heap.size g1 g2 n ag tk := by
  have hb : Below W.heap.size W (W.alloc (.cells #[.slice (some ⟨g1, 0, none⟩) n c1, .slice (some ⟨g2, 0, none⟩) n c2] 98)) := (Below.refl _ _).alloc (Nat.le_refl _) _
  exact ⟨⟨c1, c2, Cel.new W _ _⟩, r1.put (hb.block _ r1.lt), r2.put (hb.block _ r2.lt), by have := r1.lt; omega, by have := r2.lt; omega, hne, al, tl, le, ab⟩
set_option maxHeartbeats 4000000 in
set_option maxRecDepth 100000 in
theorem r4copy_any (h : RS w M A T n ag tk) (hn1 : 1 ≤ n) :
    Calls Tryd.prog 56 #[.pointer (some ⟨M, 0, none⟩)] w fun e w' => ∃ M2 A2 T2, e = .returned (.pointer (some ⟨M2, 0, none⟩)) ∧ RS w' M2 A2 T2 n ag tk ∧ Below w.heap.size w w' ∧ w.heap.size ≤ M2 ∧ w.heap.size ≤ A2 ∧ w.heap.size ≤ T2 := by
  obtain ⟨ca, c0⟩ := h.c0
  obtain ⟨ct, c1⟩ := h.c1
  have HA : ∀ W, Below w.heap.size w W → Rw W (some ⟨A, 0, none⟩) (ag.map (fun x : Nat => Value.int .i64 x)) := fun W b => (h.keep (.of_below b)).a.rw
  have HT : ∀ W, Below w.heap.size w W → Rw W (some ⟨T, 0, none⟩) (tk.map Value.bool) := fun W b => (h.keep (.of_below b)).t.rw
  have hal : (ag.map (fun x : Nat => Value.int .i64 x)).length = n * 1 := by rw [List.length_map, h.al]; omega
  have htl : (tk.map Value.bool).length = n * 1 := by rw [List.length_map, h.tl]; omega
  have h4 := h.le
  have hmx : 0 + n ≤ maxLen := by unfold maxLen; omega
  have HRS : ∀ W g1 g2 c1 c2, Row W g1 3 (ag.map (fun x : Nat => Value.int .i64 x)) → Row W g2 4 (tk.map Value.bool) → g1 ≠ g2 → RS (W.alloc (.cells #[.slice (some ⟨g1, 0, none⟩) n c1, .slice (some ⟨g2, 0, none⟩) n c2] 98)) W.heap.size g1 g2 n ag tk := fun W g1 g2 c1 c2 r1 r2 hne => rs_made r1 r2 hne h.al h.tl h.le h.ab
  clear h
  go_enter Tryd.func56, Tryd.ntmps56
  go_upto_region 1 with fail
  have b0 : Below w.heap.size w w.drew := below_drew w
  have sz0 : Hid (w.drew.heap.size = w.heap.size) := rfl
  refine wp_region_held_drew (S := (fun w' : World => w'.cell? ⟨M, 0, none⟩ = some (.slice (some ⟨A, 0, none⟩) n ca) ∧ w'.cell? ⟨M, 1, none⟩ = some (.slice (some ⟨T, 0, none⟩) n ct))) (by kernel_rfl) ⟨cell_on b0 c0, cell_on b0 c1⟩ (fun hHeld => ?_)
  generalize w.drew = W0 at *
  refine anyH_take (i := 1) (v := ?_) (some 4) rfl rfl (by kernel_rfl) (fun _ _ _ h => h) (Or.inl ⟨by rfl, ?_⟩) (by assumption) ?_
  rotate_left
  · (intro w hSw; obtain ⟨z0, z1⟩ := hSw; go_simp; all_goals with_reducible rfl)
  try simp only [Act.put, List.setIfInBounds_toArray, List.set_cons_zero, List.set_cons_succ]
  refine anyH_take (i := 2) (v := ?_) (some 5) rfl rfl (by kernel_rfl) (fun _ _ _ h => h) (Or.inl ⟨by rfl, ?_⟩) (by assumption) ?_
  rotate_left
  · (intro w hSw; obtain ⟨z0, z1⟩ := hSw; go_simp; all_goals with_reducible rfl)
  try simp only [Act.put, List.setIfInBounds_toArray, List.set_cons_zero, List.set_cons_succ]
  refine anyH_take (i := 3) (v := ?_) (some 6) rfl rfl (by kernel_rfl) (fun _ _ _ h => h) (Or.inl ⟨by rfl, ?_⟩) (by assumption) ?_
  rotate_left
  · (intro w hSw; obtain ⟨z0, z1⟩ := hSw; go_simp; all_goals with_reducible rfl)
  try simp only [Act.put, List.setIfInBounds_toArray, List.set_cons_zero, List.set_cons_succ]
  refine anyH_take (i := 4) (v := ?_) (some 7) rfl rfl (by kernel_rfl) (fun _ _ _ h => h) (Or.inl ⟨by rfl, ?_⟩) (by assumption) ?_
  rotate_left
  · (intro w hSw; obtain ⟨z0, z1⟩ := hSw; go_simp; all_goals with_reducible rfl)
  try simp only [Act.put, List.setIfInBounds_toArray, List.set_cons_zero, List.set_cons_succ]
  refine anyH_take (i := 7) (v := ?_) (some 10) rfl rfl (by kernel_rfl) (fun _ _ _ h => h) (Or.inl ⟨by rfl, ?_⟩) (by assumption) ?_
  rotate_left
  · (intro w hSw; obtain ⟨z0, z1⟩ := hSw; go_simp; all_goals with_reducible rfl)
  try simp only [Act.put, List.setIfInBounds_toArray, List.set_cons_zero, List.set_cons_succ]
  refine anyH_take (i := 8) (v := ?_) (some 11) rfl rfl (by kernel_rfl) (fun _ _ _ h => h) (Or.inl ⟨by rfl, ?_⟩) (by assumption) ?_
  rotate_left
  · (intro w hSw; obtain ⟨z0, z1⟩ := hSw; go_simp; all_goals with_reducible rfl)
  try simp only [Act.put, List.setIfInBounds_toArray, List.set_cons_zero, List.set_cons_succ]
  refine anyH_take (i := 9) (v := ?_) (some 12) rfl rfl (by kernel_rfl) (fun _ _ _ h => h) (Or.inl ⟨by rfl, ?_⟩) (by assumption) ?_
  rotate_left
  · (intro w hSw; obtain ⟨z0, z1⟩ := hSw; go_simp; all_goals with_reducible rfl)
  try simp only [Act.put, List.setIfInBounds_toArray, List.set_cons_zero, List.set_cons_succ]
  refine anyH_take (i := 10) (v := ?_) (some 13) rfl rfl (by kernel_rfl) (fun _ _ _ h => h) (Or.inl ⟨by rfl, ?_⟩) (by assumption) ?_
  rotate_left
  · (intro w hSw; obtain ⟨z0, z1⟩ := hSw; go_simp; all_goals with_reducible rfl)
  try simp only [Act.put, List.setIfInBounds_toArray, List.set_cons_zero, List.set_cons_succ]
  refine anyH_two (i := 0) (j := 6) (by kernel_rfl) rfl rfl (fun K hK => ?_) (fun K hK => ?_)
  · go_simp
    have b1 : Below w.heap.size w (W0.alloc (.cells #[] 3)) := b0.alloc b0.size _
    have oA : (W0.alloc (.cells #[] 3)).ownsRow W0.heap.size 3 1 (.slice (some ⟨W0.heap.size, 0, none⟩) 0 0) 0 [] := own0 W0 3
    have sz1 : Hid ((W0.alloc (.cells #[] 3)).heap.size = W0.heap.size + 1) := by
      show _ = _
      simp
    refine hK.out _ _ ⟨cell_on b1 c0, cell_on b1 c1⟩ (fun hHeld => ?_)
    clear hK K
    try simp only [Act.put, List.setIfInBounds_toArray, List.set_cons_zero, List.set_cons_succ]
    generalize (W0.alloc (.cells #[] 3)) = W1 at *
    obtain ⟨gA, hgA⟩ : ∃ g, Hid (W0.heap.size = g) := ⟨_, rfl⟩
    rw [hgA.out] at oA
    rw [hgA.out]
    refine anyH_two (i := 5) (j := 6) (by kernel_rfl) rfl rfl (fun K hK => ?_) (fun K hK => ?_)
    · refine step_ownG Tryd.underlying78 info3i rfl (by decide) rfl (.tmp 3) (.tmp 7) rfl gA 0 _ [] rfl oA _ _ _ _ rfl (HA _ b1) hal (int_one _) hmx (by omega) (by have := sz0.out; have := sz1.out; have := hgA.out; omega) ?_
      intro vA W2 pA grA obA
      rw [List.nil_append, Nat.zero_add] at pA
      have sz2 : Hid (W1.heap.size ≤ W2.heap.size) := grA.size
      have b2 : Below w.heap.size w W2 := b1.grown grA b1.size (fun x e => by have e3 : gA = x := Option.some.inj e; have := sz0.out; have := sz1.out; have := hgA.out; have := b0.size; omega)
      obtain ⟨qA, capA, eA, loA, rA⟩ := own_row pA hn1
      subst eA
      have qAlt : Hid (qA < W2.heap.size ∧ (qA = gA ∨ qA = W1.heap.size)) := ⟨rA.lt, by rcases obA with e | e <;> (cases e; simp)⟩
      clear pA obA grA oA
      refine hK.out _ _ ⟨cell_on b2 c0, cell_on b2 c1⟩ (fun hHeld => ?_)
      clear hK K
      try simp only [Act.put, List.setIfInBounds_toArray]
      refine anyH_one (i := 6) (by kernel_rfl) rfl (fun K hK => ?_)
      go_simp
      have b2_ : Below W2.heap.size W2 (W2.alloc (.cells #[] 4)) := (Below.refl _ _).alloc (Nat.le_refl _) _
      have b3 : Below w.heap.size w (W2.alloc (.cells #[] 4)) := b2.alloc b2.size _
      have oB : (W2.alloc (.cells #[] 4)).ownsRow W2.heap.size 4 1 (.slice (some ⟨W2.heap.size, 0, none⟩) 0 0) 0 [] := own0 W2 4
      have sz3 : Hid ((W2.alloc (.cells #[] 4)).heap.size = W2.heap.size + 1) := by
        show _ = _
        simp
      have rA := rA.put (b2_.block _ rA.lt)
      refine hK.out _ _ ⟨cell_on b3 c0, cell_on b3 c1⟩ (fun hHeld => ?_)
      clear hK K
      try simp only [Act.put, List.setIfInBounds_toArray, List.set_cons_zero, List.set_cons_succ]
      clear b2_
      generalize (W2.alloc (.cells #[] 4)) = W3 at *
      obtain ⟨gB, hgB⟩ : ∃ g, Hid (W2.heap.size = g) := ⟨_, rfl⟩
      rw [hgB.out] at oB
      rw [hgB.out]
      refine anyH_one (i := 11) (by kernel_rfl) rfl (fun K hK => ?_)
      refine step_ownG Tryd.underlying96 info4 rfl (by decide) rfl (.tmp 9) (.tmp 13) rfl gB 0 _ [] rfl oB _ _ _ _ rfl (HT _ b3) htl (bool_one _) hmx (by omega) (by have := sz0.out; have := sz1.out; have := sz2.out; have := sz3.out; have := hgB.out; omega) ?_
      intro vB W4 pB grB obB
      rw [List.nil_append, Nat.zero_add] at pB
      have sz4 : Hid (W3.heap.size ≤ W4.heap.size) := grB.size
      have b4 : Below w.heap.size w W4 := b3.grown grB b3.size (fun x e => by have e3 : gB = x := Option.some.inj e; have := sz0.out; have := sz1.out; have := sz2.out; have := sz3.out; have := hgB.out; have := b0.size; omega)
      have rA := rA.put (grB.block _ rA.lt (fun e2 => by have e3 : qA = gB := Option.some.inj e2; have := sz0.out; have := sz1.out; have := sz2.out; have := sz3.out; have := hgA.out; have := hgB.out; have := qAlt.out; omega))
      obtain ⟨qB, capB, eB, loB, rB⟩ := own_row pB hn1
      subst eB
      have qBlt : Hid (qB < W4.heap.size ∧ (qB = gB ∨ qB = W3.heap.size)) := ⟨rB.lt, by rcases obB with e | e <;> (cases e; simp)⟩
      clear pB obB grB oB
      refine hK.out _ _ ⟨cell_on b4 c0, cell_on b4 c1⟩ (fun hHeld => ?_)
      clear hK K
      try simp only [Act.put, List.setIfInBounds_toArray]
      have hne : qA ≠ qB := by
        have h1 := qAlt.out
        have h2 := qBlt.out
        have := hgA.out
        have := hgB.out
        have := sz0.out; have := sz1.out; have := sz2.out; have := sz3.out; have := sz4.out; omega
      have hRS := HRS W4 qA qB capA capB rA rB hne
      have bF : Below w.heap.size w (W4.alloc (.cells #[.slice (some ⟨qA, 0, none⟩) n capA, .slice (some ⟨qB, 0, none⟩) n capB] 98)) := b4.alloc b4.size _
      have lW : w.heap.size ≤ W4.heap.size := b4.size
      have lqA : w.heap.size ≤ qA := by have := sz0.out; have := sz1.out; have := sz2.out; have := sz3.out; have := sz4.out; have := hgA.out; have := b0.size; omega
      have lqB : w.heap.size ≤ qB := by have := sz0.out; have := sz1.out; have := sz2.out; have := sz3.out; have := sz4.out; have := hgB.out; have := b0.size; omega
      clear hgA hgB qAlt qBlt rA rB
      refine anyH_take (i := 12) (v := ?_) (some 15) rfl rfl (by kernel_rfl) (fun _ _ _ h => h) (Or.inl ⟨by rfl, ?_⟩) (by assumption) ?_
      rotate_left
      · (intro w hSw; obtain ⟨z0, z1⟩ := hSw; go_simp; all_goals with_reducible rfl)
      try simp only [Act.put]
      refine anyH_one (i := 13) (by kernel_rfl) rfl (fun K hK => ?_)
      go_simp
      refine hK.out _ _ ⟨cell_on bF c0, cell_on bF c1⟩ (fun hHeld => ?_)
      clear hK K
      try simp only [Act.put, List.setIfInBounds_toArray, List.set_cons_zero, List.set_cons_succ]
      refine anyH_one (i := 14) (by kernel_rfl) rfl (fun K hK => ?_)
      go_simp
      refine hK.out _ _ ⟨cell_on bF c0, cell_on bF c1⟩ (fun hHeld => ?_)
      clear hK K
      try simp only [Act.put, List.setIfInBounds_toArray, List.set_cons_zero, List.set_cons_succ]
      refine wpAnyH_done (by kernel_rfl) ?_ _
      go_wp2_with fail
      go_ret
      exact ⟨_, _, _, rfl, hRS, bF, lW, lqA, lqB⟩
    · go_simp
      have b2 : Below w.heap.size w (W1.alloc (.cells #[] 4)) := b1.alloc b1.size _
      have oB : (W1.alloc (.cells #[] 4)).ownsRow W1.heap.size 4 1 (.slice (some ⟨W1.heap.size, 0, none⟩) 0 0) 0 [] := own0 W1 4
      have sz2 : Hid ((W1.alloc (.cells #[] 4)).heap.size = W1.heap.size + 1) := by
        show _ = _
        simp
      have oA := owns_below oA ((Below.refl _ W1).alloc (Nat.le_refl _) (.cells #[] 4))
      refine hK.out _ _ ⟨cell_on b2 c0, cell_on b2 c1⟩ (fun hHeld => ?_)
      clear hK K
      try simp only [Act.put, List.setIfInBounds_toArray, List.set_cons_zero, List.set_cons_succ]
      generalize (W1.alloc (.cells #[] 4)) = W2 at *
      obtain ⟨gB, hgB⟩ : ∃ g, Hid (W1.heap.size = g) := ⟨_, rfl⟩
      rw [hgB.out] at oB
      rw [hgB.out]
      refine anyH_one (i := 5) (by kernel_rfl) rfl (fun K hK => ?_)
      refine step_ownG Tryd.underlying78 info3i rfl (by decide) rfl (.tmp 3) (.tmp 7) rfl gA 0 _ [] rfl oA _ _ _ _ rfl (HA _ b2) hal (int_one _) hmx (by omega) (by have := sz0.out; have := sz1.out; have := sz2.out; have := hgA.out; omega) ?_
      intro vA W3 pA grA obA
      rw [List.nil_append, Nat.zero_add] at pA
      have sz3 : Hid (W2.heap.size ≤ W3.heap.size) := grA.size
      have b3 : Below w.heap.size w W3 := b2.grown grA b2.size (fun x e => by have e3 : gA = x := Option.some.inj e; have := sz0.out; have := sz1.out; have := sz2.out; have := hgA.out; have := b0.size; omega)
      have oB := ownsRow_put oB (fun x e => grA.block x (World.ownsRow.lt oB x e).2 (fun e2 => by have e3 : gB = x := Option.some.inj e; have e4 : x = gA := Option.some.inj e2; have := sz0.out; have := sz1.out; have := sz2.out; have := hgA.out; have := hgB.out; omega))
      obtain ⟨qA, capA, eA, loA, rA⟩ := own_row pA hn1
      subst eA
      have qAlt : Hid (qA < W3.heap.size ∧ (qA = gA ∨ qA = W2.heap.size)) := ⟨rA.lt, by rcases obA with e | e <;> (cases e; simp)⟩
      clear pA obA grA oA
      refine hK.out _ _ ⟨cell_on b3 c0, cell_on b3 c1⟩ (fun hHeld => ?_)
      clear hK K
      try simp only [Act.put, List.setIfInBounds_toArray]
      refine anyH_one (i := 11) (by kernel_rfl) rfl (fun K hK => ?_)
      refine step_ownG Tryd.underlying96 info4 rfl (by decide) rfl (.tmp 9) (.tmp 13) rfl gB 0 _ [] rfl oB _ _ _ _ rfl (HT _ b3) htl (bool_one _) hmx (by omega) (by have := sz0.out; have := sz1.out; have := sz2.out; have := sz3.out; have := hgB.out; omega) ?_
      intro vB W4 pB grB obB
      rw [List.nil_append, Nat.zero_add] at pB
      have sz4 : Hid (W3.heap.size ≤ W4.heap.size) := grB.size
      have b4 : Below w.heap.size w W4 := b3.grown grB b3.size (fun x e => by have e3 : gB = x := Option.some.inj e; have := sz0.out; have := sz1.out; have := sz2.out; have := sz3.out; have := hgB.out; have := b0.size; omega)
      have rA := rA.put (grB.block _ rA.lt (fun e2 => by have e3 : qA = gB := Option.some.inj e2; have := sz0.out; have := sz1.out; have := sz2.out; have := sz3.out; have := hgA.out; have := hgB.out; have := qAlt.out; omega))
      obtain ⟨qB, capB, eB, loB, rB⟩ := own_row pB hn1
      subst eB
      have qBlt : Hid (qB < W4.heap.size ∧ (qB = gB ∨ qB = W3.heap.size)) := ⟨rB.lt, by rcases obB with e | e <;> (cases e; simp)⟩
      clear pB obB grB oB
      refine hK.out _ _ ⟨cell_on b4 c0, cell_on b4 c1⟩ (fun hHeld => ?_)
      clear hK K
      try simp only [Act.put]
      have hne : qA ≠ qB := by
        have h1 := qAlt.out
        have h2 := qBlt.out
        have := hgA.out
        have := hgB.out
        have := sz0.out; have := sz1.out; have := sz2.out; have := sz3.out; have := sz4.out; omega
      have hRS := HRS W4 qA qB capA capB rA rB hne
      have bF : Below w.heap.size w (W4.alloc (.cells #[.slice (some ⟨qA, 0, none⟩) n capA, .slice (some ⟨qB, 0, none⟩) n capB] 98)) := b4.alloc b4.size _
      have lW : w.heap.size ≤ W4.heap.size := b4.size
      have lqA : w.heap.size ≤ qA := by have := sz0.out; have := sz1.out; have := sz2.out; have := sz3.out; have := sz4.out; have := hgA.out; have := b0.size; omega
      have lqB : w.heap.size ≤ qB := by have := sz0.out; have := sz1.out; have := sz2.out; have := sz3.out; have := sz4.out; have := hgB.out; have := b0.size; omega
      clear hgA hgB qAlt qBlt rA rB
      refine anyH_take (i := 12) (v := ?_) (some 15) rfl rfl (by kernel_rfl) (fun _ _ _ h => h) (Or.inl ⟨by rfl, ?_⟩) (by assumption) ?_
      rotate_left
      · (intro w hSw; obtain ⟨z0, z1⟩ := hSw; go_simp; all_goals with_reducible rfl)
      try simp only [Act.put]
      refine anyH_one (i := 13) (by kernel_rfl) rfl (fun K hK => ?_)
      go_simp
      refine hK.out _ _ ⟨cell_on bF c0, cell_on bF c1⟩ (fun hHeld => ?_)
      clear hK K
      try simp only [Act.put, List.setIfInBounds_toArray, List.set_cons_zero, List.set_cons_succ]
      refine anyH_one (i := 14) (by kernel_rfl) rfl (fun K hK => ?_)
      go_simp
      refine hK.out _ _ ⟨cell_on bF c0, cell_on bF c1⟩ (fun hHeld => ?_)
      clear hK K
      try simp only [Act.put, List.setIfInBounds_toArray, List.set_cons_zero, List.set_cons_succ]
      refine wpAnyH_done (by kernel_rfl) ?_ _
      go_wp2_with fail
      go_ret
      exact ⟨_, _, _, rfl, hRS, bF, lW, lqA, lqB⟩
  · go_simp
    have b1 : Below w.heap.size w (W0.alloc (.cells #[] 4)) := b0.alloc b0.size _
    have oB : (W0.alloc (.cells #[] 4)).ownsRow W0.heap.size 4 1 (.slice (some ⟨W0.heap.size, 0, none⟩) 0 0) 0 [] := own0 W0 4
    have sz1 : Hid ((W0.alloc (.cells #[] 4)).heap.size = W0.heap.size + 1) := by
      show _ = _
      simp
    refine hK.out _ _ ⟨cell_on b1 c0, cell_on b1 c1⟩ (fun hHeld => ?_)
    clear hK K
    try simp only [Act.put, List.setIfInBounds_toArray, List.set_cons_zero, List.set_cons_succ]
    generalize (W0.alloc (.cells #[] 4)) = W1 at *
    obtain ⟨gB, hgB⟩ : ∃ g, Hid (W0.heap.size = g) := ⟨_, rfl⟩
    rw [hgB.out] at oB
    rw [hgB.out]
    refine anyH_one (i := 0) (by kernel_rfl) rfl (fun K hK => ?_)
    go_simp
    have b2 : Below w.heap.size w (W1.alloc (.cells #[] 3)) := b1.alloc b1.size _
    have oA : (W1.alloc (.cells #[] 3)).ownsRow W1.heap.size 3 1 (.slice (some ⟨W1.heap.size, 0, none⟩) 0 0) 0 [] := own0 W1 3
    have sz2 : Hid ((W1.alloc (.cells #[] 3)).heap.size = W1.heap.size + 1) := by
      show _ = _
      simp
    have oB := owns_below oB ((Below.refl _ W1).alloc (Nat.le_refl _) (.cells #[] 3))
    refine hK.out _ _ ⟨cell_on b2 c0, cell_on b2 c1⟩ (fun hHeld => ?_)
    clear hK K
    try simp only [Act.put, List.setIfInBounds_toArray, List.set_cons_zero, List.set_cons_succ]
    generalize (W1.alloc (.cells #[] 3)) = W2 at *
    obtain ⟨gA, hgA⟩ : ∃ g, Hid (W1.heap.size = g) := ⟨_, rfl⟩
    rw [hgA.out] at oA
    rw [hgA.out]
    refine anyH_one (i := 5) (by kernel_rfl) rfl (fun K hK => ?_)
    refine step_ownG Tryd.underlying78 info3i rfl (by decide) rfl (.tmp 3) (.tmp 7) rfl gA 0 _ [] rfl oA _ _ _ _ rfl (HA _ b2) hal (int_one _) hmx (by omega) (by have := sz0.out; have := sz1.out; have := sz2.out; have := hgA.out; omega) ?_
    intro vA W3 pA grA obA
    rw [List.nil_append, Nat.zero_add] at pA
    have sz3 : Hid (W2.heap.size ≤ W3.heap.size) := grA.size
    have b3 : Below w.heap.size w W3 := b2.grown grA b2.size (fun x e => by have e3 : gA = x := Option.some.inj e; have := sz0.out; have := sz1.out; have := sz2.out; have := hgA.out; have := b0.size; omega)
    have oB := ownsRow_put oB (fun x e => grA.block x (World.ownsRow.lt oB x e).2 (fun e2 => by have e3 : gB = x := Option.some.inj e; have e4 : x = gA := Option.some.inj e2; have := sz0.out; have := sz1.out; have := sz2.out; have := hgA.out; have := hgB.out; omega))
    obtain ⟨qA, capA, eA, loA, rA⟩ := own_row pA hn1
    subst eA
    have qAlt : Hid (qA < W3.heap.size ∧ (qA = gA ∨ qA = W2.heap.size)) := ⟨rA.lt, by rcases obA with e | e <;> (cases e; simp)⟩
    clear pA obA grA oA
    refine hK.out _ _ ⟨cell_on b3 c0, cell_on b3 c1⟩ (fun hHeld => ?_)
    clear hK K
    try simp only [Act.put, List.setIfInBounds_toArray]
    refine anyH_one (i := 11) (by kernel_rfl) rfl (fun K hK => ?_)
    refine step_ownG Tryd.underlying96 info4 rfl (by decide) rfl (.tmp 9) (.tmp 13) rfl gB 0 _ [] rfl oB _ _ _ _ rfl (HT _ b3) htl (bool_one _) hmx (by omega) (by have := sz0.out; have := sz1.out; have := sz2.out; have := sz3.out; have := hgB.out; omega) ?_
    intro vB W4 pB grB obB
    rw [List.nil_append, Nat.zero_add] at pB
    have sz4 : Hid (W3.heap.size ≤ W4.heap.size) := grB.size
    have b4 : Below w.heap.size w W4 := b3.grown grB b3.size (fun x e => by have e3 : gB = x := Option.some.inj e; have := sz0.out; have := sz1.out; have := sz2.out; have := sz3.out; have := hgB.out; have := b0.size; omega)
    have rA := rA.put (grB.block _ rA.lt (fun e2 => by have e3 : qA = gB := Option.some.inj e2; have := sz0.out; have := sz1.out; have := sz2.out; have := sz3.out; have := hgA.out; have := hgB.out; have := qAlt.out; omega))
    obtain ⟨qB, capB, eB, loB, rB⟩ := own_row pB hn1
    subst eB
    have qBlt : Hid (qB < W4.heap.size ∧ (qB = gB ∨ qB = W3.heap.size)) := ⟨rB.lt, by rcases obB with e | e <;> (cases e; simp)⟩
    clear pB obB grB oB
    refine hK.out _ _ ⟨cell_on b4 c0, cell_on b4 c1⟩ (fun hHeld => ?_)
    clear hK K
    try simp only [Act.put]
    have hne : qA ≠ qB := by
      have h1 := qAlt.out
      have h2 := qBlt.out
      have := hgA.out
      have := hgB.out
      have := sz0.out; have := sz1.out; have := sz2.out; have := sz3.out; have := sz4.out; omega
    have hRS := HRS W4 qA qB capA capB rA rB hne
    have bF : Below w.heap.size w (W4.alloc (.cells #[.slice (some ⟨qA, 0, none⟩) n capA, .slice (some ⟨qB, 0, none⟩) n capB] 98)) := b4.alloc b4.size _
    have lW : w.heap.size ≤ W4.heap.size := b4.size
    have lqA : w.heap.size ≤ qA := by have := sz0.out; have := sz1.out; have := sz2.out; have := sz3.out; have := sz4.out; have := hgA.out; have := b0.size; omega
    have lqB : w.heap.size ≤ qB := by have := sz0.out; have := sz1.out; have := sz2.out; have := sz3.out; have := sz4.out; have := hgB.out; have := b0.size; omega
    clear hgA hgB qAlt qBlt rA rB
    refine anyH_take (i := 12) (v := ?_) (some 15) rfl rfl (by kernel_rfl) (fun _ _ _ h => h) (Or.inl ⟨by rfl, ?_⟩) (by assumption) ?_
    rotate_left
    · (intro w hSw; obtain ⟨z0, z1⟩ := hSw; go_simp; all_goals with_reducible rfl)
    try simp only [Act.put]
    refine anyH_one (i := 13) (by kernel_rfl) rfl (fun K hK => ?_)
    go_simp
    refine hK.out _ _ ⟨cell_on bF c0, cell_on bF c1⟩ (fun hHeld => ?_)
    clear hK K
    try simp only [Act.put, List.setIfInBounds_toArray, List.set_cons_zero, List.set_cons_succ]
    refine anyH_one (i := 14) (by kernel_rfl) rfl (fun K hK => ?_)
    go_simp
    refine hK.out _ _ ⟨cell_on bF c0, cell_on bF c1⟩ (fun hHeld => ?_)
    clear hK K
    try simp only [Act.put, List.setIfInBounds_toArray, List.set_cons_zero, List.set_cons_succ]
    refine wpAnyH_done (by kernel_rfl) ?_ _
    go_wp2_with fail
    go_ret
    exact ⟨_, _, _, rfl, hRS, bF, lW, lqA, lqB⟩
end
end Go.Proofs.YtjgclehghnmhnaaDoor
