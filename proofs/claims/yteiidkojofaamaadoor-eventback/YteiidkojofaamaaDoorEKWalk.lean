/- EventBack. -/
import Derived.Test.YteiidkojofaamaaDoorERead
import Derived.Test.YteiidkojofaamaaDoorEEqual
import Derived.Test.YteiidkojofaamaaDoorELives
import Derived.BigQuiet
namespace Go.Proofs.YteiidkojofaamaaDoor
open Go Go.RowKit

theorem RdV.none {lo : Nat} {w' : World} {r : Ending} (h : RdV none lo w' r) : r = .returned (.tuple #[.slice none 0 0, .int .i64 10]) := h
theorem RdV.some {lo : Nat} {w' : World} {r : Ending} {zs : List Ev} (h : RdV (some zs) lo w' r) : ∃ a c, r = .returned (.tuple #[.slice a zs.length c, .int .i64 0]) ∧ EV w' a zs := by
  obtain ⟨v, rfl, ho⟩ := h
  obtain ⟨a, c, rfl, _, he, _⟩ := ho.sl
  exact ⟨a, c, rfl, he⟩
theorem byts_lit (w : World) {z : UInt8} {n : Int} (h : ((z.toNat : Nat) : Int) = n) : Byts (w.alloc (.cells #[.int .u8 n] 5)) (w.heap.size + 1) (some ⟨w.heap.size, 0, none⟩) 1 [z] :=
  .inr ⟨w.heap.size, 0, rfl, by omega, by simp, by unfold maxLen; omega, fun j x hx => by
    have hj0 : j = 0 := by have := (List.getElem?_eq_some_iff.1 hx).1; simpa using this
    subst hj0
    simp at hx
    subst hx
    rw [h]
    simp [go_sem]⟩
set_option maxHeartbeats 4000000 in
set_option maxRecDepth 100000 in
theorem back_tail {w : World} {a b : Option Addr} {xs : List Ev} {bs : List UInt8} (c d : Nat) (u : Int) (hx : EV w a xs) (hb : Byts w w.heap.size b d bs) (hR : ∀ e ∈ xs, RgE e) (hT : Tab w) (hu0 : 0 ≤ u) (hu : u ≤ 18446744073709551615) :
    Calls Tryd.prog 6 #[.slice a xs.length c, .slice b bs.length d, .int .u64 u] w fun r w' => r = .returned (.bool true) ∧ Below w.heap.size w w' := by
  have HL : ∀ W, Below w.heap.size w W → Calls Tryd.prog 17 #[] W fun r w' => r = .returned (.bool true) ∧ Below W.heap.size W w' := fun W h => lives_any (hT.on h)
  have b0 : Below w.heap.size w w := Below.refl _ _
  by_cases h40 : xs.length ≤ 40
  · by_cases h10 : bs.length ≤ 1000
    · have HRD := pread_any hb (by omega) hT
      have HBY : ∀ W, Below w.heap.size w W → (convert 29 9 (.slice b bs.length d)).run Tryd.prog W = .ok (.string ⟨bs.toArray⟩) W := fun W h => conv_byts (hb.but (S := []) (But.of_below h) (by simp)) rfl
      have h1 : (xs.length : Int) ≤ 40 := by omega
      have h2 : (bs.length : Int) ≤ 1000 := by omega
      have HA : ∀ W, Below w.heap.size w W → Calls Tryd.prog 25 #[.slice a xs.length c] W fun r w' => ∃ v, r = .returned v ∧ Own w' W.heap.size v (allE xs) ∧ Below W.heap.size W w' := fun W h => all_any c (hx.below h) hR (hT.on h) (by omega)
      have HX := Hid.mk hx
      have HRR := Hid.mk hR
      have HTT := Hid.mk hT
      obtain ⟨n, hN⟩ : ∃ n, Hid (xs.length = n) := ⟨_, rfl⟩
      obtain ⟨lb, hLB⟩ : ∃ lb, Hid (bs.length = lb) := ⟨_, rfl⟩
      have hn40 : n ≤ 40 := by rw [← hN.out]; exact h40
      rw [hN.out] at HA h1 ⊢
      rw [hLB.out] at HRD HBY h2 ⊢
      clear hx hb hR hT h40 h10
      go_enter Tryd.func6, Tryd.ntmps6
      go_upto_region 3 with fail
      go_cut [7, 8] from 27 to 109 (fun s7 s8 wx => ∃ o, Hid (readE MX bs = o) ∧ Below w.heap.size w wx ∧ ((∃ zs xa xc, o = some zs ∧ s7 = .slice xa zs.length xc ∧ s8 = .int .i64 0 ∧ EV wx xa zs) ∨ (o = none ∧ s7 = .slice none 0 0 ∧ s8 = .int .i64 10)))
      case first =>
        cases ho : readE MX bs with
        | none =>
          have HO : Hid (readE MX bs = none) := ho
          rw [ho] at HRD
          clear ho
          go_wp2_with (go_at_call 20; (with_reducible refine HRD.mono ?_); rintro r w1 ⟨hv, hb1⟩; obtain rfl := hv.none)
          go_meet
          case rel => exact ⟨none, HO, hb1, .inr ⟨rfl, rfl, rfl⟩⟩
        | some zs =>
          have HO : Hid (readE MX bs = some zs) := ho
          rw [ho] at HRD
          clear ho
          go_wp2_with (go_at_call 20; (with_reducible refine HRD.mono ?_); rintro r w1 ⟨hv, hb1⟩; obtain ⟨xa, xc, rfl, hev⟩ := hv.some)
          go_meet
          case rel => exact ⟨some zs, HO, hb1, .inl ⟨zs, xa, xc, rfl, rfl, rfl, hev⟩⟩
      case rest =>
        obtain ⟨o, HO, b1, ho⟩ := hcut
        clear HRD
        go_upto_region 4 with fail
        go_cut [41] from 32 to 109 (fun v wx => v = .bool false ∧ Below w.heap.size w wx)
        case first =>
          rcases ho with ⟨zs, xa, xc, rfl, rfl, rfl, ex1⟩ | ⟨rfl, rfl, rfl⟩
          · have HSD := Hid.mk (read_sound HO.out)
            have HA2 : ∀ W, Below w.heap.size w W → EV W xa zs → Calls Tryd.prog 25 #[.slice xa zs.length xc] W fun r w' => ∃ v, r = .returned v ∧ Own w' W.heap.size v bs ∧ Below W.heap.size W w' := fun W h he => by
              have := all_any xc he (fun e h => (HSD.out.2.2 e h).2) (HTT.out.on h) HSD.out.2.1
              rwa [← HSD.out.1] at this
            clear HO
            generalize zs.length = lz at *
            refine wp_region_held_drew (S := (fun w' => Below wc.drew.heap.size wc.drew w')) (by kernel_rfl) (Below.refl _ _) (fun hHeld => ?_)
            have bd := b1.drew
            have exd : EV wc.drew xa zs := ex1
            clear b1 ex1
            generalize wc.drew = W at *
            refine anyH_take (i := 0) (v := ?_) (some 32) rfl rfl (by kernel_rfl) (fun _ _ _ h => h) (Or.inl ⟨by rfl, ?_⟩) (by assumption) ?_
            rotate_left
            · (intro w hSw; go_simp; all_goals with_reducible rfl)
            try simp only [Act.put, List.setIfInBounds_toArray, List.set_cons_zero, List.set_cons_succ]
            refine anyH_take (i := 1) (v := ?_) (some 33) rfl rfl (by kernel_rfl) (fun _ _ _ h => h) (Or.inl ⟨by rfl, ?_⟩) (by assumption) ?_
            rotate_left
            · (intro w hSw; go_simp; all_goals with_reducible rfl)
            try simp only [Act.put, List.setIfInBounds_toArray, List.set_cons_zero, List.set_cons_succ]
            refine anyH_take (i := 2) (v := ?_) (some 34) rfl rfl (by kernel_rfl) (fun _ _ _ h => h) (Or.inl ⟨by rfl, ?_⟩) (by assumption) ?_
            rotate_left
            · (intro w hSw; go_simp; all_goals with_reducible rfl)
            try simp only [Act.put, List.setIfInBounds_toArray, List.set_cons_zero, List.set_cons_succ]
            refine anyH_take (i := 3) (v := ?_) (some 35) rfl rfl (by kernel_rfl) (fun _ _ _ h => h) (Or.inl ⟨by rfl, ?_⟩) (by assumption) ?_
            rotate_left
            · (intro w hSw; go_simp; all_goals with_reducible rfl)
            try simp only [Act.put, List.setIfInBounds_toArray, List.set_cons_zero, List.set_cons_succ]
            refine anyH_take (i := 6) (v := ?_) (some 38) rfl rfl (by kernel_rfl) (fun _ _ _ h => h) (Or.inl ⟨by rfl, ?_⟩) (by assumption) ?_
            rotate_left
            · (intro w hSw; go_simp; all_goals with_reducible rfl)
            try simp only [Act.put, List.setIfInBounds_toArray, List.set_cons_zero, List.set_cons_succ]
            refine anyH_take (i := 7) (v := ?_) (some 39) rfl rfl (by kernel_rfl) (fun _ _ _ h => h) (Or.inl ⟨by rfl, ?_⟩) (by assumption) ?_
            rotate_left
            · (intro w hSw; have qb := HBY w (bd.trans (hSw.mono bd.size)); go_simp; all_goals with_reducible rfl)
            try simp only [Act.put, List.setIfInBounds_toArray, List.set_cons_zero, List.set_cons_succ]
            refine anyH_one (i := 4) (by kernel_rfl) rfl (fun K hK => ?_)
            go_simp
            go_at_call 25
            refine (HA2 _ bd exd).mono ?_
            rintro e w3 ⟨v3, rfl, ho3, hb3⟩
            refine hK.out _ _ (hb3) (fun hHeld => ?_)
            clear hK K
            try simp only [Act.put, List.setIfInBounds_toArray, List.set_cons_zero, List.set_cons_succ]
            have b3 := bd.trans (hb3.mono bd.size)
            refine anyH_mono (S2 := fun w' => Below w3.heap.size w3 w') (fun w' h => hb3.trans (h.mono hb3.size)) ?_
            have hH3 : Below w3.heap.size w3 w3 := Below.refl _ _
            clear hHeld
            refine anyH_take (i := 5) (v := ?_) (some 37) rfl rfl (by kernel_rfl) (fun _ _ _ h => h) (Or.inl ⟨by rfl, ?_⟩) (by assumption) ?_
            rotate_left
            · (intro w hSw; have q1 := conv_own (ho3.below hSw); go_simp; all_goals with_reducible rfl)
            try simp only [Act.put, List.setIfInBounds_toArray, List.set_cons_zero, List.set_cons_succ]
            refine anyH_take (i := 8) (v := ?_) (some 40) rfl rfl (by kernel_rfl) (fun _ _ _ h => h) (Or.inl ⟨by rfl, ?_⟩) (by assumption) ?_
            rotate_left
            · (intro w hSw; go_simp; all_goals with_reducible rfl)
            try simp only [Act.put, List.setIfInBounds_toArray, List.set_cons_zero, List.set_cons_succ]
            refine anyH_take (i := 9) (v := ?_) (some 41) rfl rfl (by kernel_rfl) (fun _ _ _ h => h) (Or.inl ⟨by rfl, ?_⟩) (by assumption) ?_
            rotate_left
            · (intro w hSw; go_simp; all_goals with_reducible rfl)
            try simp only [Act.put, List.setIfInBounds_toArray, List.set_cons_zero, List.set_cons_succ]
            refine wpAnyH_done (by kernel_rfl) ?_ _
            go_wp2_with fail
            go_meet
            case rel => exact ⟨rfl, b3⟩
          · clear HO
            go_quiet (fail)
            go_wp2_with fail
            go_meet
            case rel => exact ⟨rfl, below_drewN b1 _⟩
        case rest =>
          obtain ⟨rfl, b2⟩ := hcut
          clear ho HO HBY b1
          go_wp2_with fail
          go_loopw [44, 10] (fun v44 _ wr => ∃ j : Nat, j ≤ n ∧ v44 = .int .i64 j ∧ (∀ i, i < j → goodE (ev xs i) = true) ∧ Below w.heap.size w wr) (fun v44 _ _ => 40 - (intOf v44).toNat)
          case atStart => exact ⟨0, Nat.zero_le _, rfl, fun i hi => by omega, b2⟩
          case round =>
            obtain ⟨j, hj, rfl, hall, hbr⟩ := hrel
            by_cases hlt : j < n
            · have hjx : j < xs.length := by rw [hN.out]; exact hlt
              obtain ⟨g, o, rfl, hcl⟩ := HX.out.below hbr j hjx
              obtain ⟨c0, c1, c2, c3, c4, c5, c6, c7, c8, c9, c10, c11, c12, c13, c14⟩ := hcl.cells
              have hlt' : (j : Int) < (n : Int) := by omega
              have HALL : Hid (∀ i, i < j → goodE (ev xs i) = true) := hall
              have Ba : Below w.heap.size w (wr.alloc (.cells (evA (ev xs j)) 26)) := hbr.alloc hbr.size _
              have HG := good_any (ev xs j) _ (HTT.out.on Ba)
              cases hg : goodE (ev xs j) with
              | false =>
                have HQ : Hid (allE xs = []) := all_bad hjx hg
                rw [hg] at HG
                rw [HQ.out] at HA
                clear hall hjx hcl hg
                generalize ev xs j = x at HG Ba c0 c1 c2 c3 c4 c5 c6 c7 c8 c9 c10 c11 c12 c13 c14
                unfold evA at HG Ba
                go_wp2_with (first
                  | (go_at_call 8; (with_reducible refine HG.mono ?_); rintro r w3 ⟨rfl, hb3⟩; have B3 := Ba.trans (hb3.mono Ba.size))
                  | (go_at_call 25; (with_reducible refine (HA _ B3).mono ?_); rintro r w4 ⟨v4, rfl, ho4, hb4⟩; obtain ⟨a4, k4, rfl, hy4⟩ := own_sl ho4 (n := 0) rfl; have B4 := B3.trans (hb4.mono B3.size))
                  | (go_at_call 17; (with_reducible refine (HL _ B4).mono ?_); rintro r w9 ⟨rfl, q9⟩))
                go_ret
                exact ⟨rfl, B4.trans (q9.mono B4.size)⟩
              | true =>
                rw [hg] at HG
                have HA1 : Hid (∀ i, i < j + 1 → goodE (ev xs i) = true) := fun i hi => by
                  by_cases e : i = j
                  · rw [e]; exact hg
                  · exact HALL.out i (by omega)
                clear hall hjx hcl hg
                generalize ev xs j = x at HG Ba c0 c1 c2 c3 c4 c5 c6 c7 c8 c9 c10 c11 c12 c13 c14
                unfold evA at HG Ba
                go_wp2_with (go_at_call 8; (with_reducible refine HG.mono ?_); rintro r w3 ⟨rfl, hb3⟩; have B3 := Ba.trans (hb3.mono Ba.size))
                go_roundw
                case rel => exact ⟨j + 1, by omega, by simp, HA1.out, B3⟩
                case measure =>
                  simp [intOf]
                  omega
            · obtain rfl : j = n := by omega
              have hgd : ∀ z ∈ xs, goodE z = true ∧ RgE z := fun z hz => by
                refine ⟨?_, HRR.out z hz⟩
                obtain ⟨i, hi, rfl⟩ := List.getElem_of_mem hz
                have := hall i (by rw [← hN.out]; exact hi)
                rwa [ev_of (List.getElem?_eq_getElem hi)] at this
              have hl24 : xs.length ≤ 1024 := by rw [hN.out]; omega
              have hal : allE xs = numL xs.length ++ xs.flatMap byt := all_good hl24 (fun i hi => (hgd _ (ev_mem hi)).1)
              have hM : 1099511627776 ≤ MX := by unfold MX; omega
              obtain ⟨ys, hys, hsm⟩ := read_all hM hl24 hgd
              have HCUT : Hid (∀ m, m < (allE xs).length → readE MX ((allE xs).take m) = none) := fun m hm => read_cut hM hl24 hgd hm
              have HMORE : Hid (∀ z, readE MX (allE xs ++ [z]) = none) := fun z => read_more hM hl24 hgd z
              have HYS : Hid (readE MX (allE xs) = some ys ∧ sameB ys xs = true) := ⟨hys, hsm⟩
              have hpos : 0 < (allE xs).length := by rw [hal, List.length_append]; have : 0 < (numL xs.length).length := numF_pos _ _; omega
              have hlen : (allE xs).length ≤ 7000 := by
                have h1 := numL_len xs.length
                have h2 := flat_bound xs
                rw [hN.out] at h2
                rw [hal, List.length_append]
                omega
              clear hall hgd hl24 hal hM hys hsm
              generalize allE xs = A at *
              obtain ⟨la, hLA⟩ : ∃ la, Hid (A.length = la) := ⟨_, rfl⟩
              rw [hLA.out] at hpos hlen
              have hp' : (0 : Int) < (la : Int) := by omega
              have hpz : ((la : Int) == 0) = false := by simp; omega
              have hl' : (la : Int) ≤ 7000 := by omega
              go_upto_region 15 with (go_at_call 25; (with_reducible refine (HA _ hbr).mono ?_); rintro r w4 ⟨v4, rfl, ho4, hb4⟩; obtain ⟨a4, k4, rfl, hy4⟩ := own_sl ho4 hLA.out; have B4 := hbr.trans (hb4.mono hbr.size))
              have P5 := pread_any hy4 (by rw [hLA.out]; omega) (HTT.out.on B4)
              rw [hLA.out, HYS.out.1] at P5
              have hcap : la ≤ k4 := by have := hy4.len; rw [hLA.out] at this; exact this
              have hcap' : (la : Int) ≤ (k4 : Int) := by omega
              obtain ⟨m, hm⟩ : ∃ m : Nat, (m : Int) = u % (la : Int) := ⟨(u % (la : Int)).toNat, by have := Int.emod_nonneg u (show (la : Int) ≠ 0 by omega); omega⟩
              have hmla : (m : Int) < (la : Int) := by rw [hm]; exact Int.emod_lt_of_pos u hp'
              have HML : Hid (m < A.length) := Hid.mk (by rw [hLA.out]; omega)
              have hmt : (A.take m).length = m := by rw [List.length_take, hLA.out]; omega
              have HMT := Hid.mk hmt
              have HY4 := Hid.mk hy4
              clear hy4 hmt
              have hmm : u % (la : Int) = (m : Int) := hm.symm
              clear hm
              go_upto_region 16 with (go_at_call 20; (with_reducible refine P5.mono ?_); rintro r w5 ⟨hv5, hb5⟩; obtain ⟨xa, xc, rfl, hev⟩ := hv5.some; have B5 := B4.trans (hb5.mono B4.size))
              have hm0 : (0 : Int) ≤ (m : Int) := by omega
              have hmk : (m : Int) ≤ (k4 : Int) := by omega
              have P6 := pread_any ((HY4.out.but (S := []) (But.of_below hb5) (by simp)).take m) (by rw [HMT.out]; have := HML.out; rw [hLA.out] at this; omega) (HTT.out.on B5)
              rw [HMT.out, HCUT.out m HML.out] at P6
              go_upto_region 17 with (go_at_call 20; (with_reducible refine P6.mono ?_); rintro r w6 ⟨hv6, hb6⟩; obtain rfl := hv6.none; have B6 := B5.trans (hb6.mono B5.size))
              obtain ⟨z, hz⟩ : ∃ z : UInt8, ((z.toNat : Nat) : Int) = u % 256 := ⟨UInt8.ofNat (u % 256).toNat, by rw [u8_small (by omega)]; omega⟩
              have HNB := own_nob w6
              have hy6 : Byts (w6.alloc (.cells #[] 5)) (max w4.heap.size 0) a4 k4 A := (((HY4.out.but (S := []) (But.of_below hb5) (by simp)).but (S := []) (But.of_below hb6) (by simp)).but (S := []) ((But.refl [] w6).alloc _) (by simp)).up (by omega)
              have HZ : Hid (((z.toNat : Nat) : Int) = u % 256) := hz
              clear hz P5 P6
              go_upto_region 18 with (first
                | (at_builtin; refine wpList_bown rfl _ _ rfl w6.heap.size _ [] rfl HNB _ _ _ _ A rfl hLA.out hy6 (by simp; omega) (by simp) ?_; intro v7 w7 ho7 hb7)
                | (at_builtin; refine wpList_bown rfl _ _ rfl w6.heap.size _ A rfl ((show Own w7 w6.heap.size v7 A from ho7).alloc _) _ _ _ _ [z] rfl rfl (byts_lit w7 HZ.out) (by rw [hLA.out]; simp; omega) (by have := hb7.size; simp at this ⊢; omega) ?_; intro v8 w8 ho8 hb8; obtain ⟨a8, c8, rfl, hy8⟩ := own_sl ho8 (n := la + 1) (by simp [hLA.out]); have q6 : Below w6.heap.size w6 w8 := (((Below.refl _ w6).alloc (Nat.le_refl _) (.cells #[] 5)).trans hb7 |>.alloc (by have := hb7.size; simp at this; omega) (.cells #[.int .u8 (u % 256)] 5)).trans hb8; have B8 := B6.trans (q6.mono B6.size); have P8 := pread_any hy8 (by simp [hLA.out]; omega) (HTT.out.on B8); rw [HMORE.out z, show (A ++ [z]).length = la + 1 by simp [hLA.out]] at P8)
                | (go_at_call 20; (with_reducible refine P8.mono ?_); rintro r w9 ⟨hv9, hb9⟩; obtain rfl := hv9.none; have B9 := B8.trans (hb9.mono B8.size)))
              have hev9 : EV w9 xa ys := (((hev.below hb6).below q6)).below hb9
              have HSM := psame_any xc c hev9 (HX.out.below B9) (by have h := of_decide_eq_true HYS.out.2; have h2 := congrArg List.length h; simp at h2; rw [h2, hN.out]; omega)
              rw [HYS.out.2, hN.out] at HSM
              clear hev P8 hev9
              generalize ys.length = ly at *
              go_wp2_with (first
                | (go_at_call 27; (with_reducible refine HSM.mono ?_); rintro r wa ⟨rfl, hba⟩; have Ba := B9.trans (hba.mono B9.size))
                | (go_at_call 17; (with_reducible refine (HL _ Ba).mono ?_); rintro r wb ⟨rfl, hbb⟩))
              go_ret
              exact ⟨rfl, Ba.trans (hbb.mono Ba.size)⟩
    · have h10' : (1000 : Int) < (bs.length : Int) := by omega
      have h40' : (xs.length : Int) ≤ 40 := by omega
      clear hx hb hR hT h40 h10
      generalize xs.length = n at *
      generalize bs.length = k at *
      go_enter Tryd.func6, Tryd.ntmps6
      go_wp2_with (go_at_call 17; (with_reducible refine (HL _ b0).mono ?_); rintro r w9 ⟨rfl, q9⟩)
      go_ret
      exact ⟨rfl, q9⟩
  · have h40' : (40 : Int) < (xs.length : Int) := by omega
    clear hx hb hR hT h40
    generalize xs.length = n at *
    generalize bs.length = k at *
    go_enter Tryd.func6, Tryd.ntmps6
    go_wp2_with (go_at_call 17; (with_reducible refine (HL _ b0).mono ?_); rintro r w9 ⟨rfl, q9⟩)
    go_ret
    exact ⟨rfl, q9⟩
end Go.Proofs.YteiidkojofaamaaDoor
