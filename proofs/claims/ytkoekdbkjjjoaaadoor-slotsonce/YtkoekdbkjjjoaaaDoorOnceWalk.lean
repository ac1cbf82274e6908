/- The walk of SlotsOnce. -/
import Derived.Test.YtkoekdbkjjjoaaaDoorOnceS
import Derived.Deep.CutRange
import Derived.BigRegion
namespace Go.Proofs.YtkoekdbkjjjoaaaDoor
open Go.RowKit

set_option maxRecDepth 100000 in
set_option maxHeartbeats 8000000 in
theorem once_any (m : Int) (a : Option Addr) (c : Nat) (f : List Nat) (w : World) (hm0 : 0 ≤ m) (hm1 : m ≤ 255) (hf : Uints w a f) (hfb : ∀ x ∈ f, x < 18446744073709551616) (hT : Tab w) :
    Calls Tryd.prog 5 #[.int .u8 m, .slice a f.length c] w fun e w' => e = .returned (.bool true) ∧ Below w.heap.size w w' := by
  by_cases hlen : 200 < f.length
  · have hlen' : (200 : Int) < (f.length : Int) := by omega
    go_enter Tryd.func5, Tryd.ntmps5
    go_wp2_with (first
      | (go_at_call 8; refine (lives_any _ hT).mono ?_; rintro e w' ⟨rfl, hb⟩))
    go_ret
    exact ⟨rfl, hb⟩
  · have hlen' : (f.length : Int) ≤ 200 := by omega
    obtain ⟨n, hn⟩ : ∃ n : Nat, 1 + m % 20 = (n : Int) := ⟨(1 + m % 20).toNat, by omega⟩
    have n1 : 1 ≤ n := by omega
    have n2 : n ≤ 4096 := by omega
    go_enter Tryd.func5, Tryd.ntmps5
    go_wp2_with (first
      | (go_at_call 9; refine (new_some n n1 n2 w).mono ?_; rintro e w1 ⟨rfl, hr, hs, hB⟩; have hs' : Hid (w.heap.size + 2 ≤ w1.heap.size) := hs; clear hs))
    have hs := hs'.out
    have hO : OnS w w1 (w.heap.size + 1) w.heap.size w1.heap.size n (List.replicate n 0) (List.replicate n false) (.slice none 0 0) (.slice none 0 0) [] [] :=
      ⟨hr, World.ownsRow_nil _ _ 3 1, World.ownsRow_nil _ _ 3 1, (fun k e => by cases e), by omega, by omega, Nat.le_refl _, by omega, Nat.le_refl _, hB⟩
    have hC : Cmb n 0 (List.replicate n 0) (List.replicate n false) [] [] :=
      ⟨by simp, by simp, n2, by simp, by simp, by simp, List.Pairwise.nil, by simp [List.count_replicate]⟩
    clear hr hs' hB hs
    generalize w.heap.size + 1 = B at hO ⊢
    generalize w1.heap.size = lo at hO
    replace hO : ∃ G, OnS w w1 B G lo n (List.replicate n 0) (List.replicate n false) (.slice none 0 0) (.slice none 0 0) [] [] := ⟨_, hO⟩
    obtain ⟨G, hO⟩ := hO
    clear hm0 hm1 n1
    go_loopw [7, 8, 33] (fun tv lv q wr => ∃ (k : Nat) (ag : List Nat) (tk : List Bool) (told live : List Int), k ≤ f.length ∧ q = .int .i64 k ∧ told.length ≤ k ∧ OnS w wr B G lo n ag tk tv lv told live ∧ Cmb n k ag tk told live) (fun _ _ q _ => 200 - (intOf q).toNat)
    case atStart => exact ⟨0, _, _, [], [], by omega, rfl, by simp, hO, hC⟩
    case round =>
      clear hO hC
      obtain ⟨k, ag, tk, told, live, hk, rfl, htl, hO, hC⟩ := hrel
      by_cases hlt : k < f.length
      · obtain ⟨b', o, rfl, hc⟩ := (hf.below hO.k) k f[k] (by simp)
        have hlt' : (k : Int) < (f.length : Int) := by omega
        have hk0 : (0 : Int) ≤ (k : Int) := by omega
        have hxb : f[k] < 18446744073709551616 := hfb _ (List.getElem_mem hlt)
        generalize f[k] = x at hc hxb
        obtain ⟨ta, tc, rfl⟩ := own_shape hO.t
        obtain ⟨la, lc, rfl⟩ := own_shape hO.l
        have hTk := take_any hO.q (hO.tab hT)
        obtain ⟨t, hN⟩ : ∃ t : Bool, decide (live.length < n) = t := ⟨_, rfl⟩
        have hE : (takeE ag tk == 0) = t := by
          rw [← hN]
          unfold takeE
          cases ho : leastO ag tk with
          | none => have := hC.full (by omega) ho; simp; omega
          | some i => have := hC.free ho; simp; omega
        go_upto_if 50 with (first
          | (go_at_call 11; refine hTk.mono ?_; rintro e w2 ⟨rfl, hq2, hb2⟩; have hO2 := hO.step hq2 hb2; clear hq2 hb2 hTk hc))
        go_cut [7, 8, 14, 16, 33] from 33 to 125 (fun tv lv _ _ q wx => q = .int .i64 k ∧ ∃ (ag : List Nat) (tk : List Bool) (told live : List Int), told.length ≤ k + 1 ∧ OnS w wx B G lo n ag tk tv lv told live ∧ Cmb n (k + 1) ag tk told live)
        case first =>
          cases ho : leastO ag tk with
          | none =>
            obtain rfl : t = false := by rw [← hN]; exact decide_eq_false (hC.full (by omega) ho)
            have e1 : takeA ag tk = ag := by unfold takeA; rw [ho]
            have e2 : takeT ag tk = tk := by unfold takeT; rw [ho]
            rw [e1, e2] at hO2
            clear e1 e2 ho
            go_wp2_with fail
            go_meet
            case rel => exact ⟨rfl, ag, tk, told, live, by omega, hO2, hC.skip⟩
          | some i =>
            obtain rfl : t = true := by rw [← hN]; exact decide_eq_true (hC.free ho)
            obtain ⟨ht1, hl1, hC2⟩ := hC.take ho
            have hidb : -9223372036854775808 ≤ takeI ag tk ∧ takeI ag tk ≤ 9223372036854775807 := by
              unfold takeI
              rw [ho]
              have := idI_bd (i : Int) ((ag.getD i 0 + 1 : Nat) : Int)
              dsimp only
              omega
            have hlr : ∀ x ∈ live, right x := fun x hx => (live_iff (hC.ml x hx)).1
            have hln : live.length ≤ 4096 := by have := hC.free ho; omega
            clear hE hN ho hC hO
            generalize takeI ag tk = id at *
            generalize takeE ag tk = er at *
            generalize takeA ag tk = ag2 at *
            generalize takeT ag tk = tk2 at *
            go_wp2_with fail
            go_loopw [53] (fun q wx => ∃ j : Nat, j ≤ told.length ∧ q = .int .i64 j ∧ OnS w wx B G lo n ag2 tk2 (.slice ta told.length tc) (.slice la live.length lc) told live) (fun q _ => 200 - (intOf q).toNat)
            case atStart => exact ⟨0, by omega, rfl, hO2⟩
            case round =>
              clear hO2
              obtain ⟨j, hj, rfl, hO2⟩ := hrel
              by_cases hjl : j < told.length
              · obtain ⟨ta', tc', et, hti⟩ := hO2.t.open'
                simp only [Value.slice.injEq] at et
                obtain ⟨rfl, -, rfl⟩ := et
                obtain ⟨g, rfl, hcj⟩ := hti j told[j] (by simp)
                have hne : (told[j] == id) = false := by simpa using ht1 told[j] (List.getElem_mem hjl)
                have h1 : (j : Int) < (told.length : Int) := by omega
                have h0 : (0 : Int) ≤ (j : Int) := by omega
                generalize told[j] = y at hcj hne
                go_wp2_with fail
                go_roundw
                case rel => exact ⟨j + 1, by omega, by simp, hO2⟩
                case measure =>
                  simp [intOf]
                  omega
              · obtain rfl : j = told.length := by omega
                go_wp2_with fail
                go_loopw [63] (fun q wx => ∃ j : Nat, j ≤ live.length ∧ q = .int .i64 j ∧ OnS w wx B G lo n ag2 tk2 (.slice ta told.length tc) (.slice la live.length lc) told live) (fun q _ => 4096 - (intOf q).toNat)
                case atStart => exact ⟨0, by omega, rfl, hO2⟩
                case round =>
                  clear hO2
                  obtain ⟨j, hj, rfl, hO2⟩ := hrel
                  by_cases hjl : j < live.length
                  · obtain ⟨la', lc', et, hti⟩ := hO2.l.open'
                    simp only [Value.slice.injEq] at et
                    obtain ⟨rfl, -, rfl⟩ := et
                    obtain ⟨g, rfl, hcj⟩ := hti j live[j] (by simp)
                    have hne : (indexI live[j] == indexI id) = false := by simpa using hl1 live[j] (List.getElem_mem hjl)
                    have hrj := hlr live[j] (List.getElem_mem hjl)
                    have h1 : (j : Int) < (live.length : Int) := by omega
                    have h0 : (0 : Int) ≤ (j : Int) := by omega
                    generalize live[j] = y at hcj hne hrj
                    have i1 := index_any y (by omega) (by omega)
                    have i2 := index_any id hidb.1 hidb.2
                    clear hrj
                    go_wp2_with (first
                      | (go_at_call 23; (with_reducible refine (i1 _).mono ?_); rintro e w' ⟨rfl, hw⟩; subst w')
                      | (go_at_call 23; (with_reducible refine (i2 _).mono ?_); rintro e w' ⟨rfl, hw⟩; subst w'))
                    go_roundw
                    case rel => exact ⟨j + 1, by omega, by simp, hO2⟩
                    case measure =>
                      simp [intOf]
                      omega
                  · obtain rfl : j = live.length := by omega
                    go_wp2_with (first
                      | (at_builtin; refine wpList_app1 rfl (.tmp 73) (.tmp 75) rfl lo _ told rfl (OnS.below hO2 ((Below.refl _ wr).alloc (Nat.le_refl _) _)).t _ _ id rfl (reads_one _ _) (by omega) (OnS.below hO2 ((Below.refl _ wr).alloc (Nat.le_refl _) _)).sz ?_; intro v3 w3 hr3 hg3 ha3; have hO3 := (OnS.below hO2 ((Below.refl _ wr).alloc (Nat.le_refl _) _)).appT hr3 hg3 ha3; clear hr3 hg3 ha3 hO2)
                      | (at_builtin; refine wpList_app1 rfl (.tmp 77) (.tmp 79) rfl lo _ live rfl (OnS.below hO3 ((Below.refl _ w3).alloc (Nat.le_refl _) _)).l _ _ id rfl (reads_one _ _) (by omega) (OnS.below hO3 ((Below.refl _ w3).alloc (Nat.le_refl _) _)).sz ?_; intro v4 w4 hr4 hg4 ha4; have hO4 := (OnS.below hO3 ((Below.refl _ w3).alloc (Nat.le_refl _) _)).appL hr4 hg4 ha4; clear hr4 hg4 ha4 hO3))
                    go_meet
                    case rel => exact ⟨rfl, ag2, tk2, told ++ [id], live ++ [id], by simp; omega, hO4, hC2⟩
        case rest =>
          clear hO hO2 hC hE hN htl
          obtain ⟨rfl, ag, tk, told, live, htl, hO, hC⟩ := hcut
          obtain ⟨ta, tc, rfl⟩ := own_shape hO.t
          obtain ⟨la, lc, rfl⟩ := own_shape hO.l
          have e3 : Int.tmod (x : Int) 3 = ((x % 3 : Nat) : Int) := by rw [Int.tmod_eq_emod_of_nonneg (by omega)]; omega
          by_cases h3 : x % 3 = 0
          · rw [h3] at e3
            by_cases hpos : 0 < live.length
            · have hil : x / 3 % live.length < live.length := Nat.mod_lt _ hpos
              have hln : live.length ≤ 4096 := by have := hC.cnt; have := hC.n4; have := hC.tl; have := List.count_le_length (a := true) (l := tk); omega
              have e4 : Int.tdiv (x : Int) 3 = ((x / 3 : Nat) : Int) := by rw [Int.tdiv_eq_ediv_of_nonneg (by omega)]; omega
              have e5 : Int.tmod ((x / 3 : Nat) : Int) (live.length : Int) = ((x / 3 % live.length : Nat) : Int) := by rw [Int.tmod_eq_emod_of_nonneg (by omega)]; omega
              have hy := List.getElem?_eq_getElem hil
              have hw3 : IntKind.u64.wrap ((x / 3 : Nat) : Int) = ((x / 3 : Nat) : Int) := by rw [IntKind.wrap_u64]; omega
              generalize x / 3 = x3 at e4 e5 hil hy hw3
              generalize x3 % live.length = i at e5 hil hy
              generalize live[i] = y at hy
              obtain ⟨la', lc', et, hti⟩ := hO.l.open'
              simp only [Value.slice.injEq] at et
              obtain ⟨rfl, -, rfl⟩ := et
              obtain ⟨g, rfl, hcj⟩ := hti i y hy
              obtain ⟨g1, g2, g3, g4, hry, hC2⟩ := hC.gone hy
              have F1 := free_any hO.q y (by omega) (by omega)
              rw [g1] at F1
              have HL : ∀ W, SQ W B G n ag (freeT ag tk y) → Calls Tryd.prog 15 #[.pointer (some ⟨B, 0, none⟩), .int .i64 y] W fun e w' => e = .returned (.bool false) ∧ Drawn W w' := fun W hq => by
                have := live_any hq y (by omega) (by omega)
                rw [g2] at this
                exact this
              have HF : ∀ W, SQ W B G n ag (freeT ag tk y) → Calls Tryd.prog 13 #[.pointer (some ⟨B, 0, none⟩), .int .i64 y] W fun e w' => e = .returned (.int .i64 7) ∧ SQ w' B G n ag (freeT ag tk y) ∧ But [B] W w' := fun W hq => by
                have := free_any hq y (by omega) (by omega)
                rw [g3, g4] at this
                exact this
              clear g1 g2 g3 g4 hry hC
              generalize freeT ag tk y = tk2 at F1 HL HF hC2
              have hi0 : (0 : Int) ≤ (i : Int) := by omega
              have hi1 : (i : Int) < (live.length : Int) := by omega
              have hw1 : IntKind.u64.wrap (live.length : Int) = (live.length : Int) := by rw [IntKind.wrap_u64]; omega
              have hw2 : wrap64 (i : Int) = (i : Int) := by unfold wrap64; omega
              have hp : (0 : Int) < (live.length : Int) := by omega
              have Hy : Hid (live[i]? = some y) := hy
              clear hy hti
              go_wp2_with (first
                | (go_at_call 13; (with_reducible refine F1.mono ?_); rintro e w3 ⟨rfl, hq3, hb3⟩; have hO3 := hO.step hq3 (hb3.mono (by simp)); clear hq3 hb3)
                | (go_at_call 15; refine (HL _ hO3.q).mono ?_; rintro e w4 ⟨rfl, hd4⟩; have hO4 := hO3.drawn hd4; clear hO3 hd4)
                | (go_at_call 13; refine (HF _ hO4.q).mono ?_; rintro e w5 ⟨rfl, hq5, hb5⟩; have hO5 := hO4.step hq5 (hb5.mono (by simp)); clear hO4 hq5 hb5))
              clear F1 HL HF hcj hw1 hw2 hw3 e4 e5 e3 hO
              obtain ⟨la', lc', et, hlc, -, -, hti⟩ := RowI.shape hO5.l
              simp only [Value.slice.injEq, true_and] at et
              obtain ⟨rfl, rfl⟩ := et
              obtain ⟨ad2, hd2⟩ : ∃ ad2, ad2 = (if lc = i + 1 then (⟨g, 0, none⟩ : Addr) else ⟨g, i + 1, none⟩) := ⟨_, rfl⟩
              have R1 : Reads w5 (some ⟨g, 0, none⟩) lc (live.take i) := by
                refine .inr ⟨_, rfl, fun j z hz => ?_⟩
                have hj : j < i := by have := (List.getElem?_eq_some_iff.1 hz).1; rw [List.length_take] at this; omega
                rw [List.getElem?_take_of_lt hj] at hz
                obtain ⟨g', e, hcc⟩ := hti j z hz
                cases e
                rw [WideShapes.add_plain, Nat.zero_add]
                exact hcc
              have R2 : Reads w5 (some ad2) (lc - (i + 1)) (live.drop (i + 1)) := by
                refine .inr ⟨_, rfl, fun j z hz => ?_⟩
                rw [List.getElem?_drop] at hz
                have hj := (List.getElem?_eq_some_iff.1 hz).1
                rw [hd2, if_neg (by omega), WideShapes.add_plain]
                obtain ⟨g', e, hcc⟩ := hti _ z hz
                cases e
                exact hcc
              have ER : Hid (live.take i ++ live.drop (i + 1) = live.eraseIdx i) := (List.eraseIdx_eq_take_drop_succ live i).symm
              have L1 : Hid ((live.take i).length = i) := by show (live.take i).length = i; rw [List.length_take]; omega
              have L2 : Hid ((live.drop (i + 1)).length = live.length - (i + 1)) := by show (live.drop (i + 1)).length = _; simp
              have hjc : (i : Int) ≤ (lc : Int) := by omega
              have hj0 : (0 : Int) ≤ (i : Int) + 1 := by omega
              have hjq : (i : Int) + 1 ≤ (live.length : Int) := by omega
              have hqc : (live.length : Int) ≤ (lc : Int) := by omega
              have hjw : IntKind.i64.wrap ((i : Int) + 1) = (i : Int) + 1 := by rw [IntKind.wrap_i64]; omega
              have OW : (w5.alloc (.cells #[] 3)).drew.ownsRow w5.heap.size 3 1 (.slice (some ⟨w5.heap.size, 0, none⟩) 0 0) 0 (([] : List Int).map (Value.int .i64)) := own_none w5.drew
              have b1 : But [] w5 (w5.alloc (.cells #[] 3)).drew := ((But.refl [] w5).alloc _).drew
              have R1' := R1.but b1
              have hif : (if lc = i + 1 then some (⟨g, 0, none⟩ : Addr) else some ⟨g, i + 1, none⟩) = some ad2 := by rw [hd2]; split <;> rfl
              have HC2 : Hid (Cmb n (k + 1) ag tk2 told (live.eraseIdx i)) := hC2
              have hle : Hid ((live.eraseIdx i).length = i + (live.length - (i + 1))) := by show (live.eraseIdx i).length = _; rw [List.length_eraseIdx, if_pos hil]; omega
              clear hti R1 hd2 hC2
              generalize live.take i = qa at *
              generalize live.drop (i + 1) = qb at *
              go_region_law (first
                | (refine step_app rfl (.tmp 115) (.tmp 118) rfl w5.heap.size _ 0 [] rfl OW _ _ _ qa rfl L1.out R1' (by omega) (by simp [World.drew]) ?_; intro v6 w6 ho6 hg6; rw [Nat.zero_add, List.nil_append] at ho6; have hb6 : But [] w5 w6 := b1.grown hg6 (fun k e => by cases e; exact Nat.le_refl _); obtain ⟨sa6, sc6, rfl⟩ := own_shape ho6)
                | (refine step_app rfl (.tmp 119) (.tmp 123) rfl w5.heap.size _ i qa rfl ho6 _ _ _ qb rfl L2.out (R2.but hb6) (by omega) (by have := hb6.size; omega) ?_; intro v7 w7 ho7 hg7; have hb7 : But [] w5 w7 := hb6.grown hg7 (fun k e => (ho6.lt k e).1); obtain ⟨sa7, sc7, rfl⟩ := own_shape ho7))
              all_goals
                rw [ER.out] at ho7
                have hr7 : RowI w7 w5.heap.size (.slice sa7 (i + (live.length - (i + 1))) sc7) (live.eraseIdx i) := by unfold RowI; rw [hle.out]; exact ho7
                have hO7 := hO5.putL hb7 hr7
                have hC2 := HC2.out
                clear hO5 hr7 ho7 hb7 OW R1' R2 b1
                go_wp2_with fail
                go_roundw
                case rel => exact ⟨k + 1, ag, tk2, told, live.eraseIdx i, by omega, by simp, htl, hO7, hC2⟩
                case measure =>
                  simp [intOf]
                  omega
            · have hp : ¬ (0 : Int) < (live.length : Int) := by omega
              go_wp2_with fail
              go_roundw
              case rel => exact ⟨k + 1, ag, tk, told, live, by omega, by simp, htl, hO, hC⟩
              case measure =>
                simp [intOf]
                omega
          · have e6 : (((x % 3 : Nat) : Int) == 0) = false := by simp; omega
            go_wp2_with fail
            go_roundw
            case rel => exact ⟨k + 1, ag, tk, told, live, by omega, by simp, htl, hO, hC⟩
            case measure =>
              simp [intOf]
              omega
      · obtain rfl : k = f.length := by omega
        have hcn := hC.cnt
        have hLn := len_any hO.q
        have hAl : Calls Tryd.prog 20 #[.pointer (some ⟨B, 0, none⟩)] wr fun e w' => ∃ a c, e = .returned (.slice a live.length c) ∧ Below wr.heap.size wr w' := (all_any hO.q).mono fun e w' ⟨v, h1, h2, h3⟩ => by
          obtain ⟨a, c, rfl⟩ := own_shape h2
          rw [allL_count, ← hcn] at h1
          exact ⟨a, c, h1, h3⟩
        rw [← hcn] at hLn
        obtain ⟨la, lc, rfl⟩ := own_shape hO.l
        clear hcn
        go_wp2_with (first
          | (go_at_call 17; refine hLn.mono ?_; rintro e w' ⟨rfl, hw⟩; subst w')
          | (go_at_call 20; refine hAl.mono ?_; rintro e w3 ⟨a3, c3, rfl, hb3⟩; have hO3 := hO.below hb3)
          | (go_at_call 8; refine (lives_any _ (hO3.tab hT)).mono ?_; rintro e w4 ⟨rfl, hb4⟩))
        go_ret
        exact ⟨rfl, hO3.k.trans (hb4.mono hO3.k.size)⟩
end Go.Proofs.YtkoekdbkjjjoaaaDoor
